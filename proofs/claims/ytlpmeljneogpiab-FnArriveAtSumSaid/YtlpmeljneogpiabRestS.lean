/- SplitByRest, spec's. Condition: at most 1048576 numbers. -/
import Derived.Test.YtlpmeljneogpiabRest
import Derived.Deep.AppendLies
namespace Go.Proofs.Ytlpmeljneogpiab
open Go.RowKit

theorem infoBool : (Try.prog.info? 4).map (fun i => (i.zero, i.size, i.bytes)) = some (some (.bool false), 1, 1) := by kernel_rfl
theorem below_ns {w w' : World} (h : Below w.heap.size w w') (row : Option Nat) : w.grownBy w' row := g_below h row
/-- a row of marks: true where the number is less than 0 -/
def Given (w : World) (g : Nat) (D : List Int) (m : Nat) : Prop := w.rowIs g 4 m (fun i => .bool (decide (D.getD i 0 < 0)))
theorem given_keep {w w' : World} {g m : Nat} {D : List Int} (h : Given w g D m) (hB : Below w.heap.size w w') : Given w' g D m := World.rowIs.of_block h (hB.block g (World.rowIs.lt h))
theorem given_skip {w : World} {g g' m : Nat} {D : List Int} (h : Given w g D m) (k : Nat) (v : Value) (hne : g' ≠ g) : Given (w.setCell ⟨g', k, none⟩ v) g D m :=
  World.rowIs.of_block h (Below.heap_setCell w ⟨g', k, none⟩ v g (fun e => by first | exact hne e | exact hne e.symm))
theorem given_set {w : World} {g m : Nat} {D : List Int} (h : Given w g D m) (k : Nat) (hk : k < D.length) : Given (w.setCell ⟨g, k, none⟩ (.bool true)) g (D.set k (-1)) m :=
  (World.rowIs.set h k (.bool true)).congr (fun j hj => by
    show (if j = k then Value.bool true else .bool (decide (D.getD j 0 < 0))) = _
    rw [getD_set _ _ _ hk]; split <;> rfl)
/-- what a division leaves, read -/
def DivS (m : Nat) (R : List Int) (w : World) (e : Ending) (w' : World) : Prop := ∃ (b : Option Addr) (cap : Nat), e = .returned (.slice b m cap) ∧ IsInts w' b R ∧ Below w.heap.size w w'
theorem stotalN (m : Nat) (a : Option Addr) (cap : Nat) (zs : List Int) (w : World) (hl : zs.length = m) (h : IsInts w a zs) (hn : m ≤ 1048576) (hz : ∀ z ∈ zs, -1000000 ≤ z ∧ z ≤ 1000000) :
    Calls Try.prog 80 #[.slice a m cap] w fun e w' => e = .returned (.int .i64 zs.sum) ∧ w = w' := by
  subst hl; exact stotal a cap zs w h hn hz
theorem q_all {n : Int} {ws : List Int} (hcs : csB n ws = true) : ∀ z ∈ qs n ws, -1000000 ≤ z ∧ z ≤ 1000000 := fun z hz => by
  obtain ⟨i, hi, rfl⟩ := List.getElem_of_mem hz
  have hql := qs_len n ws
  have := q_le hcs (i := i) (by omega)
  rw [List.getD_eq_getElem?_getD, List.getElem?_eq_getElem hi] at this
  simp at this; omega
theorem own_isints {w : World} {base g n cap : Nat} {zs : List Int} (h : w.ownsRow base 3 1 (.slice (some ⟨g, 0, none⟩) n cap) n (zs.map (Value.int .i64))) (hl : zs.length = n) : IsInts w (some ⟨g, 0, none⟩) zs := by
  subst hl
  obtain ⟨b, c, hv, hi⟩ := own_ints h
  injection hv with h1 h2 h3
  rw [h1]; exact hi
def okD (D : List Int) (i : Nat) : Bool := decide (0 ≤ D.getD i 0)
theorem pickD_is (D : List Int) (hm : ∀ i, i < D.length → -1 ≤ D.getD i 0) {m : Nat} (hl : D.length = m) : ∀ k, k ≤ m → (pickS (okD D) (moreB D) k = -1 ∧ pickB (moreB D) k = 0 ∧ ∀ j, j < k → okD D j = false) ∨ (pickS (okD D) (moreB D) k = (pickB (moreB D) k : Nat) ∧ okD D (pickB (moreB D) k) = true ∧ pickB (moreB D) k < k) := by
  subst hl
  refine pickS_is (okD D) (moreB D) D.length (fun i b hi hb h1 h2 => ?_) (fun i b hi hb h1 => ?_)
  · unfold okD at h1 h2; unfold moreB
    simp at h1 h2 ⊢; omega
  · have a := hm i hi
    have b := hm b hb
    unfold okD at h1; unfold moreB
    simp only [decide_eq_false_iff_not] at h1 ⊢; omega
theorem pickS_skip (D : List Int) (k : Nat) (h : D.getD k 0 < 0) : pickS (okD D) (moreB D) (k + 1) = pickS (okD D) (moreB D) k := by
  show (if okD D k && _ then (k : Int) else pickS (okD D) (moreB D) k) = _
  have : okD D k = false := by unfold okD; exact decide_eq_false (by omega)
  rw [this]; simp
theorem pickS_first (D : List Int) (k : Nat) (h : ¬ D.getD k 0 < 0) (h1 : pickS (okD D) (moreB D) k = -1) : pickS (okD D) (moreB D) (k + 1) = k := by
  show (if okD D k && (decide (pickS (okD D) (moreB D) k < 0) || _) then (k : Int) else pickS (okD D) (moreB D) k) = _
  have : okD D k = true := by unfold okD; exact decide_eq_true (by omega)
  rw [this, h1]; simp
theorem pickS_next (D : List Int) (k b : Nat) (h : ¬ D.getD k 0 < 0) (h1 : pickS (okD D) (moreB D) k = (b : Int)) : pickS (okD D) (moreB D) (k + 1) = if D.getD b 0 < D.getD k 0 then (k : Int) else b := by
  show (if okD D k && (decide (pickS (okD D) (moreB D) k < 0) || moreB D k (pickS (okD D) (moreB D) k).toNat) then (k : Int) else pickS (okD D) (moreB D) k) = _
  have : okD D k = true := by unfold okD; exact decide_eq_true (by omega)
  rw [this, h1]
  have e : decide ((b : Int) < 0) = false := by simp
  rw [e, Int.toNat_natCast]
  unfold moreB
  simp

set_option maxHeartbeats 2000000 in
theorem sbyRest (n : Int) (a : Option Addr) (cap : Nat) (ws : List Int) (w : World) (h : IsInts w a ws) (hn : ws.length ≤ 1048576) (hcs : csB n ws = true) :
    Calls Try.prog 66 #[.int .i64 n, .slice a ws.length cap] w (DivS ws.length (sr n ws) w) := by
  obtain ⟨⟨n0, n1⟩, hv⟩ := cs_yes hcs
  have h0 := h
  rcases h with rfl | ⟨g, o, rfl, hc⟩
  · exact absurd (vw_is hv).2.2 (by simp)
  · have hmk := run_make_row' (P := Try.prog) 70 4 (.bool false) 1 Try.underlying70 infoBool rfl .i64 .i64 ws.length (by omega) (by omega)
    obtain ⟨s0, s1⟩ := ws_bd hv
    have l12 := (vw_is hv).2.1
    have l1 := ws_ne hv
    have HZ := Lib.hid (all_bd (vw_is hv).1 (by omega))
    have HQ := Lib.hid (q_all hcs)
    have HC := Lib.hid hc
    have HK := Lib.hid hcs
    have H0 := Lib.hid h0
    have hql := qs_len n ws
    have HL := Lib.hid (left_is hcs)
    obtain ⟨q0, q1⟩ := q_sum hcs
    have hL500 : leftOf n ws ≤ 500 := by have := left_is hcs; omega
    clear hc hv h0 hcs
    go_enter Try.func66, Try.ntmps66
    go_wp2_with fail
    refine (squotasO n _ cap ws _ H0.out hn HK.out).mono ?_
    rintro e w1 ⟨v, rfl, ho, hB1⟩
    obtain ⟨go, co, rfl, lgo, lt1⟩ := ho.form l1
    have HO := Lib.hid ho
    have HB := Lib.hid hB1
    clear ho hB1
    go_wp2_with fail
    refine (stotal _ cap ws _ (ints_below H0.out HB.out) hn HZ.out).mono ?_
    rintro e w' ⟨rfl, rfl⟩
    go_wp2_with fail
    have gne : go ≠ w1.heap.size := by omega
    have HO2 := Lib.hid (HO.out.alloc (.cells (madeCells #[.bool false] ws.length) 4))
    have HB2 := Lib.hid (HB.out.alloc HB.out.size (.cells (madeCells #[.bool false] ws.length) 4))
    have HG := Lib.hid (World.rowIs_made w1 (.bool false) ws.length 4)
    clear hmk
    refine (stotalN ws.length _ _ (qs n ws) _ hql (own_isints HO2.out hql) hn HQ.out).mono ?_
    rintro e w' ⟨rfl, rfl⟩
    go_wp2_with fail
    go_loopw [8] (fun l wr => ∃ j : Nat, j ≤ leftOf n ws ∧ l = .int .i64 ((leftOf n ws : Int) - j) ∧ wr.ownsRow w.heap.size 3 1 (.slice (some ⟨go, 0, none⟩) ws.length co) ws.length ((restTo n ws j).1.map (Value.int .i64)) ∧ Given wr w1.heap.size (restTo n ws j).2 ws.length ∧ Below w.heap.size w wr) (fun l _ => (intOf l).toNat)
    case atStart =>
      refine ⟨0, Nat.zero_le _, by rw [HL.out]; go_num, HO2.out, HG.out.congr (fun i hi => ?_), HB2.out⟩
      have := rsts_bd HK.out hi
      show Value.bool false = .bool (decide ((rsts n ws).getD i 0 < 0))
      rw [decide_eq_false (by omega)]
    case round =>
      obtain ⟨j, hj, rfl, RG, RD, hB⟩ := hrel
      by_cases hjl : j < leftOf n ws
      · have RJ := rest_is HK.out j hj
        obtain ⟨hb, hpos⟩ := rest_best HK.out RJ hjl
        have hy : 0 ≤ (restTo n ws j).1.getD (pickB (moreB (restTo n ws j).2) ws.length) 0 ∧ (restTo n ws j).1.getD (pickB (moreB (restTo n ws j).2) ws.length) 0 ≤ 500001 := by
          have := q_le HK.out hb
          rcases RJ.each _ hb with h | h <;> omega
        have hD : ∀ i, i < ws.length → -1 ≤ (restTo n ws j).2.getD i 0 ∧ (0 ≤ (restTo n ws j).2.getD i 0 → (restTo n ws j).2.getD i 0 = n * ws.getD i 0 % ws.sum) := fun i hi => by
          have := rsts_bd HK.out hi
          have e := rsts_get n ws hi
          rcases RJ.each i hi with h | h
          · omega
          · omega
        obtain ⟨lG, lD⟩ := restTo_len n ws j
        have e1 := restTo_succ1 n ws j
        have e2 := restTo_succ2 n ws j
        obtain ⟨G', hG'⟩ : ∃ G', (restTo n ws (j + 1)).1 = G' := ⟨_, rfl⟩
        obtain ⟨D', hD'⟩ : ∃ D', (restTo n ws (j + 1)).2 = D' := ⟨_, rfl⟩
        rw [hG'] at e1
        rw [hD'] at e2
        have HGD := Lib.hid (And.intro hG' hD')
        clear hG' hD' RJ
        generalize (restTo n ws j).1 = G at *
        generalize (restTo n ws j).2 = D at *
        have HD := Lib.hid hD
        have HP := Lib.hid (pickD_is D (fun i hi => (hD i (by omega)).1) lD)
        have HRG := Lib.hid RG
        have HRD := Lib.hid RD
        have HBB := Lib.hid hB
        have HE := Lib.hid (And.intro e1 e2)
        have hpk : pickS (okD D) (moreB D) ws.length = (pickB (moreB D) ws.length : Nat) := by
          rcases HP.out ws.length (Nat.le_refl _) with ⟨_, b0, hno⟩ | ⟨h, _⟩
          · have := hno _ hb
            unfold okD at this
            simp only [decide_eq_false_iff_not] at this
            omega
          · exact h
        have HPK := Lib.hid hpk
        clear RG RD hB e1 e2 hD hpk hpos
        go_wp2_with fail
        go_loopw [9, 10] (fun b i wi => ∃ k : Nat, k ≤ ws.length ∧ i = .int .i64 k ∧ b = .int .i64 (pickS (okD D) (moreB D) k) ∧ Below wr.heap.size wr wi) (fun _ i _ => ws.length - (intOf i).toNat)
        case atStart => exact ⟨0, Nat.zero_le _, rfl, rfl, Below.refl _ _⟩
        case round =>
          obtain ⟨k, hk, rfl, hbest, hBi⟩ := hrel
          by_cases hlt : k < ws.length
          · have hcell := World.rowIs.cell (given_keep HRD.out hBi) hlt
            have i0 : (0 : Int) ≤ (k : Int) := by omega
            have i1 : (k : Int) < (ws.length : Int) := by omega
            by_cases hd : D.getD k 0 < 0
            · rw [decide_eq_true hd] at hcell
              have HS := Lib.hid (pickS_skip D k hd)
              subst hbest
              go_wp2_with fail
              go_quiet (fail)
              go_wp2
              go_roundw
              case rel => exact ⟨k + 1, by omega, by go_num, by rw [HS.out], below_drewN hBi _⟩
              case measure => simp [intOf]; omega
            · rw [decide_eq_false hd] at hcell
              rcases HP.out k hk with ⟨p1, _, _⟩ | ⟨p1, p2, p3⟩
              · have HS := Lib.hid (pickS_first D k hd p1)
                rw [p1] at hbest
                subst hbest
                clear p1
                go_wp2_with fail
                go_quiet (fail)
                go_wp2
                go_roundw
                case rel => exact ⟨k + 1, by omega, by go_num, by rw [HS.out], below_drewN hBi _⟩
                case measure => simp [intOf]; omega
              · have HS := Lib.hid (pickS_next D k _ hd p1)
                rw [p1] at hbest
                subst hbest
                have hB2 := bel_tr HBB.out hBi
                have hc := (hB2.cell (p := ⟨g, o + k, none⟩) (World.block_lt_of_cell? w _ (HC.out k hlt))).trans (HC.out k hlt)
                have hc2 := (hB2.cell (p := ⟨g, o + pickB (moreB D) k, none⟩) (World.block_lt_of_cell? w _ (HC.out _ (by omega)))).trans (HC.out _ (by omega))
                have d1 := (HD.out k hlt).2 (by omega)
                unfold okD at p2
                simp only [decide_eq_true_eq] at p2
                have d2 := (HD.out (pickB (moreB D) k) (by omega)).2 p2
                rw [d1, d2] at HS
                obtain ⟨z0, z1, z2, z3⟩ := q_bd HK.out hlt
                obtain ⟨y0, y1, y2, y3⟩ := q_bd HK.out (show pickB (moreB D) k < ws.length by omega)
                have i2 : (0 : Int) ≤ (pickB (moreB D) k : Int) := by omega
                have i3 : (pickB (moreB D) k : Int) < (ws.length : Int) := by omega
                have i4 : decide ((pickB (moreB D) k : Int) < 0) = false := decide_eq_false (by omega)
                clear d1 d2 p1 p2 hd hB2
                generalize pickB (moreB D) k = b at *
                generalize ws.getD k 0 = z at *
                generalize ws.getD b 0 = y at *
                have t1 : (n * z).tmod ws.sum = n * z % ws.sum := Int.tmod_eq_emod_of_nonneg z2
                have t2 : (n * y).tmod ws.sum = n * y % ws.sum := Int.tmod_eq_emod_of_nonneg y2
                have t3 : IntKind.i64.wrap (n * z) = n * z := by rw [IntKind.wrap_i64]; omega
                have t4 : IntKind.i64.wrap (n * y) = n * y := by rw [IntKind.wrap_i64]; omega
                by_cases hzy : n * y % ws.sum < n * z % ws.sum
                · rw [if_pos hzy] at HS
                  go_wp2_with fail
                  go_quiet (fail)
                  go_wp2
                  go_roundw
                  case rel => exact ⟨k + 1, by omega, by go_num, by rw [HS.out], below_drewN hBi _⟩
                  case measure => simp [intOf]; omega
                · rw [if_neg hzy] at HS
                  go_wp2_with fail
                  go_quiet (fail)
                  go_wp2
                  go_roundw
                  case rel => exact ⟨k + 1, by omega, by go_num, by rw [HS.out], below_drewN hBi _⟩
                  case measure => simp [intOf]; omega
          · have ek : k = ws.length := by omega
            subst ek
            rw [HPK.out] at hbest
            subst hbest
            clear HPK HP HD
            have RG := HRG.out.kept (below_ns hBi none) (.inr (by simp [Value.ownBlock]))
            have RD := given_keep HRD.out hBi
            have hB2 := bel_tr HBB.out hBi
            have hlen : (G.map (Value.int .i64)).length = ws.length := by simp [lG]
            have hx := RG.cellAt (pickB (moreB D) ws.length) (by omega)
            obtain ⟨E1, E2⟩ := HE.out
            generalize pickB (moreB D) ws.length = b at *
            have hgv : (G.map (Value.int .i64))[b]? = some (.int .i64 (G.getD b 0)) := by
              rw [List.getElem?_map, List.getD_eq_getElem?_getD, List.getElem?_eq_getElem (by omega)]; rfl
            rw [hgv] at hx
            have hf := RG.frozenAt b
            have hf2 := World.rowIs.frozen RD b
            have hz := World.rowIs.cell RD hb
            have hx2 := so (v := .bool true) (show (⟨w1.heap.size, b, none⟩ : Addr) ≠ ⟨go, b, none⟩ from fun e => gne (by injection e with e; exact e.symm)) hx
            have i0 : (0 : Int) ≤ (b : Int) := by omega
            have i1 : (b : Int) < (ws.length : Int) := by omega
            have sG := ((RG.kept (row := some w1.heap.size) (g_set (p := ⟨w1.heap.size, b, none⟩) (g_below (Below.refl _ wr) _) (.inl rfl) (.bool true)) (.inr (by simp [Value.ownBlock]; exact gne))).stored b (.int .i64 (G.getD b 0 + 1))).1
            rw [show (G.map (Value.int .i64)).set b (.int .i64 (G.getD b 0 + 1)) = (G.set b (G.getD b 0 + 1)).map (Value.int .i64) by rw [List.map_set], ← E1] at sG
            have sD := given_skip (given_set RD b (by omega)) b (.int .i64 (G.getD b 0 + 1)) gne
            rw [← E2] at sD
            have sB : Below w.heap.size w ((wr.setCell ⟨w1.heap.size, b, none⟩ (.bool true)).setCell ⟨go, b, none⟩ (.int .i64 (G.getD b 0 + 1))) := (hB2.setCell (by exact HB.out.size) _).setCell lgo _
            have HS := Lib.hid (And.intro sG (And.intro sD sB))
            clear sG sD sB RG RD hB2 E1 E2 HE HRG HRD HBB hgv hlen
            generalize G.getD b 0 = y at *
            go_wp2
            go_roundw
            case rel => exact ⟨j + 1, by omega, by go_num, by rw [HGD.out.1]; exact HS.out.1, by rw [HGD.out.2]; exact HS.out.2.1, HS.out.2.2⟩
            case measure => simp [intOf]; omega
      · have e : j = leftOf n ws := by omega
        subst e
        go_wp2
        go_ret
        exact ⟨some ⟨go, 0, none⟩, co, rfl, own_isints RG (sr_len n ws), hB⟩
theorem srest (n : Int) (a : Option Addr) (cap : Nat) (ws : List Int) (w : World) (h : IsInts w a ws) (hn : ws.length ≤ 1048576) (hcs : csB n ws = true) :
    Calls Try.prog 33 #[.int .i64 n, .slice a ws.length cap] w (DivS ws.length (sr n ws) w) := by
  have HC := Lib.hid hcs
  go_enter Try.func33, Try.ntmps33
  go_wp2_with fail
  refine (svalidSplit n a cap ws _ h hn).mono ?_
  rintro e w' ⟨rfl, rfl⟩
  go_wp2_with fail
  refine (sbyRest n a cap ws _ h hn HC.out).mono ?_
  rintro e w' ⟨b, cp, rfl, hin, hB⟩
  go_wp2_with fail
  go_ret
  exact ⟨b, cp, rfl, hin, hB⟩
end Go.Proofs.Ytlpmeljneogpiab
