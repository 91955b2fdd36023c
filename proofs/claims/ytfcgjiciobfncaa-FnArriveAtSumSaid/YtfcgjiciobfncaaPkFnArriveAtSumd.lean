/- Contracts and facts of functions of this program, in build order. Conditions: those stated in each. -/
import Derived.Test.YtfcgjiciobfncaaPkFnArriveAtSumc
import Derived.Deep.AppendLies
import Derived.Deep.RegionHeld3
import Derived.Laws.OwnMore
import Derived.Maps.AppendAt
import Derived.Deep.QuietTactic
namespace Go.Proofs.Ytfcgjiciobfncaa
open Go.RowKit

theorem infoBool : (Try.prog.info? 4).map (fun i => (i.zero, i.size, i.bytes)) = some (some (.bool false), 1, 1) := by kernel_rfl
theorem below_ns {w w' : World} (h : Below w.heap.size w w') (row : Option Nat) : w.grownBy w' row := g_below h row
/-- a row of marks: true where the number is less than 0 -/
def Given (w : World) (g : Nat) (D : List Int) (m : Nat) : Prop := w.rowIs g 4 m (fun i => .bool (decide (D.getD i 0 < 0)))
theorem given_keep {w w' : World} {g m : Nat} {D : List Int} (h : Given w g D m) (hB : Below w.heap.size w w') : Given w' g D m := World.rowIs.of_block h (hB.block g (World.rowIs.lt h))
theorem given_skip {w : World} {g g' m : Nat} {D : List Int} (h : Given w g D m) (k : Nat) (v : Value) (hne : g' ≠ g) : Given (w.setCell ⟨g', k, none⟩ v) g D m :=
  World.rowIs.of_block h (Below.heap_setCell w ⟨g', k, none⟩ v g (fun e => by first | exact hne e | exact hne e.symm))
theorem given_set {w : World} {g m : Nat} {D : List Int} (h : Given w g D m) (k : Nat) (hk : k < D.length) : Given (w.setCell ⟨g, k, none⟩ (.bool true)) g (D.set k (-1)) m :=
  (World.rowIs.set h k (.bool true)).congr (fun j hj => by
    show (if j = k then Value.bool true else .bool (decide (D.getD j 0 < 0))) = _
    rw [getD_set _ _ _ hk]; split <;> rfl)
/-- what a division leaves, read -/
def DivS (m : Nat) (R : List Int) (w : World) (e : Ending) (w' : World) : Prop := ∃ (b : Option Addr) (cap : Nat), e = .returned (.slice b m cap) ∧ IsInts w' b R ∧ Below w.heap.size w w'
theorem stotalN (m : Nat) (a : Option Addr) (cap : Nat) (zs : List Int) (w : World) (hl : zs.length = m) (h : IsInts w a zs) (hn : m ≤ 1048576) (hz : ∀ z ∈ zs, -1000000 ≤ z ∧ z ≤ 1000000) :
    Calls Try.prog 91 #[.slice a m cap] w fun e w' => e = .returned (.int .i64 zs.sum) ∧ w = w' := by
  subst hl; exact stotal a cap zs w h hn hz
theorem q_all {n : Int} {ws : List Int} (hcs : csB n ws = true) : ∀ z ∈ qs n ws, -1000000 ≤ z ∧ z ≤ 1000000 := fun z hz => by
  obtain ⟨i, hi, rfl⟩ := List.getElem_of_mem hz
  have hql := qs_len n ws
  have := q_le hcs (i := i) (by omega)
  rw [List.getD_eq_getElem?_getD, List.getElem?_eq_getElem hi] at this
  simp at this; omega
theorem own_isints {w : World} {base g n cap : Nat} {zs : List Int} (h : w.ownsRow base 3 1 (.slice (some ⟨g, 0, none⟩) n cap) n (zs.map (Value.int .i64))) (hl : zs.length = n) : IsInts w (some ⟨g, 0, none⟩) zs := by
  subst hl
  obtain ⟨b, c, hv, hi⟩ := own_ints h
  injection hv with h1 h2 h3
  rw [h1]; exact hi
def okD (D : List Int) (i : Nat) : Bool := decide (0 ≤ D.getD i 0)
theorem pickD_is (D : List Int) (hm : ∀ i, i < D.length → -1 ≤ D.getD i 0) {m : Nat} (hl : D.length = m) : ∀ k, k ≤ m → (pickS (okD D) (moreB D) k = -1 ∧ pickB (moreB D) k = 0 ∧ ∀ j, j < k → okD D j = false) ∨ (pickS (okD D) (moreB D) k = (pickB (moreB D) k : Nat) ∧ okD D (pickB (moreB D) k) = true ∧ pickB (moreB D) k < k) := by
  subst hl
  refine pickS_is (okD D) (moreB D) D.length (fun i b hi hb h1 h2 => ?_) (fun i b hi hb h1 => ?_)
  · unfold okD at h1 h2; unfold moreB
    simp at h1 h2 ⊢; omega
  · have a := hm i hi
    have b := hm b hb
    unfold okD at h1; unfold moreB
    simp only [decide_eq_false_iff_not] at h1 ⊢; omega
theorem pickS_skip (D : List Int) (k : Nat) (h : D.getD k 0 < 0) : pickS (okD D) (moreB D) (k + 1) = pickS (okD D) (moreB D) k := by
  show (if okD D k && _ then (k : Int) else pickS (okD D) (moreB D) k) = _
  have : okD D k = false := by unfold okD; exact decide_eq_false (by omega)
  rw [this]; simp
theorem pickS_first (D : List Int) (k : Nat) (h : ¬ D.getD k 0 < 0) (h1 : pickS (okD D) (moreB D) k = -1) : pickS (okD D) (moreB D) (k + 1) = k := by
  show (if okD D k && (decide (pickS (okD D) (moreB D) k < 0) || _) then (k : Int) else pickS (okD D) (moreB D) k) = _
  have : okD D k = true := by unfold okD; exact decide_eq_true (by omega)
  rw [this, h1]; simp
theorem pickS_next (D : List Int) (k b : Nat) (h : ¬ D.getD k 0 < 0) (h1 : pickS (okD D) (moreB D) k = (b : Int)) : pickS (okD D) (moreB D) (k + 1) = if D.getD b 0 < D.getD k 0 then (k : Int) else b := by
  show (if okD D k && (decide (pickS (okD D) (moreB D) k < 0) || moreB D k (pickS (okD D) (moreB D) k).toNat) then (k : Int) else pickS (okD D) (moreB D) k) = _
  have : okD D k = true := by unfold okD; exact decide_eq_true (by omega)
  rw [this, h1]
  have e : decide ((b : Int) < 0) = false := by simp
  rw [e, Int.toNat_natCast]
  unfold moreB
  simp

end Go.Proofs.Ytfcgjiciobfncaa
namespace Go.Proofs.Ytfcgjiciobfncaa
open Go.RowKit

def okW (ws : List Int) (i : Nat) : Bool := decide (0 < ws.getD i 0)
theorem pickW_is (step : Int) (ws gs : List Int) (m : Nat) (h1 : ∀ i, i < m → 0 ≤ ws.getD i 0) (h2 : ∀ i, i < m → 0 < step * gs.getD i 0 + 1) :
    ∀ k, k ≤ m → (pickS (okW ws) (avgB step ws gs) k = -1 ∧ pickB (avgB step ws gs) k = 0 ∧ ∀ j, j < k → okW ws j = false) ∨ (pickS (okW ws) (avgB step ws gs) k = (pickB (avgB step ws gs) k : Nat) ∧ okW ws (pickB (avgB step ws gs) k) = true ∧ pickB (avgB step ws gs) k < k) := by
  refine pickS_is (okW ws) (avgB step ws gs) m (fun i b hi hb a1 a2 => ?_) (fun i b hi hb a1 => ?_)
  · unfold okW at a1 a2; unfold avgB
    simp only [decide_eq_true_eq, decide_eq_false_iff_not] at a1 a2 ⊢
    have e : ws.getD b 0 = 0 := by have := h1 b hb; omega
    rw [e, Int.zero_mul]
    exact Int.mul_pos a1 (h2 b hb)
  · unfold okW at a1; unfold avgB
    simp only [decide_eq_false_iff_not] at a1 ⊢
    have e : ws.getD i 0 = 0 := by have := h1 i hi; omega
    rw [e, Int.zero_mul]
    have := Int.mul_nonneg (h1 b hb) (Int.le_of_lt (h2 i hi))
    omega
theorem pickW_skip (step : Int) (ws gs : List Int) (k : Nat) (h : ¬ 0 < ws.getD k 0) : pickS (okW ws) (avgB step ws gs) (k + 1) = pickS (okW ws) (avgB step ws gs) k := by
  show (if okW ws k && _ then (k : Int) else pickS (okW ws) (avgB step ws gs) k) = _
  have : okW ws k = false := by unfold okW; exact decide_eq_false (by omega)
  rw [this]; simp
theorem pickW_first (step : Int) (ws gs : List Int) (k : Nat) (h : 0 < ws.getD k 0) (h1 : pickS (okW ws) (avgB step ws gs) k = -1) : pickS (okW ws) (avgB step ws gs) (k + 1) = k := by
  show (if okW ws k && (decide (pickS (okW ws) (avgB step ws gs) k < 0) || _) then (k : Int) else pickS (okW ws) (avgB step ws gs) k) = _
  have : okW ws k = true := by unfold okW; exact decide_eq_true h
  rw [this, h1]; simp
theorem pickW_next (step : Int) (ws gs : List Int) (k b : Nat) (h : 0 < ws.getD k 0) (h1 : pickS (okW ws) (avgB step ws gs) k = (b : Int)) : pickS (okW ws) (avgB step ws gs) (k + 1) = if ws.getD b 0 * (step * gs.getD k 0 + 1) < ws.getD k 0 * (step * gs.getD b 0 + 1) then (k : Int) else b := by
  show (if okW ws k && (decide (pickS (okW ws) (avgB step ws gs) k < 0) || avgB step ws gs k (pickS (okW ws) (avgB step ws gs) k).toNat) then (k : Int) else pickS (okW ws) (avgB step ws gs) k) = _
  have : okW ws k = true := by unfold okW; exact decide_eq_true h
  rw [this, h1]
  have e : decide ((b : Int) < 0) = false := by simp
  rw [e, Int.toNat_natCast]
  unfold avgB
  simp

set_option maxHeartbeats 2000000 in
theorem sbyAvg (step n : Int) (a : Option Addr) (cap : Nat) (ws : List Int) (w : World) (h : IsInts w a ws) (hn : ws.length ≤ 1048576) (hs : 1 ≤ step ∧ step ≤ 2) (hcs : csB n ws = true) :
    Calls Try.prog 104 #[.int .i64 n, .slice a ws.length cap, .int .i64 step, .int .i64 1] w (Divd ws.length (sa step n ws) w) := by
  obtain ⟨⟨n0, n1⟩, hv⟩ := cs_yes hcs
  rcases h with rfl | ⟨g, o, rfl, hc⟩
  · exact absurd (vw_is hv).2.2 (by simp)
  · have hmk := run_make_row' (P := Try.prog) 31 3 (.int .i64 0) 8 Try.underlying31 infoInt rfl .i64 .i64 ws.length (by omega) (by omega)
    have l1 := ws_ne hv
    have HV := Lib.hid hv
    have HK := Lib.hid hcs
    have HC := Lib.hid hc
    clear hv hcs hc
    go_enter Try.func104, Try.ntmps104
    go_wp2_with fail
    clear hmk
    go_loopw [10] (fun l wr => ∃ j : Nat, j ≤ n.toNat ∧ l = .int .i64 j ∧ Row wr w.heap.size (avgTo step ws j) ∧ Below w.heap.size w wr) (fun l _ => (n - intOf l).toNat)
    case atStart =>
      refine ⟨0, Nat.zero_le _, rfl, ?_, by go_grown⟩
      unfold Row
      rw [avgTo_len]
      refine (World.rowIs_made w (.int .i64 0) ws.length _).congr (fun i hi => ?_)
      show Value.int .i64 0 = .int .i64 ((List.replicate ws.length (0 : Int)).getD i 0)
      rw [List.getD_eq_getElem?_getD, List.getElem?_replicate]; split <;> rfl
    case round =>
      obtain ⟨j, hj, rfl, RG, hB⟩ := hrel
      by_cases hjn : (j : Int) < n
      · have A := avg_is HV.out hs j (by omega)
        obtain ⟨hb, hwb⟩ := avg_pos HV.out hs (by omega) A
        have hl := avgTo_len step ws j
        have e1 := avgTo_succ step ws j
        have hbd : ∀ i, i < ws.length → 0 ≤ (avgTo step ws j).getD i 0 ∧ (avgTo step ws j).getD i 0 ≤ 1000 := fun i hi => by have := A.bd i hi; omega
        obtain ⟨G', hG'⟩ : ∃ G', avgTo step ws (j + 1) = G' := ⟨_, rfl⟩
        rw [hG'] at e1
        have HG := Lib.hid hG'
        clear hG' A
        generalize avgTo step ws j = G at *
        have HP := Lib.hid (pickW_is step ws G ws.length (fun i hi => (all_get HV.out hi).1) (fun i hi => (fac_bd hs (hbd i hi) (by omega)).1))
        have hpk : pickS (okW ws) (avgB step ws G) ws.length = (pickB (avgB step ws G) ws.length : Nat) := by
          rcases HP.out ws.length (Nat.le_refl _) with ⟨_, b0, hno⟩ | ⟨h, _⟩
          · have := hno _ hb
            unfold okW at this
            simp only [decide_eq_false_iff_not] at this
            omega
          · exact h
        have HPK := Lib.hid hpk
        have HBD := Lib.hid hbd
        have HRG := Lib.hid RG
        have HB := Lib.hid hB
        have HE := Lib.hid e1
        clear hbd RG hB e1 hpk hwb
        go_wp2_with fail
        go_loopw [11, 12] (fun b i wi => ∃ k : Nat, k ≤ ws.length ∧ i = .int .i64 k ∧ b = .int .i64 (pickS (okW ws) (avgB step ws G) k) ∧ Below wr.heap.size wr wi) (fun _ i _ => ws.length - (intOf i).toNat)
        case atStart => exact ⟨0, Nat.zero_le _, rfl, rfl, Below.refl _ _⟩
        case round =>
          obtain ⟨k, hk, rfl, hbest, hBi⟩ := hrel
          by_cases hlt : k < ws.length
          · have hB2 := bel_tr HB.out hBi
            have c1 := (hB2.cell (p := ⟨g, o + k, none⟩) (World.block_lt_of_cell? w _ (HC.out k hlt))).trans (HC.out k hlt)
            have i0 : (0 : Int) ≤ (k : Int) := by omega
            have i1 : (k : Int) < (ws.length : Int) := by omega
            by_cases hd : 0 < ws.getD k 0
            · rcases HP.out k hk with ⟨p1, _, _⟩ | ⟨p1, p2, p3⟩
              · have HS := Lib.hid (pickW_first step ws G k hd p1)
                rw [p1] at hbest
                subst hbest
                clear p1 hB2
                generalize ws.getD k 0 = x at *
                go_wp2_with fail
                go_quiet (fail)
                go_wp2
                go_roundw
                case rel => exact ⟨k + 1, by omega, by go_num, by rw [HS.out], below_drewN hBi _⟩
                case measure => simp [intOf]; omega
              · have HS := Lib.hid (pickW_next step ws G k _ hd p1)
                rw [p1] at hbest
                subst hbest
                have hbk : pickB (avgB step ws G) k < ws.length := by omega
                have c2 := (hB2.cell (p := ⟨g, o + pickB (avgB step ws G) k, none⟩) (World.block_lt_of_cell? w _ (HC.out _ hbk))).trans (HC.out _ hbk)
                have c3 := World.rowIs.cell (row_keep HRG.out hBi) (i := k) (by omega)
                have c4 := World.rowIs.cell (row_keep HRG.out hBi) (i := pickB (avgB step ws G) k) (by omega)
                obtain ⟨p1, p2, p3, p4⟩ := fac_all (x := ws.getD k 0) hs (all_get HV.out hlt) (HBD.out _ hbk)
                obtain ⟨q1, q2, q3, q4⟩ := fac_all (x := ws.getD (pickB (avgB step ws G) k) 0) hs (all_get HV.out hbk) (HBD.out k hlt)
                have i2 : (0 : Int) ≤ (pickB (avgB step ws G) k : Int) := by omega
                have i3 : (pickB (avgB step ws G) k : Int) < (ws.length : Int) := by omega
                have i4 : decide ((pickB (avgB step ws G) k : Int) < 0) = false := decide_eq_false (by omega)
                clear hB2
                generalize pickB (avgB step ws G) k = b at *
                generalize ws.getD k 0 = x at *
                generalize ws.getD b 0 = y at *
                generalize G.getD k 0 = u at *
                generalize G.getD b 0 = v at *
                have t1 : IntKind.i64.wrap (step * v) = step * v := wrap_of (by omega)
                have t2 : IntKind.i64.wrap (step * u) = step * u := wrap_of (by omega)
                have t3 : IntKind.i64.wrap (step * v + 1) = step * v + 1 := wrap_of (by omega)
                have t4 : IntKind.i64.wrap (step * u + 1) = step * u + 1 := wrap_of (by omega)
                have t5 : IntKind.i64.wrap (x * (step * v + 1)) = x * (step * v + 1) := wrap_of (by omega)
                have t6 : IntKind.i64.wrap (y * (step * u + 1)) = y * (step * u + 1) := wrap_of (by omega)
                clear hs hl
                by_cases hxy : y * (step * u + 1) < x * (step * v + 1)
                · rw [if_pos hxy] at HS
                  go_wp2_with fail
                  go_quiet (fail)
                  go_wp2
                  go_roundw
                  case rel => exact ⟨k + 1, by omega, by go_num, by rw [HS.out], below_drewN hBi _⟩
                  case measure => simp [intOf]; omega
                · rw [if_neg hxy] at HS
                  go_wp2_with fail
                  go_quiet (fail)
                  go_wp2
                  go_roundw
                  case rel => exact ⟨k + 1, by omega, by go_num, by rw [HS.out], below_drewN hBi _⟩
                  case measure => simp [intOf]; omega
            · have hd2 : decide (0 < ws.getD k 0) = false := decide_eq_false hd
              have HS := Lib.hid (pickW_skip step ws G k hd)
              subst hbest
              clear hB2
              generalize ws.getD k 0 = x at *
              go_wp2_with fail
              go_quiet (fail)
              go_wp2
              go_roundw
              case rel => exact ⟨k + 1, by omega, by go_num, by rw [HS.out], below_drewN hBi _⟩
              case measure => simp [intOf]; omega
          · have ek : k = ws.length := by omega
            subst ek
            rw [HPK.out] at hbest
            subst hbest
            have hy := HBD.out _ hb
            clear HPK HP HBD
            have RG := row_keep HRG.out hBi
            have B4 := bel_tr HB.out hBi
            have E1 := HE.out
            generalize pickB (avgB step ws G) ws.length = b at *
            have hx := World.rowIs.cell RG (i := b) (by omega)
            have hf := World.rowIs.frozen RG b
            have i0 : (0 : Int) ≤ (b : Int) := by omega
            have i1 : (b : Int) < (ws.length : Int) := by omega
            have sG := row_set RG b (G.getD b 0 + 1) (by omega)
            rw [← E1] at sG
            have sB : Below w.heap.size w (wr.setCell ⟨w.heap.size, b, none⟩ (.int .i64 (G.getD b 0 + 1))) := B4.setCell (Nat.le_refl _) _
            have HS := Lib.hid (And.intro sG sB)
            clear sG sB RG B4 E1 HE HRG HB
            generalize G.getD b 0 = y at *
            go_wp2
            go_roundw
            case rel => exact ⟨j + 1, by omega, by go_num, by rw [HG.out]; exact HS.out.1, HS.out.2⟩
            case measure => simp [intOf]; omega
      · have e : j = n.toNat := by omega
        have HR := Lib.hid RG
        clear RG
        go_wp2
        go_ret
        exact ⟨w.heap.size, rfl, Nat.le_refl _, by unfold sa; rw [← e]; exact HR.out, hB⟩
end Go.Proofs.Ytfcgjiciobfncaa
namespace Go.Proofs.Ytfcgjiciobfncaa
open Go.RowKit
set_option linter.unusedSimpArgs false
set_option linter.unusedVariables false
set_option maxHeartbeats 1000000 in
/-- spec.passing -/
theorem spassing (x0 x1 x2 x3 x4 c : Int) (w : World) (hc : 0 ≤ c ∧ c ≤ 500) (h2 : 0 ≤ x2 ∧ x2 ≤ 500) (h3 : 0 ≤ x3 ∧ x3 ≤ 500) :
    Calls Try.prog 94 #[.agg #[.int .i64 x0, .int .i64 x1, .int .i64 x2, .int .i64 x3, .int .i64 x4], .int .i64 c] w fun e w' => e = .returned (.int .i64 (passV (x0, x1, x2, x3, x4) c)) ∧ Below w.heap.size w w' := by
  have HV : Hid (passV (x0, x1, x2, x3, x4) c = min x3 (c - min x2 c)) := pass_min (x := (x0, x1, x2, x3, x4)) h3.1 hc.1 h2.1
  have wz : IntKind.i64.wrap (c - min x2 c) = c - min x2 c := by rw [IntKind.wrap_i64]; omega
  go_enter Try.func94, Try.ntmps94
  go_wp2_with fail
  all_goals (go_ret; exact ⟨ret_int (by rw [HV.out]; omega), by go_grown⟩)
/-- what the kids of a node get, 0 where it is nothing -/
def giveS (ns : List Nd) (k : Int) (p : Int) : List Int := if vwB (wts ns k) = true then sa 2 p (wts ns k) else List.replicate (kidsF ns k).length 0
theorem giveS_len (ns : List Nd) (k : Int) (p : Int) : (giveS ns k p).length = (kidsF ns k).length := by
  unfold giveS; split
  · rw [sa_len]; unfold wts; rw [wk_len]
  · rw [List.length_replicate]
theorem giveS_put {ns : List Nd} (hv : vnB ns = true) {fl : Int} {k : Nat} (hk : k < ns.length) : putTo (comeTo ns fl k) (kidsF ns (k : Int)) (giveS ns (k : Int) (passV (ns.getD k nd0) ((comeTo ns fl k).getD k 0))) (kidsF ns (k : Int)).length = comeTo ns fl (k + 1) := by
  unfold giveS
  by_cases hw : vwB (wts ns (k : Int)) = true
  · rw [if_pos hw]; exact step_give hw
  · rw [if_neg hw]; exact step_zero hv hk hw
theorem wk_take (ns : List Nd) (ks : List Int) (k : Nat) (h : k < ks.length) : (wk ns ks).take (k + 1) = (wk ns ks).take k ++ [(ns.getD (ks.getD k 0).toNat nd0).2.1] := by
  rw [take_snocD (wk ns ks) (by rw [wk_len]; exact h) 0, wk_get ns ks h]
set_option maxHeartbeats 8000000 in
/-- spec.shareKids -/
theorem sshare (a : Option Addr) (cap : Nat) (ns : List Nd) (k : Nat) (p : Int) (w : World) (h : IsNd w a ns) (hv : vnB ns = true) (hp : 0 ≤ p ∧ p ≤ 500) :
    Calls Try.prog 102 #[.slice a ns.length cap, .int .i64 (k : Int), .int .i64 p] w (OutI w (giveS ns (k : Int) p)) := by
  obtain ⟨l1, l12, _⟩ := vn_is hv
  obtain ⟨i0, hi0, hz0, hz1, hz2⟩ := info_parts infoInt
  have CK := skids a cap ns (k : Int) w h hv
  have hkl := kids_len ns (k : Int)
  have hkm : ∀ z ∈ kidsF ns (k : Int), ∃ j : Nat, z = (j : Int) ∧ j < ns.length := fun z hz => by obtain ⟨j, a, b, _⟩ := kids_bd hz; exact ⟨j, a, b⟩
  have HW1 : Hid (∀ z ∈ wts ns (k : Int), 0 ≤ z ∧ z ≤ 1000) := wts_bd hv (k : Int)
  have HWZ := Lib.hid (wts_zero hv (k : Int))
  have HWE : Hid (wts ns (k : Int) = wk ns (kidsF ns (k : Int))) := rfl
  have HGS : Hid (giveS ns (k : Int) p = if vwB (wts ns (k : Int)) = true then sa 2 p (wts ns (k : Int)) else List.replicate (kidsF ns (k : Int)).length 0) := rfl
  have HMK := Lib.hid (run_make_row' (P := Try.prog) 31 3 (.int .i64 0) 8 Try.underlying31 infoInt rfl .i64 .i64 (kidsF ns (k : Int)).length (by omega) (by omega))
  rcases h with rfl | ⟨g, o, rfl, hc⟩
  · simp at l1
  have HC := Lib.hid hc
  have HKM := Lib.hid hkm
  clear hc hv hkm
  generalize kidsF ns (k : Int) = ks at CK hkl HKM HWE HGS HMK
  generalize wts ns (k : Int) = ws at HW1 HWZ HWE HGS
  go_enter Try.func102, Try.ntmps102
  go_wp2_with fail
  refine CK.mono ?_
  rintro e w1 ⟨v7, rfl, hK, hB⟩
  obtain ⟨kb, kc, rfl, _⟩ := hK.ints
  have HC1 : Hid (∀ i, i < ns.length → w1.cell? ⟨g, o + i * 5 + 1, none⟩ = some (.int .i64 (ns.getD i nd0).2.1)) := fun i hi => (nd_at HC.out hB hi).2.1
  have HK1 := Lib.hid hK
  have HB1 := Lib.hid hB
  have hs1 := hB.size
  clear CK hK hB HC
  go_wp2_with fail
  obtain ⟨V, hV⟩ : ∃ V, V = w1 := ⟨_, rfl⟩
  subst hV
  go_loopw [8, 9] (fun v i wr => ∃ q : Nat, q ≤ ks.length ∧ i = .int .i64 q ∧ OwnI wr V.heap.size v ((wk ns ks).take q) ∧ Below V.heap.size V wr) (fun _ i _ => ks.length - (intOf i).toNat)
  case atStart => exact ⟨0, Nat.zero_le _, rfl, OwnI.new (Below.refl _ V), by go_grown⟩
  case round =>
    obtain ⟨q, hq, rfl, hO, hB⟩ := hrel
    have hsz := hB.size
    by_cases hlt : q < ks.length
    · rcases (HK1.out.of_block hB).at_ with rfl | ⟨gk, ok, rfl, hkc⟩
      · simp at hlt
      have c1 := hkc q hlt
      obtain ⟨j, hj, hjl⟩ := HKM.out _ (getD_mem hlt)
      have c2' := HC1.out j hjl
      have c2 := (hB.cell (World.block_lt_of_cell? V _ c2')).trans c2'
      have hwt := wk_take ns ks q hlt
      rw [hj, show ((j : Int)).toNat = j from by omega] at hwt
      rw [hj] at c1
      have hll : ((wk ns ks).take q).length ≤ 1048576 := by rw [List.length_take]; omega
      generalize (ns.getD j nd0).2.1 = z at c2 hwt
      generalize (wk ns ks).take q = tk at hO hwt hll
      have b0 : (0 : Int) ≤ (j : Int) := by omega
      have b1 : (j : Int) < (ns.length : Int) := by omega
      have HWT := Lib.hid hwt
      clear hkc c2' hwt hj
      go_wp2_with (first | (at_builtin; refine wpList_append_own _ rfl (.tmp 20) (.tmp 29) _ rfl V.heap.size 3 i0 (.int .i64 0) 1 8 Try.underlying31 hi0 hz0 hz1 hz2 rfl (by decide) _ _ _ rfl (hO.alloc _) ⟨wr.heap.size, 0, none⟩ 1 1 [.int .i64 z] rfl rfl (cell_one_new _ _ _) (fun x hx => by simp at hx; subst hx; rfl) (by unfold maxLen; omega) (by omega) (by simp; omega) ?_; intro v3 w3 hown3 hgrow3 hnil3))
      have HR : Hid (OwnI w3 V.heap.size v3 ((wk ns ks).take (q + 1)) ∧ Below V.heap.size V w3) := ⟨by rw [HWT.out]; exact OwnI.snoc hown3, (hB.alloc hsz _).grown hgrow3 (by simp; omega) hO.grow⟩
      clear hO hown3 hgrow3 hnil3 hB c1 c2
      go_roundw
      case rel => exact ⟨q + 1, by omega, by go_num, HR.out.1, HR.out.2⟩
      case measure => simp [intOf]; omega
    · rw [List.take_of_length_le (by rw [wk_len]; omega), ← HWE.out] at hO
      obtain ⟨wb, wc, rfl, hWI⟩ := hO.ints
      have HWL : Hid (ws.length = ks.length) := by show ws.length = ks.length; rw [HWE.out, wk_len]
      have CT := stotal wb wc ws wr hWI (by rw [HWL.out]; omega) (fun z hz => by have := HW1.out z hz; omega)
      have HB2 := Lib.hid (bel_tr HB1.out hB)
      have HWI := Lib.hid hWI
      have hsz2 := HB2.out.size
      have HWZ2 := HWZ.out
      obtain ⟨sm, hsm⟩ : ∃ s, ws.sum = s := ⟨_, rfl⟩
      rw [hsm] at CT HWZ2
      have hkq : (q : Int) = (ks.length : Int) := by omega
      clear hB hO hWI hsm
      go_wp2_with fail
      refine CT.mono ?_
      rintro e w' ⟨rfl, rfl⟩
      clear CT
      by_cases hw : vwB ws = true
      · have HGV : Hid (giveS ns (k : Int) p = sa 2 p ws) := by show _ = _; rw [HGS.out, if_pos hw]
        have e1 : (sm == 0) = false := by rw [HWZ2, hw]; rfl
        have CB := sbyAvg 2 p wb wc ws wr HWI.out (by rw [HWL.out]; omega) (by omega) (by rw [cs_is (by omega)]; exact hw)
        clear hw HWZ2
        go_wp2_with fail
        refine CB.mono ?_
        rintro e w5 ⟨gq, rfl, hg, hr, hb5⟩
        have HE : Hid (OwnI w5 w.heap.size (.slice (some ⟨gq, 0, none⟩) ws.length ws.length) (giveS ns (k : Int) p) ∧ Below w.heap.size w w5) := by
          have := row_own hr (base := w.heap.size) (by omega) (by rw [sa_len, HWL.out]; omega)
          rw [sa_len] at this
          exact ⟨by rw [HGV.out]; exact this, bel_tr HB2.out hb5⟩
        clear hg hr hb5 CB
        go_wp2_with fail
        go_ret
        exact ⟨_, rfl, HE.out⟩
      · have HGV : Hid (giveS ns (k : Int) p = List.replicate ks.length 0) := by show _ = _; rw [HGS.out, if_neg hw]
        have hw2 : vwB ws = false := by simpa using hw
        have e1 : (sm == 0) = true := by rw [HWZ2, hw2]; rfl
        obtain rfl : sm = 0 := by simpa using e1
        have hmk := HMK.out
        have HE : Hid (OwnI (wr.alloc (.cells (madeCells #[.int .i64 0] ks.length) 3)) w.heap.size (.slice (some ⟨wr.heap.size, 0, none⟩) ks.length ks.length) (giveS ns (k : Int) p) ∧ Below w.heap.size w (wr.alloc (.cells (madeCells #[.int .i64 0] ks.length) 3))) := ⟨by rw [HGV.out]; exact OwnI.made HB2.out ks.length (by omega), HB2.out.alloc HB2.out.size _⟩
        clear hw hw2 HWZ2
        go_wp2_with fail
        go_ret
        exact ⟨_, rfl, HE.out⟩
end Go.Proofs.Ytfcgjiciobfncaa
namespace Go.Proofs.Ytfcgjiciobfncaa
open Go.RowKit
set_option linter.unusedSimpArgs false
set_option linter.unusedVariables false
/-- what someFlows leaves -/
def SomeFl (w : World) (b : Nat) (P : Int) (e : Ending) (w' : World) : Prop := ∃ (v : Value) (zs : List Int), e = .returned v ∧ zs.length ≤ 20 ∧ (∀ z ∈ zs, -1 ≤ z ∧ z ≤ 501) ∧ OwnI w' w.heap.size v zs ∧ Rd w' b (P + 60) ∧ w.grownBy w' (some b)
theorem ownI_kept {w w' : World} {base b : Nat} {v : Value} {zs : List Int} (h : OwnI w base v zs) (hG : w.grownBy w' (some b)) (hb : b < base) : OwnI w' base v zs := h.apart hG (fun q hq => by have := Option.some.inj hq; omega)
set_option maxRecDepth 100000 in
set_option maxHeartbeats 8000000 in
theorem someFl (b : Nat) (P : Int) (w : World) (h : Rd w b P) (hP : P ≤ 70000) (hb : b < w.heap.size) :
    Calls Try.prog 74 #[.pointer (some ⟨b, 0, none⟩)] w (SomeFl w b P) := by
  obtain ⟨i0, hi0, hz0, hz1, hz2⟩ := info_parts infoInt
  go_enter Try.func74, Try.ntmps74
  go_wp2_with fail
  have HO := Lib.hid (OwnI.new (Below.refl _ w))
  have HR := Lib.hid (rd_alloc h hb (.cells #[] 3))
  have HG := Lib.hid (World.grownBy_alloc w (.cells #[] 3) (some b))
  clear h
  have hs : w.heap.size + 1 = (w.alloc (.cells #[] 3)).heap.size := by simp
  rw [hs]
  generalize w.alloc (.cells #[] 3) = w1 at *
  have hb1 : b < w1.heap.size := by omega
  refine (one_lit b 6 P 0 20 [8, 12, 5, 20, 1, 0] _ w1 HR.out (by omega) hb1 rfl (by omega) (by omega) (by simp)).mono ?_
  rintro e w2 ⟨m, rfl, m0, m1, hR2, hG2⟩
  have HO2 := Lib.hid (ownI_kept HO.out hG2 hb)
  have HR2 := Lib.hid hR2
  have HG2 := Lib.hid (g_trans HG.out hG2)
  have hs2 : w.heap.size < w2.heap.size := by have := hG2.size; omega
  clear hG2 hR2 HO HR HG
  go_wp2_with fail
  go_loopw [3, 4] (fun v q wr => ∃ (k : Nat) (zs : List Int), (k : Int) ≤ m ∧ q = .int .i64 (m - k) ∧ Hid (OwnI wr w.heap.size v zs ∧ (∀ z ∈ zs, -1 ≤ z ∧ z ≤ 501) ∧ zs.length = k ∧ Rd wr b (P + 1 + 2 * (k : Int)) ∧ w.grownBy wr (some b)) ∧ w.heap.size < wr.heap.size) (fun _ q _ => (intOf q).toNat)
  case atStart => exact ⟨0, [], by omega, by go_num, ⟨HO2.out, by simp, rfl, by simpa using HR2.out, HG2.out⟩, hs2⟩
  case round =>
    clear HO2 HR2 HG2
    obtain ⟨k, zs, hk, rfl, HR, hsz⟩ := hrel
    have hkl := HR.out.2.2.1
    by_cases hlt : (k : Int) < m
    · have hbr : b < wr.heap.size := by omega
      have hR := HR.out.2.2.2.1
      have hzl : zs.length ≤ 20 := by omega
      have HKL := Lib.hid hkl
      clear hkl
      go_wp2_with fail
      refine (pick_any b _ 60 _ hR (by omega)).mono ?_
      rintro e w7 ⟨p, rfl, hp, hR7, hG7⟩
      have hb7 := Nat.lt_of_lt_of_le hbr hG7.size
      have hp6 : (p : Int) ≤ 60 := by omega
      clear hR hp
      go_wp2_with fail
      refine (one_lit b 6 _ 0 60 [10, 20, 5, 0, (p : Int), 30] _ w7 hR7 (by omega) hb7 rfl (by omega) (by omega) (by simp; omega)).mono ?_
      rintro e w8 ⟨z, rfl, z0, z1, hR8, hG8⟩
      have G8 := g_trans hG7 hG8
      have hO8 := ownI_kept HR.out.1 G8 hb
      have hR8' := rd_up (P' := P + 1 + 2 * ((k + 1 : Nat) : Int)) hR8 (by omega)
      have hs8 : w.heap.size < w8.heap.size := by have := G8.size; omega
      have HR8 := Lib.hid (And.intro hR8' (g_trans HR.out.2.2.2.2 G8))
      clear hR7 hG7 hG8 G8 hR8 hR8'
      go_wp2_with (first | (at_builtin; refine wpList_append_own _ rfl (.tmp 13) (.tmp 19) _ rfl w.heap.size 3 i0 (.int .i64 0) 1 8 Try.underlying31 hi0 hz0 hz1 hz2 rfl (by decide) _ _ _ rfl (hO8.alloc _) ⟨w8.heap.size, 0, none⟩ 1 1 [.int .i64 z] rfl rfl (cell_one_new _ _ _) (fun x hx => by simp at hx; subst hx; rfl) (by unfold maxLen; omega) (by omega) (by simp; omega) ?_; intro v3 w3 hown3 hgrow3 hnil3))
      have hB12 : Below w.heap.size w8 w3 := ((Below.refl _ w8).alloc (Nat.le_of_lt hs8) _).grown hgrow3 (by simp; omega) hO8.grow
      obtain ⟨R12, G12⟩ := rd_end (P := P + 1 + 2 * ((k + 1 : Nat) : Int)) hb HR8.out.1 rfl HR8.out.2 hB12
      have HF : Hid (OwnI w3 w.heap.size v3 (zs ++ [z]) ∧ (∀ y ∈ zs ++ [z], -1 ≤ y ∧ y ≤ 501) ∧ (zs ++ [z]).length = k + 1 ∧ Rd w3 b (P + 1 + 2 * ((k + 1 : Nat) : Int)) ∧ w.grownBy w3 (some b)) := ⟨OwnI.snoc hown3, fun y hy => by
        rcases List.mem_append.1 hy with h | h
        · exact HR.out.2.1 y h
        · simp at h; omega, by rw [List.length_append, HKL.out]; rfl, R12, G12⟩
      have hs12 : w.heap.size < w3.heap.size := by have := hB12.size; omega
      clear hown3 hgrow3 hnil3 hB12 R12 G12 hO8 HR8 HR
      go_roundw
      case rel => exact ⟨k + 1, zs ++ [z], by omega, by go_num, HF.out, hs12⟩
      case measure => simp [intOf]; omega
    · have e : (k : Int) = m := by omega
      have hzl : zs.length ≤ 20 := by omega
      have hO := HR.out.1
      obtain ⟨vb, vc, rfl, _⟩ := hO.ints
      have HO := Lib.hid hO
      clear hO
      by_cases hz : zs.length = 0
      · have e1 : decide (0 < (zs.length : Int)) = false := decide_eq_false (by omega)
        have e2 : decide (0 < zs.length) = false := decide_eq_false (by omega)
        have HF : Hid (OwnI wr w.heap.size (.slice vb zs.length vc) zs ∧ (∀ z ∈ zs, -1 ≤ z ∧ z ≤ 501) ∧ Rd wr b (P + 60) ∧ w.grownBy wr (some b)) := ⟨HO.out, HR.out.2.1, rd_up HR.out.2.2.2.1 (by omega), HR.out.2.2.2.2⟩
        clear HR HO hkl hz
        go_wp2_with fail
        go_ret
        exact ⟨_, zs, rfl, hzl, HF.out.2.1, HF.out.1, HF.out.2.2.1, HF.out.2.2.2⟩
      · obtain ⟨gz, rfl, hgz⟩ := HO.out.form_ (by omega)
        have e1 : decide (0 < (zs.length : Int)) = true := decide_eq_true (by omega)
        have e2 : decide (0 < zs.length) = true := decide_eq_true (by omega)
        have e3 : 0 < zs.length := by omega
        have hbr : b < wr.heap.size := by omega
        have hR := HR.out.2.2.2.1
        have HKL := Lib.hid hkl
        clear hkl hz
        go_wp2_with fail
        refine (pick_any b _ 20 _ hR (by omega)).mono ?_
        rintro e w7 ⟨p, rfl, hp, hR7, hG7⟩
        have hb7 := Nat.lt_of_lt_of_le hbr hG7.size
        have HO7 := Lib.hid (ownI_kept HO.out hG7 hb)
        have G7 := Lib.hid (g_trans HR.out.2.2.2.2 hG7)
        have HZ := Lib.hid HR.out.2.1
        clear hR hp hG7 HR HO
        by_cases p0 : p = 0
        · subst p0
          go_wp2_with fail
          refine (one_lit b 2 _ (-1) 501 [-1, 501] _ w7 hR7 (by omega) hb7 rfl (by omega) (by omega) (by simp)).mono ?_
          rintro e w8 ⟨z, rfl, z0, z1, hR8, hG8⟩
          have hO8 := ownI_kept HO7.out hG8 hb
          have hc0 := hO8.cell (j := 0) e3
          have hf0 := hO8.frozen 0
          have hS := hO8.set_ 0 z
          have hB : Below w.heap.size w8 (w8.setCell ⟨gz, 0, none⟩ (.int .i64 z)) := (Below.refl _ _).setCell (p := ⟨gz, 0, none⟩) hgz _
          have hfin := rd_end (P := P + 60) hb (rd_up (P' := P + 60) hR8 (by omega)) rfl (g_trans G7.out hG8) hB
          have HS := Lib.hid (And.intro hS hfin)
          generalize zs.getD 0 0 = y0 at hc0
          clear hS hfin hB hO8 hG8 hR8 hR7
          go_wp2_with fail
          go_ret
          have hl2 : (zs.set 0 z).length = zs.length := List.length_set
          refine ⟨_, zs.set 0 z, rfl, by rw [hl2]; exact hzl, fun y hy => ?_, HS.out.1, HS.out.2.1, HS.out.2.2⟩
          rcases List.mem_or_eq_of_mem_set hy with h | h
          · exact HZ.out y h
          · subst h; exact ⟨z0, z1⟩
        · have e4 : ((p : Int) == 0) = false := beq_eq_false_iff_ne.2 (by omega)
          have e5 : (p == 0) = false := beq_eq_false_iff_ne.2 p0
          have HF := Lib.hid (rd_up (P' := P + 60) hR7 (by omega))
          clear hR7 p0
          go_wp2_with fail
          go_ret
          exact ⟨_, zs, rfl, hzl, HZ.out, HO7.out, HF.out, G7.out⟩
end Go.Proofs.Ytfcgjiciobfncaa
namespace Go.Proofs.Ytfcgjiciobfncaa
open Go.RowKit
set_option linter.unusedSimpArgs false
set_option linter.unusedVariables false
def DrawnArriveAt (w : World) (e : Ending) (w' : World) : Prop := ∃ (a : Option Addr) (cap : Nat) (xs : List Nd) (i : Int) (b2 : Option Addr) (c2 : Nat) (zs : List Int), e = .returned (.tuple #[.slice a xs.length cap, .int .i64 i, .slice b2 zs.length c2]) ∧ 1 ≤ xs.length ∧ xs.length ≤ 10 ∧ xs.length ≤ cap ∧ IsNd w' a xs ∧ -1 ≤ i ∧ i ≤ 12 ∧ zs.length ≤ 20 ∧ (∀ z ∈ zs, -1 ≤ z ∧ z ≤ 501) ∧ IsInts w' b2 zs ∧ Below w.heap.size w w'
set_option maxHeartbeats 2000000 in
theorem drawArriveAt (a : Option Addr) (len cap : Nat) (zs : List Int) (w : World) (h : IsRow .u8 w a len cap zs) :
    Calls Try.prog 51 #[.slice a len cap] w (DrawnArriveAt w) := by
  go_enter Try.func51, Try.ntmps51
  go_wp2_with fail
  refine (newReader_any a len cap zs _ h).mono ?_
  rintro e w1 ⟨rfl, hR1, hB1, hb1⟩
  clear h
  go_wp2_with fail
  refine (atNd w.heap.size _ _ hR1 (by omega) hb1).mono ?_
  rintro e w2 ⟨b, cp, xs, i, rfl, l1, l10, hlc, hi, i0, i1, hblk, hR2, hG2⟩
  have hb2 := Nat.lt_of_lt_of_le hb1 hG2.size
  clear hR1
  go_wp2_with fail
  refine (someFl w.heap.size _ w2 hR2 (by omega) hb2).mono ?_
  rintro e w3 ⟨v, ys, rfl, hl, hz, hO, hR3, hG3⟩
  obtain ⟨b2, c2, rfl, hI2⟩ := hO.ints
  have HF : Hid (IsNd w3 b xs ∧ IsInts w3 b2 ys ∧ Below w.heap.size w w3) := ⟨nd_grown hi hblk hb1 hG3, hI2, g_madeN hB1 (g_trans hG2 hG3)⟩
  have HZ := Lib.hid hz
  clear hi hR2 hG2 hR3 hG3 hB1 hO hI2 hz
  go_wp2_with fail
  refine bodyPost_ret (v := .tuple #[.slice b xs.length cp, .int .i64 i, .slice b2 ys.length c2]) (by simp [results, Try.results51, go_sem]) rfl ?_
  exact ⟨b, cp, xs, i, b2, c2, ys, rfl, l1, l10, hlc, HF.out.1, i0, i1, hl, HZ.out, HF.out.2.1, HF.out.2.2⟩
end Go.Proofs.Ytfcgjiciobfncaa
namespace Go.Proofs.Ytfcgjiciobfncaa
open Go.RowKit
set_option maxHeartbeats 1000000 in
/-- equalInts of two readings of the same numbers -/
theorem eqInts (a b : Option Addr) (ca cb : Nat) (zs : List Int) (w : World) (ha : IsInts w a zs) (hb : IsInts w b zs) (hn : zs.length ≤ 1048576) :
    Calls Try.prog 26 #[.slice a zs.length ca, .slice b zs.length cb] w fun e w' => e = .returned (.bool true) ∧ Below w.heap.size w w' := by
  rcases ha with rfl | ⟨g, o, rfl, hc⟩
  · go_enter Try.func26, Try.ntmps26
    go_wp2
    go_rounds 1
    go_ret
    exact ⟨rfl, by go_grown⟩
  · rcases hb with rfl | ⟨g2, o2, rfl, hc2⟩
    · go_enter Try.func26, Try.ntmps26
      go_wp2
      go_rounds 1
      go_ret
      exact ⟨rfl, by go_grown⟩
    · have HC := Lib.hid hc
      have HD := Lib.hid hc2
      clear hc hc2
      go_enter Try.func26, Try.ntmps26
      go_wp2
      go_loopw [5] (fun i wr => ∃ k : Nat, k ≤ zs.length ∧ i = .int .i64 k ∧ Below w.heap.size w wr) (fun i _ => zs.length - (intOf i).toNat)
      case atStart => exact ⟨0, Nat.zero_le _, rfl, by go_grown⟩
      case round =>
        obtain ⟨k, hk, rfl, hB⟩ := hrel
        by_cases hlt : k < zs.length
        · have hc := (hB.cell (p := ⟨g, o + k, none⟩) (World.block_lt_of_cell? w _ (HC.out k hlt))).trans (HC.out k hlt)
          have hd := (hB.cell (p := ⟨g2, o2 + k, none⟩) (World.block_lt_of_cell? w _ (HD.out k hlt))).trans (HD.out k hlt)
          generalize zs.getD k 0 = z at hc hd
          have i0 : (0 : Int) ≤ (k : Int) := by omega
          have i1 : (k : Int) < (zs.length : Int) := by omega
          go_wp2_with fail
          go_quiet (fail)
          go_wp2
          go_roundw
          case rel => exact ⟨k + 1, by omega, by go_num, below_drewN hB _⟩
          case measure => simp [intOf]; omega
        · go_wp2
          go_ret
          exact ⟨rfl, by go_grown⟩
end Go.Proofs.Ytfcgjiciobfncaa
namespace Go.Proofs.Ytfcgjiciobfncaa
open Go.RowKit
set_option linter.unusedSimpArgs false
set_option linter.unusedVariables false
set_option maxHeartbeats 4000000 in
/-- impl.LeavesOf -/
theorem iLeaves (a : Option Addr) (cap : Nat) (ns : List Nd) (w : World) (h : IsNd w a ns) (hn : ns.length ≤ 1048576) (hcap : ns.length ≤ cap) :
    Calls Try.prog 57 #[.slice a ns.length cap] w (OutI w (leavesV ns)) := by
  have VN := iVN a cap ns _ h hn hcap
  cases hv : vnB ns with
  | false =>
    rw [show leavesV ns = [] from by unfold leavesV; rw [hv]; rfl]
    rw [hv] at VN
    clear hv h
    go_enter Try.func57, Try.ntmps57
    go_wp2_with fail
    refine VN.mono ?_
    rintro e w1 ⟨rfl, C⟩
    go_wp2_with fail
    go_ret
    exact outI_nil C
  | true =>
  rw [hv] at VN
  rw [show leavesV ns = leavesTo ns ns.length from by unfold leavesV; rw [hv]; rfl]
  obtain ⟨l1, l12, _⟩ := vn_is hv
  obtain ⟨i0, hi0, hz0, hz1, hz2⟩ := info_parts infoInt
  have HK := Lib.hid (fun (W : World) (hW : Below w.heap.size w W) (k : Nat) (hk : k < ns.length) => (by have := iKids a cap ns (k : Int) W (nd_below h hW) hn hcap; rw [kids_yes hv (inN_is hk)] at this; exact this : Calls Try.prog 90 #[.slice a ns.length cap, .int .i64 (k : Int)] W (OutI W (kidsF ns (k : Int)))))
  clear hv h
  go_enter Try.func57, Try.ntmps57
  go_wp2_with fail
  refine VN.mono ?_
  rintro e w1 ⟨rfl, C⟩
  clear VN
  go_wp2_with fail
  go_loopw [3, 11] (fun v i wr => ∃ k : Nat, k ≤ ns.length ∧ i = .int .i64 k ∧ OwnI wr w.heap.size v (leavesTo ns k) ∧ Below w.heap.size w wr) (fun _ i _ => ns.length - (intOf i).toNat)
  case atStart => exact ⟨0, Nat.zero_le _, rfl, OwnI.new C, C.alloc C.size _⟩
  case round =>
    clear C
    obtain ⟨k, hk, rfl, hO, hB⟩ := hrel
    by_cases hlt : k < ns.length
    · have CK := HK.out wr hB k hlt
      have hyes : (kidsF ns (k : Int)).length = 0 → leavesTo ns (k + 1) = leavesTo ns k ++ [(k : Int)] := fun e => leavesTo_yes e
      have hno : ¬ (kidsF ns (k : Int)).length = 0 → leavesTo ns (k + 1) = leavesTo ns k := fun e => leavesTo_no e
      have hkl := kids_len ns (k : Int)
      have hll := leavesTo_len ns k
      have HO := Lib.hid hO
      have HB := Lib.hid hB
      have HYN := Lib.hid (And.intro hyes hno)
      clear hO hB hyes hno
      generalize kidsF ns (k : Int) = q at CK HYN hkl
      go_wp2_with fail
      refine CK.mono ?_
      rintro e w2 ⟨v, rfl, hK, hB2⟩
      obtain ⟨kb, kc, rfl, _⟩ := hK.ints
      have hO2 : OwnI w2 w.heap.size _ (leavesTo ns k) := HO.out.of_block hB2
      have hB2' : Below w.heap.size w w2 := bel_tr HB.out hB2
      have hsz := hB2'.size
      clear hK hB2 CK
      obtain ⟨n, hnq⟩ : ∃ n, q.length = n := ⟨_, rfl⟩
      have HYN2 : Hid ((n = 0 → leavesTo ns (k + 1) = leavesTo ns k ++ [(k : Int)]) ∧ (¬ n = 0 → leavesTo ns (k + 1) = leavesTo ns k)) := by rw [← hnq]; exact HYN.out
      rw [hnq] at hkl ⊢
      clear HYN hnq
      generalize leavesTo ns k = ls at hO2 hll HYN2
      by_cases hz : n = 0
      · subst hz
        have HY := Lib.hid (HYN2.out.1 rfl)
        clear HYN2
        go_wp2_with (first | (at_builtin; refine wpList_append_own _ rfl (.tmp 19) (.tmp 21) _ rfl w.heap.size 3 i0 (.int .i64 0) 1 8 Try.underlying31 hi0 hz0 hz1 hz2 rfl (by decide) _ _ _ rfl (hO2.alloc _) ⟨w2.heap.size, 0, none⟩ 1 1 [.int .i64 (k : Int)] rfl rfl (cell_one_new _ _ _) (fun x hx => by simp at hx; subst hx; rfl) (by unfold maxLen; omega) (by omega) (by simp; omega) ?_; intro v3 w3 hown3 hgrow3 hnil3))
        have HR : Hid (OwnI w3 w.heap.size v3 (leavesTo ns (k + 1)) ∧ Below w.heap.size w w3) := ⟨by rw [HY.out]; exact OwnI.snoc hown3, (hB2'.alloc hsz _).grown hgrow3 (by simp; omega) hO2.grow⟩
        clear hO2 hown3 hgrow3 hnil3 hB2'
        go_roundw
        case rel => exact ⟨k + 1, by omega, by go_num, HR.out.1, HR.out.2⟩
        case measure => simp [intOf]; omega
      · have HY := Lib.hid (HYN2.out.2 hz)
        have z0 : ((n : Int) == 0) = false := by simp; omega
        have z1 : (n == 0) = false := by simpa using hz
        have HO2 := Lib.hid hO2
        have HB2 := Lib.hid hB2'
        clear HYN2 hO2 hB2'
        go_wp2_with fail
        go_roundw
        case rel => exact ⟨k + 1, by omega, by go_num, by rw [HY.out]; exact HO2.out, HB2.out⟩
        case measure => simp [intOf]; omega
    · have HO := Lib.hid hO
      have HB := Lib.hid hB
      clear hO hB
      go_wp2_with fail
      go_ret
      exact ⟨_, rfl, by rw [show k = ns.length from by omega] at HO; exact HO.out, HB.out⟩
end Go.Proofs.Ytfcgjiciobfncaa
namespace Go.Proofs.Ytfcgjiciobfncaa
open Go.RowKit
set_option linter.unusedSimpArgs false
set_option linter.unusedVariables false
theorem give_is {ns : List Nd} (hv : vnB ns = true) {k : Nat} (hk : k < ns.length) {c : Int} (hc : 0 ≤ c) : (if csB (passV (ns.getD k nd0) c) (wts ns (k : Int)) = true then sa 2 (passV (ns.getD k nd0) c) (wts ns (k : Int)) else []) = giveV ns (k : Int) (passV (ns.getD k nd0) c) := by
  unfold giveV
  by_cases hw : vwB (wts ns (k : Int)) = true
  · rw [if_pos hw, if_pos (csB_pass hv hk hc hw)]
  · rw [if_neg hw, if_neg (fun h => hw (cs_yes h).2)]
set_option maxRecDepth 100000 in
set_option maxHeartbeats 8000000 in
/-- impl.FlowsOf -/
theorem iFlows (a : Option Addr) (cap : Nat) (ns : List Nd) (fl : Int) (w : World) (h : IsNd w a ns) (hn : ns.length ≤ 1048576) (hcap : ns.length ≤ cap) :
    Calls Try.prog 86 #[.slice a ns.length cap, .int .i64 fl] w (OutI w (flowV ns fl)) := by
  have CF := icanFlow a cap ns fl w h hn hcap
  cases hb : flB ns fl with
  | false =>
    rw [hb] at CF
    rw [flow_no hb]
    clear hb h
    go_enter Try.func86, Try.ntmps86
    go_wp2_with fail
    refine CF.mono ?_
    rintro e w1 ⟨rfl, C⟩
    go_wp2_with fail
    go_ret
    exact outI_nil C
  | true =>
  rw [hb] at CF
  rw [flow_yes hb]
  obtain ⟨hv, f0, f1⟩ := flB_is hb
  obtain ⟨l1, l12, _⟩ := vn_is hv
  have hmk := run_make_row' (P := Try.prog) 31 3 (.int .i64 0) 8 Try.underlying31 infoInt rfl .i64 .i64 ns.length (by omega) (by omega)
  have HH := Lib.hid h
  have HV := Lib.hid hv
  rcases h with rfl | ⟨g0, o, rfl, hc⟩
  · simp at l1
  have HC := Lib.hid hc
  have i0 : (0 : Int) < (ns.length : Int) := by omega
  clear hc hb hv
  go_enter Try.func86, Try.ntmps86
  go_wp2_with fail
  refine CF.mono ?_
  rintro e w1 ⟨rfl, C⟩
  clear CF
  have hM := OwnI.made C ns.length hn
  have hz := hM.cell (j := 0) (by rw [List.length_replicate]; omega)
  have hzf := hM.frozen 0
  have hO0 := hM.set_ 0 fl
  obtain ⟨g, hg⟩ : ∃ g, w1.heap.size = g := ⟨_, rfl⟩
  have hgw : w.heap.size ≤ g := by rw [← hg]; exact C.size
  rw [hg] at hz hzf hO0
  rw [List.getD_eq_getElem?_getD, List.getElem?_replicate, if_pos (by omega)] at hz
  dsimp only [Option.getD_some] at hz
  have hB0 : Below w.heap.size w ((w1.alloc (.cells (madeCells #[.int .i64 0] ns.length) 3)).setCell ⟨g, 0, none⟩ (.int .i64 fl)) := (C.alloc C.size _).setCell (p := ⟨g, 0, none⟩) hgw _
  rw [World.setCell_alloc_at _ _ _ _ _ hg.symm] at hO0 hB0
  have HO0 := Lib.hid hO0
  have HB0 := Lib.hid hB0
  have HG := Lib.hid hg
  clear hM hO0 hB0 C
  go_wp2_with fail
  clear hmk hz hzf
  go_loopw [24] (fun i wr => ∃ k : Nat, k ≤ ns.length ∧ i = .int .i64 k ∧ OwnI wr w.heap.size (.slice (some ⟨g, 0, none⟩) ns.length ns.length) (comeTo ns fl k) ∧ Below w.heap.size w wr) (fun i _ => ns.length - (intOf i).toNat)
  case atStart => exact ⟨0, Nat.zero_le _, rfl, HO0.out, HB0.out⟩
  case round =>
    clear HO0 HB0 HG hg
    obtain ⟨k, hk, rfl, hO, hB⟩ := hrel
    by_cases hlt : k < ns.length
    · obtain ⟨c0, c1, c2, c3, c4⟩ := nd_at HC.out hB hlt
      obtain ⟨q1, q2, q3, q4⟩ := vn_at HV.out hlt
      have hcb := comeTo_bd HV.out ⟨f0, f1⟩ k hk k
      have hgc := hO.cell (j := k) (by rw [comeTo_len]; exact hlt)
      have hgb := hO.blk
      have HGI := Lib.hid (give_is HV.out hlt (c := (comeTo ns fl k).getD k 0) hcb.1)
      have HST : Hid (comeTo ns fl (k + 1) = putTo (comeTo ns fl k) (kidsF ns (k : Int)) (giveV ns (k : Int) (passV (ns.getD k nd0) ((comeTo ns fl k).getD k 0))) (giveV ns (k : Int) (passV (ns.getD k nd0) ((comeTo ns fl k).getD k 0))).length) := rfl
      have hgl := give_len ns (k : Int) (passV (ns.getD k nd0) ((comeTo ns fl k).getD k 0))
      generalize (comeTo ns fl k).getD k 0 = c at hcb hgc HGI HST hgl
      have CP := fun W => ipassing (ns.getD k nd0).1 (ns.getD k nd0).2.1 (ns.getD k nd0).2.2.1 (ns.getD k nd0).2.2.2.1 (ns.getD k nd0).2.2.2.2 c W hcb q2 q3
      change ∀ W, Calls _ _ _ W (fun e w' => e = .returned (.int .i64 (passV (ns.getD k nd0) c)) ∧ Below W.heap.size W w') at CP
      generalize ns.getD k nd0 = nd at c0 c1 c2 c3 c4 CP HGI HST hgl q2 q3
      obtain ⟨x0, x1, x2, x3, x4⟩ := nd
      dsimp only at c0 c1 c2 c3 c4 CP
      generalize passV (x0, x1, x2, x3, x4) c = p at CP HGI HST hgl
      obtain ⟨Wa, hWa⟩ : ∃ Wa, wr.alloc (.cells #[.int .i64 x0, .int .i64 x1, .int .i64 x2, .int .i64 x3, .int .i64 x4] 60) = Wa := ⟨_, rfl⟩
      have K0 : Blk Wa wr.heap.size 60 #[.int .i64 x0, .int .i64 x1, .int .i64 x2, .int .i64 x3, .int .i64 x4] := by rw [← hWa]; exact Blk.new _ _ _
      have kb0 := K0.cell 0
      have kb1 := K0.cell 1
      have kb2 := K0.cell 2
      have kb3 := K0.cell 3
      have kb4 := K0.cell 4
      dsimp at kb0 kb1 kb2 kb3 kb4
      have hba : Below wr.heap.size wr Wa := by rw [← hWa]; exact (Below.refl _ _).alloc (Nat.le_refl _) _
      have kc := (hba.cell (p := ⟨g, k, none⟩) hgb.2).trans hgc
      have HOa := Lib.hid (hO.of_block hba)
      have HBa := Lib.hid (bel_tr hB hba)
      have hga : g < Wa.heap.size := by have := hba.size; omega
      have k0 : (0 : Int) ≤ (k : Int) := by omega
      have k1 : (k : Int) < (ns.length : Int) := by omega
      clear hO hB K0 hba hgc q1 q2 q3 q4 hcb
      go_wp2_with fail
      clear hWa c0 c1 c2 c3 c4
      refine wp_region_held_drew (S := (fun W' => (W'.cell? ⟨wr.heap.size, 0, none⟩ = some (.int .i64 x0) ∧ W'.cell? ⟨wr.heap.size, 1, none⟩ = some (.int .i64 x1) ∧ W'.cell? ⟨wr.heap.size, 2, none⟩ = some (.int .i64 x2) ∧ W'.cell? ⟨wr.heap.size, 3, none⟩ = some (.int .i64 x3) ∧ W'.cell? ⟨wr.heap.size, 4, none⟩ = some (.int .i64 x4) ∧ W'.cell? ⟨g, k, none⟩ = some (.int .i64 c)) ∧ Below Wa.heap.size Wa W')) (by kernel_rfl) ?_ (fun hHeld => ?_)
      · exact ⟨⟨kb0, kb1, kb2, kb3, kb4, kc⟩, (Below.refl _ _).drew⟩
      refine wpAnyH_take (i := 0) (oi := ?ooa0) (v := ?vva0) ?hia0 (by kernel_rfl) ?h3a0 ?h4a0 ?h5a0 ?h6a0 (by assumption) ?h8a0
      case hia0 => (simp only [List.getElem?_toArray, List.getElem?_cons_succ, List.getElem?_cons_zero]; rfl)
      case h3a0 => kernel_rfl
      case h4a0 => kernel_rfl
      case h6a0 => (refine Or.inl ⟨by rfl, ?_⟩; intro w hSw; (try dsimp only at hSw); (go_simp <;> with_reducible rfl))
      case h5a0 => exact fun _ _ _ h => h
      try simp only [Act.put, List.setIfInBounds_toArray, List.set_cons_zero, List.set_cons_succ]
      refine wpAnyH_take (i := 1) (oi := ?ooa1) (v := ?vva1) ?hia1 (by kernel_rfl) ?h3a1 ?h4a1 ?h5a1 ?h6a1 (by assumption) ?h8a1
      case hia1 => (simp only [List.getElem?_toArray, List.getElem?_cons_succ, List.getElem?_cons_zero]; rfl)
      case h3a1 => kernel_rfl
      case h4a1 => kernel_rfl
      case h6a1 => (refine Or.inl ⟨by rfl, ?_⟩; intro w hSw; (try dsimp only at hSw); (go_simp <;> with_reducible rfl))
      case h5a1 => exact fun _ _ _ h => h
      try simp only [Act.put, List.setIfInBounds_toArray, List.set_cons_zero, List.set_cons_succ]
      refine wpAnyH_take (i := 2) (oi := ?ooa2) (v := ?vva2) ?hia2 (by kernel_rfl) ?h3a2 ?h4a2 ?h5a2 ?h6a2 (by assumption) ?h8a2
      case hia2 => (simp only [List.getElem?_toArray, List.getElem?_cons_succ, List.getElem?_cons_zero]; rfl)
      case h3a2 => kernel_rfl
      case h4a2 => kernel_rfl
      case h6a2 => (refine Or.inl ⟨by rfl, ?_⟩; intro w hSw; (try dsimp only at hSw); (go_simp <;> with_reducible rfl))
      case h5a2 => exact fun _ _ _ h => h
      try simp only [Act.put, List.setIfInBounds_toArray, List.set_cons_zero, List.set_cons_succ]
      refine wpAnyH_take (i := 3) (oi := ?ooa3) (v := ?vva3) ?hia3 (by kernel_rfl) ?h3a3 ?h4a3 ?h5a3 ?h6a3 (by assumption) ?h8a3
      case hia3 => (simp only [List.getElem?_toArray, List.getElem?_cons_succ, List.getElem?_cons_zero]; rfl)
      case h3a3 => kernel_rfl
      case h4a3 => kernel_rfl
      case h6a3 => (refine Or.inl ⟨by rfl, ?_⟩; intro w hSw; (try dsimp only at hSw); (go_simp <;> with_reducible rfl))
      case h5a3 => exact fun _ _ _ h => h
      try simp only [Act.put, List.setIfInBounds_toArray, List.set_cons_zero, List.set_cons_succ]
      refine wpAnyH_take (i := 4) (oi := ?ooa4) (v := ?vva4) ?hia4 (by kernel_rfl) ?h3a4 ?h4a4 ?h5a4 ?h6a4 (by assumption) ?h8a4
      case hia4 => (simp only [List.getElem?_toArray, List.getElem?_cons_succ, List.getElem?_cons_zero]; rfl)
      case h3a4 => kernel_rfl
      case h4a4 => kernel_rfl
      case h6a4 => (refine Or.inl ⟨by rfl, ?_⟩; intro w hSw; (try dsimp only at hSw); (go_simp <;> with_reducible rfl))
      case h5a4 => exact fun _ _ _ h => h
      try simp only [Act.put, List.setIfInBounds_toArray, List.set_cons_zero, List.set_cons_succ]
      refine wpAnyH_ready (rs := [5]) (by kernel_rfl) (by simp) (AllReadyH.cons (o := ?ooa5) ?hia5 (fun K hK => ?hka5) AllReadyH.nil)
      rotate_left
      case hia5 => (simp only [List.getElem?_toArray, List.getElem?_cons_succ, List.getElem?_cons_zero]; rfl)
      (rw [if_pos (by rfl)]; go_simp; refine (CP _).mono ?_; rintro e wq ⟨rfl, hb⟩; go_wp2_with fail; refine hK.out _ _ (kp6 hb hHeld) (fun hHeld => ?_); clear hK K)
      try simp only [Act.put, List.setIfInBounds_toArray, List.set_cons_zero, List.set_cons_succ]
      refine wpAnyH_take (i := 6) (oi := ?ooa6) (v := ?vva6) ?hia6 (by kernel_rfl) ?h3a6 ?h4a6 ?h5a6 ?h6a6 (by assumption) ?h8a6
      case hia6 => (simp only [List.getElem?_toArray, List.getElem?_cons_succ, List.getElem?_cons_zero]; rfl)
      case h3a6 => kernel_rfl
      case h4a6 => kernel_rfl
      case h6a6 => (refine Or.inl ⟨by rfl, ?_⟩; intro w hSw; (try dsimp only at hSw); (go_simp <;> with_reducible rfl))
      case h5a6 => exact fun _ _ _ h => h
      try simp only [Act.put, List.setIfInBounds_toArray, List.set_cons_zero, List.set_cons_succ]
      refine wpAnyH_done (by kernel_rfl) ?_ _
      have hW2 : Below Wa.heap.size Wa wq := hHeld.2
      have B2 := bel_tr HBa.out hW2
      have O2 := HOa.out.of_block hW2
      have hz2 := hW2.size
      clear hHeld hb
      have CK := iKids (some ⟨g0, o, none⟩) cap ns (k : Int) wq (nd_below HH.out B2) hn hcap
      rw [kids_yes HV.out (inN_is hlt)] at CK
      go_wp2_with fail
      refine CK.mono ?_
      rintro e w3 ⟨v9, rfl, hK, hB3⟩
      obtain ⟨kb, kcp, rfl, hKI⟩ := hK.ints
      have hkm : ∀ z ∈ kidsF ns (k : Int), ∃ j : Nat, z = (j : Int) ∧ j < ns.length := fun z hz => by obtain ⟨j, a, b, _⟩ := kids_bd hz; exact ⟨j, a, b⟩
      have hkl := kids_len ns (k : Int)
      have CW := iweights (some ⟨g0, o, none⟩) kb cap kcp ns (kidsF ns (k : Int)) w3 (nd_below HH.out (bel_tr B2 hB3)) hKI hkm (by omega) hn
      go_wp2_with fail
      refine CW.mono ?_
      rintro e w4 ⟨v41, rfl, hWt, hB4⟩
      obtain ⟨wb, wcp, rfl, hWI⟩ := hWt.ints
      have CM := imidV p wb wcp (wts ns (k : Int)) w4 hWI (by unfold wts; rw [wk_len]; omega)
      rw [HGI.out] at CM
      go_wp2_with fail
      refine CM.mono ?_
      rintro e w5 ⟨v42, rfl, hG, hB5⟩
      obtain ⟨gb, gcp, rfl, _⟩ := hG.ints
      have B5 := bel_tr (bel_tr (bel_tr B2 hB3) hB4) hB5
      have O5 := ((O2.of_block hB3).of_block hB4).of_block hB5
      have K5 := (hK.of_block hB4).of_block hB5
      have s3 := hB3.size
      have s4 := hB4.size
      have s5 := hB5.size
      have hcl := comeTo_len ns fl k
      have HKM := Lib.hid hkm
      clear CK CW CM hKI hWI hWt hB3 hB4 hB5 O2 B2 hK hkm HOa HBa hW2 CP kb0 kb1 kb2 kb3 kb4 kc HGI
      generalize kidsF ns (k : Int) = ks at K5 HKM hkl hgl HST
      generalize giveV ns (k : Int) p = gv at hG hgl HST
      generalize comeTo ns fl k = cs at O5 hcl HST
      have HO5 := Lib.hid O5
      have HK5 := Lib.hid K5
      have HG5 := Lib.hid hG
      have HB5 := Lib.hid B5
      clear O5 K5 hG B5
      go_wp2_with fail
      go_loopw [44] (fun i wr => ∃ m : Nat, m ≤ gv.length ∧ i = .int .i64 m ∧ Hid (OwnI wr w.heap.size (.slice (some ⟨g, 0, none⟩) ns.length ns.length) (putTo cs ks gv m) ∧ w5.grownBy wr (some g))) (fun i _ => gv.length - (intOf i).toNat)
      case atStart => exact ⟨0, Nat.zero_le _, rfl, HO5.out, g_of (Below.refl _ _) _⟩
      case round =>
        obtain ⟨m, hm, rfl, HM⟩ := hrel
        by_cases hlm : m < gv.length
        · have hka := (HK5.out.apart HM.out.2 (fun q hq => by have e := Option.some.inj hq; omega)).at_
          have hga2 := (HG5.out.apart HM.out.2 (fun q hq => by have e := Option.some.inj hq; omega)).at_
          rcases hka with rfl | ⟨gk, ok, rfl, hkc⟩
          · have : gv.length ≤ 0 := hgl
            omega
          rcases hga2 with rfl | ⟨gg, og, rfl, hgc⟩
          · simp at hlm
          have c1 := hkc m (by omega)
          have c2 := hgc m hlm
          obtain ⟨j, hj, hjl⟩ := HKM.out _ (getD_mem (zs := ks) (k := m) (by omega))
          have hpl := putTo_len cs ks gv m
          have c3 := HM.out.1.cell (j := j) (by omega)
          have c4 := HM.out.1.frozen j
          have hst := HM.out.1.set_ j (gv.getD m 0)
          have hps := putTo_succ cs ks gv m
          rw [hj, show ((j : Int)).toNat = j from by omega] at hps
          rw [← hps] at hst
          rw [hj] at c1
          have HS : Hid (OwnI (wr.setCell ⟨g, j, none⟩ (.int .i64 (gv.getD m 0))) w.heap.size (.slice (some ⟨g, 0, none⟩) ns.length ns.length) (putTo cs ks gv (m + 1)) ∧ w5.grownBy (wr.setCell ⟨g, j, none⟩ (.int .i64 (gv.getD m 0))) (some g)) := ⟨hst, g_set2 HM.out.2⟩
          have b0 : (0 : Int) ≤ (j : Int) := by omega
          have b1 : (j : Int) < (ns.length : Int) := by omega
          have b2 : (m : Int) < (gv.length : Int) := by omega
          have b3 : (m : Int) < (ks.length : Int) := by omega
          have b4 : (0 : Int) ≤ (m : Int) := by omega
          generalize gv.getD m 0 = y at c2 HS
          generalize (putTo cs ks gv m).getD j 0 = y3 at c3
          clear hkc hgc hst hps hj hpl HM
          go_wp2_with fail
          go_roundw
          case rel => exact ⟨m + 1, by omega, by go_num, HS.out⟩
          case measure => simp [intOf]; omega
        · have HE : Hid (OwnI wr w.heap.size (.slice (some ⟨g, 0, none⟩) ns.length ns.length) (comeTo ns fl (k + 1)) ∧ Below w.heap.size w wr) := by
            refine ⟨?_, below_gv HB5.out HM.out.2 (fun q hq => by have e := Option.some.inj hq; omega)⟩
            rw [HST.out]
            have := HM.out.1
            rw [show m = gv.length from by omega] at this
            exact this
          clear HM
          go_wp2_with fail
          go_roundw
          case rel => exact ⟨k + 1, by omega, by go_num, HE.out⟩
          case measure => simp [intOf]; omega
    · have HO := Lib.hid hO
      have HB := Lib.hid hB
      clear hO hB
      go_wp2_with fail
      go_ret
      exact ⟨_, rfl, by rw [show k = ns.length from by omega] at HO; exact HO.out, HB.out⟩
end Go.Proofs.Ytfcgjiciobfncaa
namespace Go.Proofs.Ytfcgjiciobfncaa
open Go.RowKit
set_option linter.unusedSimpArgs false
set_option linter.unusedVariables false
set_option maxRecDepth 100000 in
set_option maxHeartbeats 8000000 in
/-- impl.PassedOf -/
theorem iPassed (a : Option Addr) (cap : Nat) (ns : List Nd) (fl : Int) (w : World) (h : IsNd w a ns) (hn : ns.length ≤ 1048576) (hcap : ns.length ≤ cap) :
    Calls Try.prog 55 #[.slice a ns.length cap, .int .i64 fl] w (OutI w (passedV ns fl)) := by
  have CF := icanFlow a cap ns fl w h hn hcap
  cases hb : flB ns fl with
  | false =>
    rw [hb] at CF
    rw [passed_no hb]
    clear hb h
    go_enter Try.func55, Try.ntmps55
    go_wp2_with fail
    refine CF.mono ?_
    rintro e w1 ⟨rfl, C⟩
    go_wp2_with fail
    go_ret
    exact outI_nil C
  | true =>
  rw [hb] at CF
  rw [passed_yes hb]
  obtain ⟨hv, f0, f1⟩ := flB_is hb
  obtain ⟨l1, l12, _⟩ := vn_is hv
  have hmk := run_make_row' (P := Try.prog) 31 3 (.int .i64 0) 8 Try.underlying31 infoInt rfl .i64 .i64 ns.length (by omega) (by omega)
  have HH := Lib.hid h
  have HV := Lib.hid hv
  have HB0 := Lib.hid hb
  rcases h with rfl | ⟨g0, o, rfl, hc⟩
  · simp at l1
  have HC := Lib.hid hc
  clear hc hb hv
  go_enter Try.func55, Try.ntmps55
  go_wp2_with fail
  refine CF.mono ?_
  rintro e w1 ⟨rfl, C⟩
  clear CF
  have hM := OwnI.made C ns.length hn
  have hB2 := C.alloc C.size (.cells (madeCells #[.int .i64 0] ns.length) 3)
  obtain ⟨g, hg⟩ : ∃ g, w1.heap.size = g := ⟨_, rfl⟩
  rw [hg] at hM
  have HM := Lib.hid hM
  have HB2 := Lib.hid hB2
  have hgw : w.heap.size ≤ g := by rw [← hg]; exact C.size
  clear hM hB2 C
  go_wp2_with fail
  clear hmk
  have HGZ : Hid (g < (w1.alloc (.cells (madeCells #[.int .i64 0] ns.length) 3)).heap.size) := by show g < _; rw [← hg]; simp
  generalize w1.alloc (.cells (madeCells #[.int .i64 0] ns.length) 3) = W1 at *
  have CC := iFlows (some ⟨g0, o, none⟩) cap ns fl W1 (nd_below HH.out HB2.out) hn hcap
  rw [flow_yes HB0.out] at CC
  refine CC.mono ?_
  rintro e w2 ⟨v17, rfl, hO, hB3⟩
  obtain ⟨cb, cc, rfl, _⟩ := hO.ints
  have hcl : (comeF ns fl).length = ns.length := comeTo_len ns fl _
  rw [hcl] at hO ⊢
  have hB := bel_tr HB2.out hB3
  have hM2 := HM.out.of_block hB3
  rw [show List.replicate ns.length (0 : Int) = mixZ (passF ns fl) 0 from by rw [mix_none (fun i hi => absurd hi (Nat.not_lt_zero _)), passF_len]] at hM2
  have hgz := HGZ.out
  have hs3 := hB3.size
  have HO := Lib.hid hO
  have HB := Lib.hid hB
  have HM2 := Lib.hid hM2
  clear hO hB hM2 HM hB3 CC hg HGZ HB2
  go_wp2_with fail
  obtain ⟨V, hV⟩ : ∃ V, V = w2 := ⟨_, rfl⟩
  subst hV
  go_loopw [19] (fun i wr => ∃ k : Nat, k ≤ ns.length ∧ i = .int .i64 k ∧ Hid (OwnI wr w.heap.size (.slice (some ⟨g, 0, none⟩) ns.length ns.length) (mixZ (passF ns fl) k) ∧ V.grownBy wr (some g))) (fun i _ => ns.length - (intOf i).toNat)
  case atStart => exact ⟨0, Nat.zero_le _, rfl, HM2.out, g_of (Below.refl _ _) _⟩
  case round =>
    clear HM2
    obtain ⟨k, hk, rfl, HR⟩ := hrel
    have hB := below_gv HB.out HR.out.2 (fun q hq => by have e := Option.some.inj hq; omega)
    by_cases hlt : k < ns.length
    · have hOa := (HO.out.apart HR.out.2 (fun q hq => by have e := Option.some.inj hq; omega)).at_
      rcases hOa with e | ⟨gc, oc, rfl, hcc⟩
      · rw [e] at hcl; simp at hcl; omega
      have hci := hcc k (by omega)
      obtain ⟨c0, c1, c2, c3, c4⟩ := nd_at HC.out hB hlt
      obtain ⟨q1, q2, q3, q4⟩ := vn_at HV.out hlt
      have hcb := come_bd HV.out ⟨f0, f1⟩ k
      have hpg := passF_get ns fl hlt
      have CP := fun W => ipassing (ns.getD k nd0).1 (ns.getD k nd0).2.1 (ns.getD k nd0).2.2.1 (ns.getD k nd0).2.2.2.1 (ns.getD k nd0).2.2.2.2 ((comeF ns fl).getD k 0) W hcb q2 q3
      change ∀ W, Calls _ _ _ W (fun e w' => e = .returned (.int .i64 (passV (ns.getD k nd0) ((comeF ns fl).getD k 0))) ∧ Below W.heap.size W w') at CP
      rw [← hpg] at CP
      generalize (comeF ns fl).getD k 0 = c at hci CP
      generalize ns.getD k nd0 = nd at c0 c1 c2 c3 c4 CP
      obtain ⟨x0, x1, x2, x3, x4⟩ := nd
      dsimp only at c0 c1 c2 c3 c4 CP
      have hms := mix_set (zs := passF ns fl) (k := k) (by rw [passF_len]; exact hlt)
      generalize (passF ns fl).getD k 0 = p at CP hms
      have k0 : (0 : Int) ≤ (k : Int) := by omega
      have k1 : (k : Int) < (ns.length : Int) := by omega
      have HMS := Lib.hid hms
      clear hcc hcb hpg q1 q2 q3 q4 hms hB
      go_wp2_with fail
      refine (CP _).mono ?_
      rintro e wq ⟨rfl, hb⟩
      have hR2 := HR.out.1.of_block hb
      have hG2 := g_trans HR.out.2 (g_of hb (some g))
      have hd := hR2.cell (j := k) (by rw [mix_len, passF_len]; exact hlt)
      have hf := hR2.frozen k
      have hst := hR2.set_ k p
      rw [HMS.out] at hst
      have HS : Hid (OwnI (wq.setCell ⟨g, k, none⟩ (.int .i64 p)) w.heap.size (.slice (some ⟨g, 0, none⟩) ns.length ns.length) (mixZ (passF ns fl) (k + 1)) ∧ V.grownBy (wq.setCell ⟨g, k, none⟩ (.int .i64 p)) (some g)) := ⟨hst, g_set2 hG2⟩
      generalize (mixZ (passF ns fl) k).getD k 0 = y at hd
      clear hR2 hG2 hst hb CP c0 c1 c2 c3 c4 hci
      go_wp2_with fail
      go_roundw
      case rel => exact ⟨k + 1, by omega, by go_num, HS.out⟩
      case measure => simp [intOf]; omega
    · have HE : Hid (OwnI wr w.heap.size (.slice (some ⟨g, 0, none⟩) ns.length ns.length) (passF ns fl) ∧ Below w.heap.size w wr) := by
        refine ⟨?_, hB⟩
        have := HR.out.1
        rw [mix_all (by rw [passF_len]; omega)] at this
        exact this
      clear HR hB
      go_wp2_with fail
      go_ret
      exact ⟨_, rfl, HE.out⟩
end Go.Proofs.Ytfcgjiciobfncaa
namespace Go.Proofs.Ytfcgjiciobfncaa
open Go.RowKit
set_option linter.unusedSimpArgs false
set_option linter.unusedVariables false
set_option maxHeartbeats 4000000 in
/-- impl.PathTo -/
theorem iPath (a : Option Addr) (cap : Nat) (ns : List Nd) (at_ : Int) (w : World) (h : IsNd w a ns) (hn : ns.length ≤ 1048576) (hcap : ns.length ≤ cap) :
    Calls Try.prog 84 #[.slice a ns.length cap, .int .i64 at_] w (OutI w (pathV ns at_)) := by
  have VN := iVN a cap ns _ h hn hcap
  have CI := fun W => iisNode a ns.length cap at_ W hn
  skip
  skip
  cases hv : vnB ns with
  | false =>
    rw [path_no (.inl hv)]
    rw [hv] at VN
    clear hv h
    go_enter Try.func84, Try.ntmps84
    go_wp2_with fail
    refine VN.mono ?_
    rintro e w1 ⟨rfl, C⟩
    go_wp2_with fail
    go_ret
    exact outI_nil C
  | true =>
  rw [hv] at VN
  cases hi : inN ns.length at_ with
  | false =>
    rw [path_no (.inr hi)]
    rw [hi] at CI
    clear hv hi h
    go_enter Try.func84, Try.ntmps84
    go_wp2_with fail
    refine VN.mono ?_
    rintro e w1 ⟨rfl, C⟩
    go_wp2_with fail
    refine (CI _).mono ?_
    rintro e w' ⟨rfl, rfl⟩
    go_wp2_with fail
    go_ret
    exact outI_nil C
  | true =>
    rw [hi] at CI
    rw [path_yes hv hi]
    obtain ⟨k0, rfl, hk0⟩ := inN_yes hi
    obtain ⟨i0, hi0, hz0, hz1, hz2⟩ := info_parts infoInt
    obtain ⟨l1, l12, _⟩ := vn_is hv
    have HH := Lib.hid h
    rcases h with rfl | ⟨g, o, rfl, hc⟩
    · simp at l1
    have HC := Lib.hid hc
    have HV := Lib.hid hv
    clear hi hc hv
    go_enter Try.func84, Try.ntmps84
    go_wp2_with fail
    refine VN.mono ?_
    rintro e w1 ⟨rfl, C⟩
    go_wp2_with fail
    refine (CI _).mono ?_
    rintro e w' ⟨rfl, rfl⟩
    clear VN CI
    go_wp2_with fail
    go_loopw [5, 6] (fun v i wr => ∃ (j : Int) (acc : List Int), i = .int .i64 j ∧ -1 ≤ j ∧ j < (ns.length : Int) ∧ (acc.length : Int) + j ≤ (ns.length : Int) ∧ Hid (pathF ns j ++ acc = pathF ns (k0 : Int)) ∧ OwnI wr w.heap.size v acc ∧ Below w.heap.size w wr) (fun _ i _ => (intOf i + 1).toNat)
    case atStart => exact ⟨_, [], rfl, by omega, by omega, by simp; omega, by show _ ++ [] = _; rw [List.append_nil], OwnI.new C, C.alloc C.size _⟩
    case round =>
      clear C
      obtain ⟨j, acc, rfl, j0, j1, jl, HP, hO, hB⟩ := hrel
      have hsz := hB.size
      by_cases hj : j = -1
      · subst hj
        have HR : Hid (acc = pathF ns (k0 : Int)) := by have := HP.out; rw [pathF_neg ns (by omega), List.nil_append] at this; exact this
        have HO := Lib.hid hO
        have HB := Lib.hid hB
        clear hO hB HP
        go_wp2_with fail
        go_ret
        exact ⟨_, rfl, by rw [← HR.out]; exact HO.out, HB.out⟩
      · obtain ⟨m, rfl⟩ : ∃ m : Nat, j = (m : Int) := ⟨j.toNat, by omega⟩
        have hm : m < ns.length := by omega
        have HS := Lib.hid (pathTo_step HV.out hm)
        have hpar := vn_parI HV.out hm
        have hcc : ∀ W, Below w.heap.size w W → W.cell? ⟨g, o + m * 5, none⟩ = some (.int .i64 (ns.getD m nd0).1) := fun W hW => (nd_at HC.out hW hm).1
        generalize (ns.getD m nd0).1 = p at HS hpar hcc
        have HCC := Lib.hid hcc
        have HB := Lib.hid hB
        have b0 : (0 : Int) ≤ (m : Int) := by omega
        have b1 : (m : Int) < (ns.length : Int) := by omega
        have e1 : ¬ (m : Int) = -1 := by omega
        obtain ⟨sa, sc, rfl, _⟩ := OwnI.ints hO
        have hrd := (Reads.of_own hO).alloc (Nat.le_refl _) (.cells #[.int .i64 (m : Int)] 3)
        have hone := OwnI.one hB (m : Int)
        have hal : acc.length ≤ 1048576 := by omega
        have h1c : ∀ u ∈ acc.map (Value.int .i64), u.oneCell' = true := fun u hu => by obtain ⟨z, _, rfl⟩ := List.mem_map.1 hu; rfl
        have HBG : Hid (∀ W, (wr.alloc (.cells #[.int .i64 (m : Int)] 3)).grownBy W (some wr.heap.size) → Below w.heap.size w W) := fun W hg => (hB.alloc hsz _).grown hg (by simp; omega) (fun q hq => by have e : wr.heap.size = q := Option.some.inj hq; omega)
        clear hj hB hcc hO
        go_wp2_with (first | (at_builtin; refine wpList_append_any _ rfl (.tmp 26) (.tmp 27) _ rfl w.heap.size 3 i0 _ 1 8 Try.underlying31 hi0 hz0 hz1 hz2 rfl (by omega) _ 1 [.int .i64 (m : Int)] rfl hone wr.heap.size sa acc.length sc (acc.map (Value.int .i64)) rfl hrd h1c (by unfold maxLen; omega) (by omega) (by simp; omega) ?_; intro v3 w3 hown3 hgrow3 hat3; have hB3 := HBG.out w3 hgrow3; have hcell := HCC.out w3 hB3; clear hrd hone h1c hgrow3 hat3; replace hown3 := Lib.hid (OwnI.cons hown3); replace hB3 := Lib.hid hB3))
        go_roundw
        case rel => exact ⟨p, (m : Int) :: acc, rfl, hpar.1, by omega, by rw [List.length_cons]; omega, by have := HP.out; rw [HS.out, List.append_assoc] at this; exact this, hown3.out, hB3.out⟩
        case measure => simp [intOf]; omega
set_option maxHeartbeats 4000000 in
/-- impl.DelayTo -/
theorem iDelay (a : Option Addr) (cap : Nat) (ns : List Nd) (at_ : Int) (w : World) (h : IsNd w a ns) (hn : ns.length ≤ 1048576) (hcap : ns.length ≤ cap) :
    Calls Try.prog 54 #[.slice a ns.length cap, .int .i64 at_] w fun e w' => e = .returned (.int .i64 (delayV ns at_)) ∧ Below w.heap.size w w' := by
  have PT := iPath a cap ns at_ w h hn hcap
  by_cases hb : (vnB ns && inN ns.length at_) = true
  rotate_left
  · have hb' : vnB ns = false ∨ inN ns.length at_ = false := by
      cases h1 : vnB ns
      · exact .inl rfl
      · rw [h1] at hb; exact .inr (by simpa using hb)
    rw [path_no hb'] at PT
    rw [delay_no hb']
    clear hb hb' h
    go_enter Try.func54, Try.ntmps54
    go_wp2_with fail
    refine PT.mono ?_
    rintro e w1 ⟨v, rfl, hO, hB⟩
    obtain ⟨b, c, rfl, _⟩ := hO.ints
    have HB := Lib.hid hB
    clear hO hB PT
    go_wp2_with fail
    go_ret
    exact ⟨rfl, HB.out⟩
  rw [Bool.and_eq_true] at hb
  rw [path_yes hb.1 hb.2] at PT
  rw [delay_yes hb.1 hb.2]
  obtain ⟨k0, rfl, hk0⟩ := inN_yes hb.2
  have hmem := pathTo_mem hb.1 ns.length (k0 : Int) (by omega)
  have hpl := pathTo_len ns ns.length (k0 : Int)
  have hl12 := (vn_is hb.1).2.1
  have hne : 0 < (pathF ns (k0 : Int)).length := by rw [pathTo_step hb.1 hk0, List.length_append]; show 0 < _ + 1; omega
  have hbd : ∀ k, k ≤ (pathF ns (k0 : Int)).length → 0 ≤ dlySum ns ((pathF ns (k0 : Int)).take k) ∧ dlySum ns ((pathF ns (k0 : Int)).take k) ≤ 20 * (k : Int) := fun k hk => by
    have := dlySum_bd hb.1 ((pathF ns (k0 : Int)).take k) (fun z hz => hmem z (List.mem_of_mem_take hz))
    rw [List.length_take, Nat.min_eq_left hk] at this
    exact this
  unfold delayF
  change ∀ z ∈ pathF ns (k0 : Int), _ at hmem
  change (pathF ns (k0 : Int)).length ≤ ns.length at hpl
  have hvb := hb.1
  rcases h with rfl | ⟨g, o, rfl, hc⟩
  · simp at hk0
  generalize pathF ns (k0 : Int) = ps at PT hmem hpl hne hbd
  have HM := Lib.hid hmem
  have HBD := Lib.hid hbd
  have HC := Lib.hid hc
  have HV := Lib.hid hvb
  clear hb hmem hbd hc hvb
  go_enter Try.func54, Try.ntmps54
  go_wp2_with fail
  refine PT.mono ?_
  rintro e w1 ⟨v, rfl, hO, hB⟩
  obtain ⟨b, c, rfl, hI⟩ := hO.ints
  rcases hI with rfl | ⟨gp, op, rfl, hcp⟩
  · simp at hne
  have HCP := Lib.hid hcp
  have z0 : ((ps.length : Int) == 0) = false := beq_eq_false_iff_ne.2 (by omega)
  have z1 : (ps.length == 0) = false := beq_eq_false_iff_ne.2 (by omega)
  have z2 : ¬ (ps.length : Int) = 0 := by omega
  have z3 : ¬ ps.length = 0 := by omega
  have z4 : ¬ ps = [] := fun e => by rw [e] at hne; simp at hne
  have HB := Lib.hid hB
  clear hO hB PT hcp
  go_wp2_with fail
  clear z0 z1 z2 z3 z4
  go_loop [6, 17] (fun s i => ∃ k : Nat, k ≤ ps.length ∧ i = .int .i64 k ∧ s = .int .i64 (dlySum ns (ps.take k))) (fun _ i => ps.length - (intOf i).toNat)
  case atStart => exact ⟨0, Nat.zero_le _, rfl, rfl⟩
  case round =>
    obtain ⟨k, hk, rfl, rfl⟩ := hrel
    obtain ⟨s0, s1⟩ := HBD.out k hk
    by_cases hlt : k < ps.length
    · have hcz := HCP.out k hlt
      have ht : dlySum ns (ps.take (k + 1)) = dlySum ns (ps.take k) + dly ns (ps.getD k 0) := by rw [take_snocD ps hlt 0, dlySum_append]; show _ + (dly ns (ps.getD k 0) + 0) = _; omega
      obtain ⟨m, hm, hml⟩ := HM.out _ (getD_mem hlt)
      rw [hm] at hcz ht
      have hnd := (nd_at HC.out HB.out hml).2.2.2.2
      have hdb := (vn_at HV.out hml).2.2.2
      have hdl : dly ns (m : Int) = (ns.getD m nd0).2.2.2.2 := rfl
      rw [hdl] at ht
      generalize (ns.getD m nd0).2.2.2.2 = d at hnd hdb ht
      generalize dlySum ns (ps.take k) = s at s0 s1 ht
      have HT := Lib.hid ht
      have b0 : (0 : Int) ≤ (m : Int) := by omega
      have b1 : (m : Int) < (ns.length : Int) := by omega
      clear hm ht hdl
      go_wp2_with fail
      go_round
      case rel => exact ⟨k + 1, by omega, by go_num, by rw [HT.out]⟩
      case measure => simp [intOf]; omega
    · go_wp2_with fail
      go_ret
      exact ⟨ret_int (by rw [List.take_of_length_le (by omega)]), HB.out⟩
set_option maxHeartbeats 4000000 in
/-- spec.DelayTo -/
theorem sDelay (a : Option Addr) (cap : Nat) (ns : List Nd) (at_ : Int) (w : World) (h : IsNd w a ns) (hn : ns.length ≤ 1048576) :
    Calls Try.prog 82 #[.slice a ns.length cap, .int .i64 at_] w fun e w' => e = .returned (.int .i64 (delayV ns at_)) ∧ Below w.heap.size w w' := by
  have VN := svn a cap ns _ h hn
  have CI := fun W => sinRange at_ 0 ((ns.length : Int) - 1) W
  rw [inN_range] at CI
  have wn : IntKind.i64.wrap ((ns.length : Int) - 1) = (ns.length : Int) - 1 := by rw [IntKind.wrap_i64]; omega
  cases hv : vnB ns with
  | false =>
    rw [delay_no (.inl hv)]
    rw [hv] at VN
    clear hv h
    go_enter Try.func82, Try.ntmps82
    go_wp2_with fail
    refine VN.mono ?_
    rintro e w1 ⟨rfl, C⟩
    go_wp2_with fail
    go_ret
    exact ⟨rfl, C⟩
  | true =>
  rw [hv] at VN
  cases hi : inN ns.length at_ with
  | false =>
    rw [delay_no (.inr hi)]
    rw [hi] at CI
    clear hv hi h
    go_enter Try.func82, Try.ntmps82
    go_wp2_with fail
    refine VN.mono ?_
    rintro e w1 ⟨rfl, C⟩
    go_wp2_with fail
    refine (CI _).mono ?_
    rintro e w' ⟨rfl, rfl⟩
    go_wp2_with fail
    go_ret
    exact ⟨rfl, C⟩
  | true =>
    rw [hi] at CI
    rw [delay_yes hv hi]
    obtain ⟨k0, rfl, hk0⟩ := inN_yes hi
    obtain ⟨l1, l12, _⟩ := vn_is hv
    have HBD := Lib.hid (delay_bd hv hk0)
    rcases h with rfl | ⟨g, o, rfl, hc⟩
    · simp at l1
    have HC := Lib.hid hc
    have HV := Lib.hid hv
    clear hi hc hv
    go_enter Try.func82, Try.ntmps82
    go_wp2_with fail
    refine VN.mono ?_
    rintro e w1 ⟨rfl, C⟩
    go_wp2_with fail
    refine (CI _).mono ?_
    rintro e w' ⟨rfl, rfl⟩
    clear VN CI
    go_wp2_with fail
    have HCw := Lib.hid C
    clear C
    go_loop [5, 6] (fun s i => ∃ (j r : Int), i = .int .i64 j ∧ -1 ≤ j ∧ j < (ns.length : Int) ∧ s = .int .i64 r ∧ 0 ≤ r ∧ Hid (r + delayF ns j = delayF ns (k0 : Int))) (fun _ i => (intOf i + 1).toNat)
    case atStart => exact ⟨_, 0, rfl, by omega, by omega, rfl, by omega, by show 0 + _ = _; omega⟩
    case round =>
      obtain ⟨j, r, rfl, j0, j1, rfl, r0, HR⟩ := hrel
      by_cases hj : j = -1
      · subst hj
        have HE : Hid (r = delayF ns (k0 : Int)) := by
          have := HR.out
          have e : delayF ns (-1) = 0 := by unfold delayF; rw [pathF_neg ns (by omega)]; rfl
          rw [e] at this; show r = _; omega
        go_wp2_with fail
        go_ret
        exact ⟨ret_int HE.out, HCw.out⟩
      · obtain ⟨m, rfl⟩ : ∃ m : Nat, j = (m : Int) := ⟨j.toNat, by omega⟩
        have hm : m < ns.length := by omega
        obtain ⟨c0, _, _, _, c4⟩ := nd_at HC.out HCw.out hm
        have hpar := vn_parI HV.out hm
        have hdb := (vn_at HV.out hm).2.2.2
        have hst : delayF ns (m : Int) = delayF ns (ns.getD m nd0).1 + (ns.getD m nd0).2.2.2.2 := by
          unfold delayF
          rw [pathTo_step HV.out hm, dlySum_append]
          show _ + (dly ns (m : Int) + 0) = _
          have : dly ns (m : Int) = (ns.getD m nd0).2.2.2.2 := rfl
          rw [this]; omega
        have hrb : 0 ≤ delayF ns (ns.getD m nd0).1 := by
          unfold delayF
          exact (dlySum_bd HV.out _ (pathTo_mem HV.out ns.length _ (by omega))).1
        have hro := HR.out
        obtain ⟨q0, q1⟩ := HBD.out
        rw [hst] at hro
        generalize (ns.getD m nd0).1 = p at c0 hpar hst hrb hro
        generalize (ns.getD m nd0).2.2.2.2 = d at c4 hdb hst hro
        have rb : r + d ≤ 1000 := by omega
        have HRR : Hid (r + d + delayF ns p = delayF ns (k0 : Int)) := by show _ = _; omega
        have b0 : (0 : Int) ≤ (m : Int) := by omega
        have b1 : (m : Int) < (ns.length : Int) := by omega
        have r1 : r ≤ 1000 := by omega
        clear hj hst hro hrb q0 q1 HR
        go_wp2_with fail
        go_round
        case rel => exact ⟨p, r + d, rfl, hpar.1, by omega, by go_num, by omega, HRR.out⟩
        case measure => simp [intOf]; omega
end Go.Proofs.Ytfcgjiciobfncaa
namespace Go.Proofs.Ytfcgjiciobfncaa
open Go.RowKit
set_option linter.unusedSimpArgs false
set_option linter.unusedVariables false
set_option maxHeartbeats 2000000 in
/-- spec.validFlows -/
theorem svflows (a : Option Addr) (cap : Nat) (zs : List Int) (w : World) (h : IsInts w a zs) (hn : zs.length ≤ 1048576) :
    Calls Try.prog 77 #[.slice a zs.length cap] w fun e w' => e = .returned (.bool (decide (zs.length ≤ 200) && allB zs 500)) ∧ w = w' := by
  rcases h with rfl | ⟨g, o, rfl, hc⟩
  · rw [show (decide (([] : List Int).length ≤ 200) && allB [] 500) = true from rfl]
    go_enter Try.func77, Try.ntmps77
    go_wp2_with fail
    refine wp_loop_rounds 1 ?_
    rw [rounds_succ]
    go_wp2_with fail
    go_ret
    exact ⟨rfl, rfl⟩
  · have HC := Lib.hid hc
    obtain ⟨R, hR⟩ : ∃ R, (decide (zs.length ≤ 200) && allB zs 500) = R := ⟨_, rfl⟩
    rw [hR]
    have HR := Lib.hid hR
    clear hc hR
    go_enter Try.func77, Try.ntmps77
    go_wp2_with fail
    go_loop [3] (fun i => ∃ k : Nat, k ≤ zs.length ∧ i = .int .i64 k ∧ Hid (∀ j, j < k → 0 ≤ zs.getD j 0 ∧ zs.getD j 0 ≤ 500)) (fun i => zs.length - (intOf i).toNat)
    case atStart => exact ⟨0, Nat.zero_le _, rfl, fun j hj => by omega⟩
    case round =>
      obtain ⟨k, hk, rfl, HA⟩ := hrel
      by_cases hlt : k < zs.length
      · have hc := HC.out k hlt
        have hno := allB_no (most := 500) hlt
        have hyes : 0 ≤ zs.getD k 0 → zs.getD k 0 ≤ 500 → ∀ j, j < k + 1 → 0 ≤ zs.getD j 0 ∧ zs.getD j 0 ≤ 500 := fun h0 h1 j hj => by
          by_cases hjk : j = k
          · subst hjk; exact ⟨h0, h1⟩
          · exact HA.out j (by omega)
        generalize zs.getD k 0 = z at hc hno hyes
        have HN := Lib.hid hno
        have HY := Lib.hid hyes
        clear hno hyes
        by_cases zb : z < 0 ∨ 500 < z
        · have HNN : Hid (R = false) := by show R = false; rw [← HR.out, HN.out zb]; simp
          go_wp2_with fail
          refine (inRange_no z 0 500 _ zb).mono ?_
          rintro e w' ⟨rfl, rfl⟩
          go_wp2_with fail
          go_ret
          exact ⟨ret_bool HNN.out.symm, rfl⟩
        · go_wp2_with fail
          refine (inRange_yes z 0 500 _ (by omega) (by omega)).mono ?_
          rintro e w' ⟨rfl, rfl⟩
          go_wp2_with fail
          go_round
          case rel => exact ⟨k + 1, by omega, by go_num, HY.out (by omega) (by omega)⟩
          case measure => simp [intOf]; omega
      · have hall := allB_yes (zs := zs) (most := 500) (fun j hj => HA.out j (by omega))
        have HS : Hid (R = decide (zs.length ≤ 200)) := by show R = _; rw [← HR.out, hall, Bool.and_true]
        clear hall
        by_cases h2 : zs.length ≤ 200
        · have HT : Hid (R = true) := by show R = true; rw [HS.out]; exact decide_eq_true h2
          have e1 : decide ((zs.length : Int) ≤ 200) = true := decide_eq_true (by omega)
          go_wp2_with fail
          go_ret
          exact ⟨ret_bool HT.out.symm, rfl⟩
        · have e1 : decide ((zs.length : Int) ≤ 200) = false := decide_eq_false (by omega)
          have HT : Hid (R = false) := by show R = false; rw [HS.out]; exact decide_eq_false h2
          have e2 : decide (zs.length ≤ 200) = false := decide_eq_false h2
          go_wp2_with fail
          go_ret
          exact ⟨ret_bool HT.out.symm, rfl⟩
/-- impl.areHours -/
theorem iHours (a : Option Addr) (cap : Nat) (zs : List Int) (w : World) (h : IsInts w a zs) (hn : zs.length ≤ 1048576) :
    Calls Try.prog 75 #[.slice a zs.length cap] w fun e w' => e = .returned (.bool (decide (zs.length ≤ 200) && allB zs 500)) ∧ w = w' := by
  have CA := iall a cap zs 500 w h hn
  by_cases h2 : zs.length ≤ 200
  · rw [decide_eq_true h2]
    have e1 : decide ((zs.length : Int) ≤ 200) = true := decide_eq_true (by omega)
    clear h2 h
    go_enter Try.func75, Try.ntmps75
    go_wp2_with fail
    refine CA.mono ?_
    rintro e w' ⟨rfl, rfl⟩
    go_wp2_with fail
    go_ret
    exact ⟨rfl, rfl⟩
  · rw [decide_eq_false h2]
    have e1 : decide ((zs.length : Int) ≤ 200) = false := decide_eq_false (by omega)
    clear h2 h CA
    go_enter Try.func75, Try.ntmps75
    go_wp2_with fail
    go_ret
    exact ⟨rfl, rfl⟩
end Go.Proofs.Ytfcgjiciobfncaa
namespace Go.Proofs.Ytfcgjiciobfncaa
open Go.RowKit
set_option linter.unusedSimpArgs false
set_option linter.unusedVariables false
theorem av_no {ns : List Nd} {at_ : Int} {fs : List Int} (h : (vnB ns && inN ns.length at_) = false ∨ 200 < fs.length ∨ allB fs 500 = false) : avB ns at_ fs = false := by
  unfold avB
  rcases h with h | h | h
  · rw [h]; rfl
  · rw [decide_eq_false (by omega : ¬ fs.length ≤ 200)]; simp
  · rw [h]; simp
theorem delay_neg {ns : List Nd} {at_ : Int} : ((vnB ns && inN ns.length at_) = false ∧ delayV ns at_ = -1) ∨ ((vnB ns && inN ns.length at_) = true ∧ delayV ns at_ = delayF ns at_ ∧ 0 ≤ delayF ns at_ ∧ delayF ns at_ ≤ 240) := by
  cases hb : (vnB ns && inN ns.length at_) with
  | false => exact .inl ⟨rfl, by unfold delayV; rw [hb]; rfl⟩
  | true =>
    rw [Bool.and_eq_true] at hb
    obtain ⟨k, rfl, hk⟩ := inN_yes hb.2
    exact .inr ⟨rfl, delay_yes hb.1 hb.2, delay_bd hb.1 hk⟩
set_option maxHeartbeats 8000000 in
/-- impl.ArriveAt -/
theorem iArrive (a b : Option Addr) (cap cb : Nat) (ns : List Nd) (at_ : Int) (fs : List Int) (w : World) (h : IsNd w a ns) (hn : ns.length ≤ 1048576) (hcap : ns.length ≤ cap) (hb : IsInts w b fs) (hf : fs.length ≤ 1048576) :
    Calls Try.prog 52 #[.slice a ns.length cap, .int .i64 at_, .slice b fs.length cb] w (OutI w (arriveV ns at_ fs)) := by
  have CD := iDelay a cap ns at_ w h hn hcap
  have CA := fun (W : World) (hW : Below w.heap.size w W) => iHours b cb fs W (ints_below hb hW) hf
  rcases delay_neg (ns := ns) (at_ := at_) with ⟨hv, hd⟩ | ⟨hv, hd, d0, d1⟩
  · rw [arrive_no (av_no (.inl hv))]
    rw [hd] at CD
    clear CA hd hv h hb
    go_enter Try.func52, Try.ntmps52
    go_wp2_with fail
    refine CD.mono ?_
    rintro e w1 ⟨rfl, C⟩
    go_wp2_with fail
    go_ret
    exact outI_nil C
  rw [hd] at CD
  obtain ⟨d, hdd⟩ : ∃ d : Nat, delayF ns at_ = (d : Int) := ⟨(delayF ns at_).toNat, by omega⟩
  rw [hdd] at CD
  have d240 : d ≤ 240 := by omega
  have d2 : decide ((d : Int) < 0) = false := decide_eq_false (by omega)
  cases hal : (decide (fs.length ≤ 200) && allB fs 500) with
  | false =>
    rw [arrive_no (av_no (by
      by_cases h2 : fs.length ≤ 200
      · rw [decide_eq_true h2, Bool.true_and] at hal; exact .inr (.inr hal)
      · exact .inr (.inl (by omega))))]
    rw [hal] at CA
    have HCA := Lib.hid CA
    clear CA hd hv h hb hal
    go_enter Try.func52, Try.ntmps52
    go_wp2_with fail
    refine CD.mono ?_
    rintro e w1 ⟨rfl, C⟩
    have CA := HCA.out w1 C
    go_wp2_with fail
    refine CA.mono ?_
    rintro e w' ⟨rfl, rfl⟩
    go_wp2_with fail
    go_ret
    exact outI_nil C
  | true =>
  rw [hal] at CA
  rw [Bool.and_eq_true, decide_eq_true_eq] at hal
  obtain ⟨l200, hal⟩ := hal
  rw [Bool.and_eq_true] at hv
  obtain ⟨k, rfl, hk⟩ := inN_yes hv.2
  rw [arrive_yes (by unfold avB; rw [hv.1, hv.2, hal, decide_eq_true l200]; rfl)]
  have CP := fun (W : World) (hW : Below w.heap.size w W) (x : Int) (h0 : 0 ≤ x ∧ x ≤ 500) => (by have := iPassed a cap ns x W (nd_below h hW) hn hcap; rw [passed_yes (by unfold flB; rw [hv.1, decide_eq_true h0.1, decide_eq_true h0.2]; rfl)] at this; exact this : Calls Try.prog 55 #[.slice a ns.length cap, .int .i64 x] W (OutI W (passF ns x)))
  have hmk := run_make_row' (P := Try.prog) 31 3 (.int .i64 0) 8 Try.underlying31 infoInt rfl .i64 .i64 fs.length (by omega) (by omega)
  have HFB := Lib.hid (fun i (hi : i < fs.length) => (allB_iff fs 500).1 hal _ (getD_mem hi))
  have HCA := Lib.hid CA
  have HCP := Lib.hid CP
  have HI := Lib.hid hb
  have HD := Lib.hid hdd
  have k0 : (0 : Int) ≤ (k : Int) := by omega
  have k1 : (k : Int) < (ns.length : Int) := by omega
  have l12 := (vn_is hv.1).2.1
  clear CA hd hv h hb hal CP hdd
  go_enter Try.func52, Try.ntmps52
  go_wp2_with fail
  refine CD.mono ?_
  rintro e w1 ⟨rfl, C⟩
  have CA := HCA.out w1 C
  go_wp2_with fail
  refine CA.mono ?_
  rintro e w' ⟨rfl, rfl⟩
  clear CA CD
  have hM := OwnI.made C fs.length hf
  have hB2 := C.alloc C.size (.cells (madeCells #[.int .i64 0] fs.length) 3)
  obtain ⟨g, hg⟩ : ∃ g, w1.heap.size = g := ⟨_, rfl⟩
  rw [hg] at hM
  have hgw : w.heap.size ≤ g := by rw [← hg]; exact C.size
  rw [show List.replicate fs.length (0 : Int) = mixZ (arrF ns k fs) d from by
    rw [mix_none (fun i hi hl => ?_), arrF_len]
    rw [arrF_len] at hl
    rw [arrF_get ns k fs hl]
    unfold arrAt
    rw [HD.out, if_pos (by omega)]] at hM
  have HM := Lib.hid hM
  have HB2 := Lib.hid hB2
  clear hM hB2 C
  go_wp2_with fail
  clear hmk
  go_loopw [9] (fun i wr => ∃ q : Nat, d ≤ q ∧ i = .int .i64 q ∧ q ≤ fs.length + 240 ∧ Hid (OwnI wr w.heap.size (.slice (some ⟨g, 0, none⟩) fs.length fs.length) (mixZ (arrF ns k fs) q) ∧ Below w.heap.size w wr)) (fun i _ => fs.length - (intOf i).toNat)
  case atStart => exact ⟨d, Nat.le_refl _, rfl, by omega, HM.out, HB2.out⟩
  case round =>
    clear HM HB2 hg
    obtain ⟨q, hq, rfl, hq2, HR⟩ := hrel
    by_cases hlt : q < fs.length
    · obtain ⟨m, hm⟩ : ∃ m : Nat, q - d = m := ⟨_, rfl⟩
      have hml : m < fs.length := by omega
      have wm : IntKind.i64.wrap ((q : Int) - (d : Int)) = (m : Int) := by rw [IntKind.wrap_i64]; omega
      have hx := HFB.out m hml
      have hi : IsInts w b fs := HI.out
      rcases hi with rfl | ⟨gf, of_, rfl, hcf⟩
      · simp at hlt
      have c0' := hcf m hml
      have c0 := (HR.out.2.cell (World.block_lt_of_cell? w _ c0')).trans c0'
      have hag : (arrF ns k fs).getD q 0 = (passF ns (fs.getD m 0)).getD k 0 := by
        rw [arrF_get ns k fs hlt]; unfold arrAt; rw [HD.out, if_neg (by omega), show q - ((d : Int)).toNat = m from by omega]
      have CP := HCP.out wr HR.out.2 (fs.getD m 0) hx
      have hpl := passF_len ns (fs.getD m 0)
      have hms := mix_set (zs := arrF ns k fs) (k := q) (by rw [arrF_len]; exact hlt)
      rw [hag] at hms
      generalize fs.getD m 0 = x at c0 CP hpl hms hx
      have m0 : (0 : Int) ≤ (m : Int) := by omega
      have m1 : (m : Int) < (fs.length : Int) := by omega
      have q0 : (0 : Int) ≤ (q : Int) := by omega
      have q1 : (q : Int) < (fs.length : Int) := by omega
      have HMS := Lib.hid hms
      have HMM := Lib.hid hm
      clear hcf c0' hag hms hm
      go_wp2_with fail
      refine CP.mono ?_
      rintro e wq ⟨v, rfl, hP, hb⟩
      obtain ⟨pb, pc, rfl, _⟩ := hP.ints
      rcases hP.at_ with e | ⟨gp, op, rfl, hpp⟩
      · rw [e] at hpl; simp at hpl; omega
      have c1 := hpp k (by omega)
      rw [hpl]
      have hR2 := HR.out.1.of_block hb
      have hB2 := bel_tr HR.out.2 hb
      have hd := hR2.cell (j := q) (by rw [mix_len, arrF_len]; exact hlt)
      have hf2 := hR2.frozen q
      have hst := hR2.set_ q ((passF ns x).getD k 0)
      rw [HMS.out] at hst
      have HS : Hid (OwnI (wq.setCell ⟨g, q, none⟩ (.int .i64 ((passF ns x).getD k 0))) w.heap.size (.slice (some ⟨g, 0, none⟩) fs.length fs.length) (mixZ (arrF ns k fs) (q + 1)) ∧ Below w.heap.size w (wq.setCell ⟨g, q, none⟩ (.int .i64 ((passF ns x).getD k 0)))) := ⟨hst, hB2.setCell (p := ⟨g, q, none⟩) hgw _⟩
      generalize (mixZ (arrF ns k fs) q).getD q 0 = y at hd
      generalize (passF ns x).getD k 0 = p at c1 HS
      clear hR2 hB2 hst hb CP c0 hP hpp HMS HR hpl
      go_wp2_with fail
      go_roundw
      case rel => exact ⟨q + 1, by omega, by go_num, by omega, HS.out⟩
      case measure => simp [intOf]; omega
    · have HE : Hid (OwnI wr w.heap.size (.slice (some ⟨g, 0, none⟩) fs.length fs.length) (arrF ns k fs) ∧ Below w.heap.size w wr) := by
        refine ⟨?_, HR.out.2⟩
        have := HR.out.1
        rw [mix_all (by rw [arrF_len]; omega)] at this
        exact this
      clear HR
      go_wp2_with fail
      go_ret
      exact ⟨_, rfl, HE.out⟩
end Go.Proofs.Ytfcgjiciobfncaa
namespace Go.Proofs.Ytfcgjiciobfncaa
open Go.RowKit
set_option linter.unusedSimpArgs false
set_option linter.unusedVariables false
set_option maxRecDepth 100000 in
set_option maxHeartbeats 8000000 in
/-- spec.flows -/
theorem sflows (a : Option Addr) (cap : Nat) (ns : List Nd) (fl : Int) (w : World) (h : IsNd w a ns) (hv : vnB ns = true) (hf : 0 ≤ fl ∧ fl ≤ 500) :
    Calls Try.prog 95 #[.slice a ns.length cap, .int .i64 fl] w (OutI w (comeF ns fl)) := by
  obtain ⟨l1, l12, _⟩ := vn_is hv
  have hmk := run_make_row' (P := Try.prog) 31 3 (.int .i64 0) 8 Try.underlying31 infoInt rfl .i64 .i64 ns.length (by omega) (by omega)
  have HKID := Lib.hid (fun (W : World) (hW : Below w.heap.size w W) (k : Nat) => skids a cap ns (k : Int) W (nd_below h hW) hv)
  have HSHR := Lib.hid (fun (W : World) (hW : Below w.heap.size w W) (k : Nat) (p : Int) (hp : 0 ≤ p ∧ p ≤ 500) => sshare a cap ns k p W (nd_below h hW) hv hp)
  have HV := Lib.hid hv
  rcases h with rfl | ⟨g0, o, rfl, hc⟩
  · simp at l1
  have HC := Lib.hid hc
  have i0 : (0 : Int) < (ns.length : Int) := by omega
  have hM := OwnI.made (Below.refl _ w) ns.length (by omega)
  have hz := hM.cell (j := 0) (by rw [List.length_replicate]; omega)
  have hzf := hM.frozen 0
  have hO0 := hM.set_ 0 fl
  obtain ⟨g, hg⟩ : ∃ g, w.heap.size = g := ⟨_, rfl⟩
  have hgw : w.heap.size ≤ g := by omega
  rw [hg] at hz hzf
  rw [List.getD_eq_getElem?_getD, List.getElem?_replicate, if_pos (by omega)] at hz
  dsimp only [Option.getD_some] at hz
  have hB0 : Below w.heap.size w ((w.alloc (.cells (madeCells #[.int .i64 0] ns.length) 3)).setCell ⟨w.heap.size, 0, none⟩ (.int .i64 fl)) := ((Below.refl _ w).alloc (Nat.le_refl _) _).setCell (p := ⟨w.heap.size, 0, none⟩) (Nat.le_refl _) _
  rw [World.setCell_alloc_at _ _ _ _ _ rfl] at hO0 hB0
  have HO0 := Lib.hid hO0
  have HB0 := Lib.hid hB0
  clear hM hO0 hB0 hc hv
  go_enter Try.func95, Try.ntmps95
  go_wp2_with fail
  clear hmk hz hzf
  go_loopw [6] (fun i wr => ∃ k : Nat, k ≤ ns.length ∧ i = .int .i64 k ∧ OwnI wr w.heap.size (.slice (some ⟨g, 0, none⟩) ns.length ns.length) (comeTo ns fl k) ∧ Below w.heap.size w wr) (fun i _ => ns.length - (intOf i).toNat)
  case atStart => exact ⟨0, Nat.zero_le _, rfl, by subst hg; exact HO0.out, HB0.out⟩
  case round =>
    clear HO0 HB0 hg
    obtain ⟨k, hk, rfl, hO, hB⟩ := hrel
    by_cases hlt : k < ns.length
    · have CK := HKID.out wr hB k
      obtain ⟨q1, q2, q3, q4⟩ := vn_at HV.out hlt
      have hcb := comeTo_bd HV.out hf k hk k
      have hkl := kids_len ns (k : Int)
      have HKM : Hid (∀ z ∈ kidsF ns (k : Int), ∃ j : Nat, z = (j : Int) ∧ j < ns.length) := fun z hz => by obtain ⟨j, a, b, _⟩ := kids_bd hz; exact ⟨j, a, b⟩
      have HO := Lib.hid hO
      have HB := Lib.hid hB
      have hgb := hO.blk
      have k0 : (0 : Int) ≤ (k : Int) := by omega
      have k1 : (k : Int) < (ns.length : Int) := by omega
      clear hO hB
      go_wp2_with fail
      refine CK.mono ?_
      rintro e w3 ⟨v7, rfl, hK, hB3⟩
      obtain ⟨kb, kcp, rfl, _⟩ := hK.ints
      have B3 := Lib.hid (bel_tr HB.out hB3)
      have O3 := Lib.hid (HO.out.of_block hB3)
      have s3 := hB3.size
      have kc := O3.out.cell (j := k) (by rw [comeTo_len]; exact hlt)
      obtain ⟨c0, c1, c2, c3, c4⟩ := nd_at HC.out B3.out hlt
      have HK := Lib.hid hK
      have HST := Lib.hid (giveS_put HV.out (fl := fl) hlt)
      have hgl := giveS_len ns (k : Int) (passV (ns.getD k nd0) ((comeTo ns fl k).getD k 0))
      have hpb := pass_bd (x := ns.getD k nd0) q3.1 hcb.1 q2.1
      have HSH := Lib.hid (fun (W : World) (hW : Below w.heap.size w W) => HSHR.out W hW k (passV (ns.getD k nd0) ((comeTo ns fl k).getD k 0)) (by omega))
      generalize (comeTo ns fl k).getD k 0 = c at hcb kc HST hgl HSH hpb
      have CP := fun W => spassing (ns.getD k nd0).1 (ns.getD k nd0).2.1 (ns.getD k nd0).2.2.1 (ns.getD k nd0).2.2.2.1 (ns.getD k nd0).2.2.2.2 c W hcb q2 q3
      change ∀ W, Calls _ _ _ W (fun e w' => e = .returned (.int .i64 (passV (ns.getD k nd0) c)) ∧ Below W.heap.size W w') at CP
      generalize ns.getD k nd0 = nd at c0 c1 c2 c3 c4 CP HST hgl q2 q3 HSH hpb
      obtain ⟨x0, x1, x2, x3, x4⟩ := nd
      dsimp only at c0 c1 c2 c3 c4 CP
      generalize passV (x0, x1, x2, x3, x4) c = p at CP HST hgl HSH hpb
      clear CK hK hB3 HO HB q1 q2 q3 q4 hcb hpb
      go_wp2_with fail
      refine wp_region_held_drew (S := (fun W' => (W'.cell? ⟨g0, o + k * 5, none⟩ = some (.int .i64 x0) ∧ W'.cell? ⟨g0, o + k * 5 + 1, none⟩ = some (.int .i64 x1) ∧ W'.cell? ⟨g0, o + k * 5 + 2, none⟩ = some (.int .i64 x2) ∧ W'.cell? ⟨g0, o + k * 5 + 3, none⟩ = some (.int .i64 x3) ∧ W'.cell? ⟨g0, o + k * 5 + 4, none⟩ = some (.int .i64 x4) ∧ W'.cell? ⟨g, k, none⟩ = some (.int .i64 c)) ∧ Below w3.heap.size w3 W')) (by kernel_rfl) ?_ (fun hHeld => ?_)
      · exact ⟨⟨c0, c1, c2, c3, c4, kc⟩, (Below.refl _ _).drew⟩
      refine wpAnyH_take (i := 0) (oi := ?ooa0) (v := ?vva0) ?hia0 (by kernel_rfl) ?h3a0 ?h4a0 ?h5a0 ?h6a0 (by assumption) ?h8a0
      case hia0 => (simp only [List.getElem?_toArray, List.getElem?_cons_succ, List.getElem?_cons_zero]; rfl)
      case h3a0 => kernel_rfl
      case h4a0 => kernel_rfl
      case h6a0 => (refine Or.inl ⟨by rfl, ?_⟩; intro w hSw; (try dsimp only at hSw); (go_simp <;> with_reducible rfl))
      case h5a0 => exact fun _ _ _ h => h
      try simp only [Act.put, List.setIfInBounds_toArray, List.set_cons_zero, List.set_cons_succ]
      refine wpAnyH_take (i := 1) (oi := ?ooa1) (v := ?vva1) ?hia1 (by kernel_rfl) ?h3a1 ?h4a1 ?h5a1 ?h6a1 (by assumption) ?h8a1
      case hia1 => (simp only [List.getElem?_toArray, List.getElem?_cons_succ, List.getElem?_cons_zero]; rfl)
      case h3a1 => kernel_rfl
      case h4a1 => kernel_rfl
      case h6a1 => (refine Or.inl ⟨by rfl, ?_⟩; intro w hSw; (try dsimp only at hSw); (go_simp <;> with_reducible rfl))
      case h5a1 => exact fun _ _ _ h => h
      try simp only [Act.put, List.setIfInBounds_toArray, List.set_cons_zero, List.set_cons_succ]
      refine wpAnyH_take (i := 2) (oi := ?ooa2) (v := ?vva2) ?hia2 (by kernel_rfl) ?h3a2 ?h4a2 ?h5a2 ?h6a2 (by assumption) ?h8a2
      case hia2 => (simp only [List.getElem?_toArray, List.getElem?_cons_succ, List.getElem?_cons_zero]; rfl)
      case h3a2 => kernel_rfl
      case h4a2 => kernel_rfl
      case h6a2 => (refine Or.inl ⟨by rfl, ?_⟩; intro w hSw; (try dsimp only at hSw); (go_simp <;> with_reducible rfl))
      case h5a2 => exact fun _ _ _ h => h
      try simp only [Act.put, List.setIfInBounds_toArray, List.set_cons_zero, List.set_cons_succ]
      refine wpAnyH_take (i := 3) (oi := ?ooa3) (v := ?vva3) ?hia3 (by kernel_rfl) ?h3a3 ?h4a3 ?h5a3 ?h6a3 (by assumption) ?h8a3
      case hia3 => (simp only [List.getElem?_toArray, List.getElem?_cons_succ, List.getElem?_cons_zero]; rfl)
      case h3a3 => kernel_rfl
      case h4a3 => kernel_rfl
      case h6a3 => (refine Or.inl ⟨by rfl, ?_⟩; intro w hSw; (try dsimp only at hSw); (go_simp <;> with_reducible rfl))
      case h5a3 => exact fun _ _ _ h => h
      try simp only [Act.put, List.setIfInBounds_toArray, List.set_cons_zero, List.set_cons_succ]
      refine wpAnyH_take (i := 4) (oi := ?ooa4) (v := ?vva4) ?hia4 (by kernel_rfl) ?h3a4 ?h4a4 ?h5a4 ?h6a4 (by assumption) ?h8a4
      case hia4 => (simp only [List.getElem?_toArray, List.getElem?_cons_succ, List.getElem?_cons_zero]; rfl)
      case h3a4 => kernel_rfl
      case h4a4 => kernel_rfl
      case h6a4 => (refine Or.inl ⟨by rfl, ?_⟩; intro w hSw; (try dsimp only at hSw); (go_simp <;> with_reducible rfl))
      case h5a4 => exact fun _ _ _ h => h
      try simp only [Act.put, List.setIfInBounds_toArray, List.set_cons_zero, List.set_cons_succ]
      refine wpAnyH_take (i := 5) (oi := ?ooa5) (v := ?vva5) ?hia5 (by kernel_rfl) ?h3a5 ?h4a5 ?h5a5 ?h6a5 (by assumption) ?h8a5
      case hia5 => (simp only [List.getElem?_toArray, List.getElem?_cons_succ, List.getElem?_cons_zero]; rfl)
      case h3a5 => kernel_rfl
      case h4a5 => kernel_rfl
      case h6a5 => (refine Or.inl ⟨by rfl, ?_⟩; intro w hSw; (try dsimp only at hSw); (go_simp <;> with_reducible rfl))
      case h5a5 => exact fun _ _ _ h => h
      try simp only [Act.put, List.setIfInBounds_toArray, List.set_cons_zero, List.set_cons_succ]
      refine wpAnyH_take (i := 6) (oi := ?ooa6) (v := ?vva6) ?hia6 (by kernel_rfl) ?h3a6 ?h4a6 ?h5a6 ?h6a6 (by assumption) ?h8a6
      case hia6 => (simp only [List.getElem?_toArray, List.getElem?_cons_succ, List.getElem?_cons_zero]; rfl)
      case h3a6 => kernel_rfl
      case h4a6 => kernel_rfl
      case h6a6 => (refine Or.inl ⟨by rfl, ?_⟩; intro w hSw; (try dsimp only at hSw); (go_simp <;> with_reducible rfl))
      case h5a6 => exact fun _ _ _ h => h
      try simp only [Act.put, List.setIfInBounds_toArray, List.set_cons_zero, List.set_cons_succ]
      refine wpAnyH_take (i := 7) (oi := ?ooa7) (v := ?vva7) ?hia7 (by kernel_rfl) ?h3a7 ?h4a7 ?h5a7 ?h6a7 (by assumption) ?h8a7
      case hia7 => (simp only [List.getElem?_toArray, List.getElem?_cons_succ, List.getElem?_cons_zero]; rfl)
      case h3a7 => kernel_rfl
      case h4a7 => kernel_rfl
      case h6a7 => (refine Or.inl ⟨by rfl, ?_⟩; intro w hSw; (try dsimp only at hSw); (go_simp <;> with_reducible rfl))
      case h5a7 => exact fun _ _ _ h => h
      try simp only [Act.put, List.setIfInBounds_toArray, List.set_cons_zero, List.set_cons_succ]
      refine wpAnyH_take (i := 8) (oi := ?ooa8) (v := ?vva8) ?hia8 (by kernel_rfl) ?h3a8 ?h4a8 ?h5a8 ?h6a8 (by assumption) ?h8a8
      case hia8 => (simp only [List.getElem?_toArray, List.getElem?_cons_succ, List.getElem?_cons_zero]; rfl)
      case h3a8 => kernel_rfl
      case h4a8 => kernel_rfl
      case h6a8 => (refine Or.inl ⟨by rfl, ?_⟩; intro w hSw; (try dsimp only at hSw); (go_simp <;> with_reducible rfl))
      case h5a8 => exact fun _ _ _ h => h
      try simp only [Act.put, List.setIfInBounds_toArray, List.set_cons_zero, List.set_cons_succ]
      refine wpAnyH_take (i := 9) (oi := ?ooa9) (v := ?vva9) ?hia9 (by kernel_rfl) ?h3a9 ?h4a9 ?h5a9 ?h6a9 (by assumption) ?h8a9
      case hia9 => (simp only [List.getElem?_toArray, List.getElem?_cons_succ, List.getElem?_cons_zero]; rfl)
      case h3a9 => kernel_rfl
      case h4a9 => kernel_rfl
      case h6a9 => (refine Or.inl ⟨by rfl, ?_⟩; intro w hSw; (try dsimp only at hSw); (go_simp <;> with_reducible rfl))
      case h5a9 => exact fun _ _ _ h => h
      try simp only [Act.put, List.setIfInBounds_toArray, List.set_cons_zero, List.set_cons_succ]
      refine wpAnyH_ready (rs := [10]) (by kernel_rfl) (by simp) (AllReadyH.cons (o := ?ooa10) ?hia10 (fun K hK => ?hka10) AllReadyH.nil)
      rotate_left
      case hia10 => (simp only [List.getElem?_toArray, List.getElem?_cons_succ, List.getElem?_cons_zero]; rfl)
      (rw [if_pos (by rfl)]; go_simp; refine (CP _).mono ?_; rintro e wq ⟨rfl, hb⟩; go_wp2_with fail; refine hK.out _ _ (kp6 hb hHeld) (fun hHeld => ?_); clear hK K)
      try simp only [Act.put, List.setIfInBounds_toArray, List.set_cons_zero, List.set_cons_succ]
      refine wpAnyH_ready (rs := [11]) (by kernel_rfl) (by simp) (AllReadyH.cons (o := ?ooa11) ?hia11 (fun K hK => ?hka11) AllReadyH.nil)
      rotate_left
      case hia11 => (simp only [List.getElem?_toArray, List.getElem?_cons_succ, List.getElem?_cons_zero]; rfl)
      (rw [if_pos (by rfl)]; go_simp; refine (HSH.out _ (bel_tr B3.out hHeld.2)).mono ?_; rintro e wp ⟨v8, rfl, hG, hb2⟩; obtain ⟨gb, gcp, rfl, _⟩ := hG.ints; go_wp2_with fail; refine hK.out _ _ (kp6 hb2 hHeld) (fun hHeld => ?_); clear hK K)
      try simp only [Act.put, List.setIfInBounds_toArray, List.set_cons_zero, List.set_cons_succ]
      refine wpAnyH_take (i := 12) (oi := ?ooa12) (v := ?vva12) ?hia12 (by kernel_rfl) ?h3a12 ?h4a12 ?h5a12 ?h6a12 (by assumption) ?h8a12
      case hia12 => (simp only [List.getElem?_toArray, List.getElem?_cons_succ, List.getElem?_cons_zero]; rfl)
      case h3a12 => kernel_rfl
      case h4a12 => kernel_rfl
      case h6a12 => (refine Or.inl ⟨by rfl, ?_⟩; intro w hSw; (try dsimp only at hSw); (go_simp <;> with_reducible rfl))
      case h5a12 => exact fun _ _ _ h => h
      try simp only [Act.put, List.setIfInBounds_toArray, List.set_cons_zero, List.set_cons_succ]
      refine wpAnyH_done (by kernel_rfl) ?_ _
      have hW2 : Below w3.heap.size w3 wp := hHeld.2
      have B5 := bel_tr B3.out hW2
      have O5 := O3.out.of_block hW2
      have K5 := HK.out.of_block hW2
      have hcl := comeTo_len ns fl k
      have s5 : w3.heap.size ≤ wq.heap.size := hb.size
      have s6 := hb2.size
      have s7 := hHeld.2.size
      clear hHeld hb hb2 hW2 CP HSH c0 c1 c2 c3 c4 kc B3 O3 HK
      generalize kidsF ns (k : Int) = ks at K5 HKM hkl hgl HST
      generalize giveS ns (k : Int) p = gv at hG hgl HST
      generalize comeTo ns fl k = cs at O5 hcl HST
      have HO5 := Lib.hid O5
      have HK5 := Lib.hid K5
      have HG5 := Lib.hid hG
      have HB5 := Lib.hid B5
      clear O5 K5 hG B5
      go_wp2_with fail
      go_loopw [9] (fun i wr => ∃ m : Nat, m ≤ gv.length ∧ i = .int .i64 m ∧ Hid (OwnI wr w.heap.size (.slice (some ⟨g, 0, none⟩) ns.length ns.length) (putTo cs ks gv m) ∧ wp.grownBy wr (some g))) (fun i _ => gv.length - (intOf i).toNat)
      case atStart => exact ⟨0, Nat.zero_le _, rfl, HO5.out, g_of (Below.refl _ _) _⟩
      case round =>
        obtain ⟨m, hm, rfl, HM⟩ := hrel
        by_cases hlm : m < gv.length
        · have hka := HK5.out.apart HM.out.2 (fun q hq => by have e := Option.some.inj hq; omega)
          have hga2 := HG5.out.apart HM.out.2 (fun q hq => by have e := Option.some.inj hq; omega)
          obtain ⟨gk, rfl, nk'⟩ := hka.form_ (by omega)
          obtain ⟨gg, rfl, ng'⟩ := hga2.form_ (by omega)
          have nk : g ≠ gk := by omega
          have ng : g ≠ gg := by omega
          have c1 := hka.cell (j := m) (by omega)
          have c2 := hga2.cell hlm
          obtain ⟨j, hj, hjl⟩ := HKM.out _ (getD_mem (zs := ks) (k := m) (by omega))
          have hpl := putTo_len cs ks gv m
          have c3 := HM.out.1.cell (j := j) (by omega)
          have c4 := HM.out.1.frozen j
          have hst := HM.out.1.set_ j (gv.getD m 0)
          have hps := putTo_succ cs ks gv m
          rw [hj, show ((j : Int)).toNat = j from by omega] at hps
          rw [← hps] at hst
          rw [hj] at c1
          have HS : Hid (∀ n : Nat, OwnI ((wr.drewN n).setCell ⟨g, j, none⟩ (.int .i64 (gv.getD m 0))) w.heap.size (.slice (some ⟨g, 0, none⟩) ns.length ns.length) (putTo cs ks gv (m + 1)) ∧ wp.grownBy ((wr.drewN n).setCell ⟨g, j, none⟩ (.int .i64 (gv.getD m 0))) (some g)) := fun n => ⟨hst, g_set2 (g_drewN HM.out.2 n)⟩
          have b0 : (0 : Int) ≤ (j : Int) := by omega
          have b1 : (j : Int) < (ns.length : Int) := by omega
          have b2 : (m : Int) < (gv.length : Int) := by omega
          have b3 : (m : Int) < (ks.length : Int) := by omega
          have b4 : (0 : Int) ≤ (m : Int) := by omega
          generalize gv.getD m 0 = y at c2 HS
          generalize (putTo cs ks gv m).getD j 0 = y3 at c3
          clear hst hps hj hpl HM hka hga2
          go_wp2_with fail
          refine wp_region_held_drew (S := (fun W' => W'.cell? ⟨gk, m, none⟩ = some (.int .i64 (j : Int)) ∧ W'.cell? ⟨gg, m, none⟩ = some (.int .i64 y))) (by kernel_rfl) ?_ (fun hHeld => ?_)
          · exact ⟨c1, c2⟩
          refine wpAnyH_take (i := 0) (oi := ?oob0) (v := ?vvb0) ?hib0 (by kernel_rfl) ?h3b0 ?h4b0 ?h5b0 ?h6b0 (by assumption) ?h8b0
          case hib0 => (simp only [List.getElem?_toArray, List.getElem?_cons_succ, List.getElem?_cons_zero]; rfl)
          case h3b0 => kernel_rfl
          case h4b0 => kernel_rfl
          case h6b0 => (refine Or.inl ⟨by rfl, ?_⟩; intro w hSw; (try dsimp only at hSw); (go_simp <;> with_reducible rfl))
          case h5b0 => exact fun _ _ _ h => h
          try simp only [Act.put, List.setIfInBounds_toArray, List.set_cons_zero, List.set_cons_succ]
          refine wpAnyH_take (i := 1) (oi := ?oob1) (v := ?vvb1) ?hib1 (by kernel_rfl) ?h3b1 ?h4b1 ?h5b1 ?h6b1 (by assumption) ?h8b1
          case hib1 => (simp only [List.getElem?_toArray, List.getElem?_cons_succ, List.getElem?_cons_zero]; rfl)
          case h3b1 => kernel_rfl
          case h4b1 => kernel_rfl
          case h6b1 => (refine Or.inl ⟨by rfl, ?_⟩; intro w hSw; (try dsimp only at hSw); (go_simp <;> with_reducible rfl))
          case h5b1 => exact fun _ _ _ h => h
          try simp only [Act.put, List.setIfInBounds_toArray, List.set_cons_zero, List.set_cons_succ]
          refine wpAnyH_take (i := 2) (oi := ?oob2) (v := ?vvb2) ?hib2 (by kernel_rfl) ?h3b2 ?h4b2 ?h5b2 ?h6b2 (by assumption) ?h8b2
          case hib2 => (simp only [List.getElem?_toArray, List.getElem?_cons_succ, List.getElem?_cons_zero]; rfl)
          case h3b2 => kernel_rfl
          case h4b2 => kernel_rfl
          case h6b2 => (refine Or.inl ⟨by rfl, ?_⟩; intro w hSw; (try dsimp only at hSw); (go_simp <;> with_reducible rfl))
          case h5b2 => exact fun _ _ _ h => h
          try simp only [Act.put, List.setIfInBounds_toArray, List.set_cons_zero, List.set_cons_succ]
          refine wpAnyH_take (i := 3) (oi := ?oob3) (v := ?vvb3) ?hib3 (by kernel_rfl) ?h3b3 ?h4b3 ?h5b3 ?h6b3 (by assumption) ?h8b3
          case hib3 => (simp only [List.getElem?_toArray, List.getElem?_cons_succ, List.getElem?_cons_zero]; rfl)
          case h3b3 => kernel_rfl
          case h4b3 => kernel_rfl
          case h6b3 => (refine Or.inl ⟨by rfl, ?_⟩; intro w hSw; (try dsimp only at hSw); (go_simp <;> with_reducible rfl))
          case h5b3 => exact fun _ _ _ h => h
          try simp only [Act.put, List.setIfInBounds_toArray, List.set_cons_zero, List.set_cons_succ]
          refine wpAnyH_take (i := 4) (oi := ?oob4) (v := ?vvb4) ?hib4 (by kernel_rfl) ?h3b4 ?h4b4 ?h5b4 ?h6b4 (by assumption) ?h8b4
          case hib4 => (simp only [List.getElem?_toArray, List.getElem?_cons_succ, List.getElem?_cons_zero]; rfl)
          case h3b4 => kernel_rfl
          case h4b4 => kernel_rfl
          case h6b4 => (refine Or.inl ⟨by rfl, ?_⟩; intro w hSw; (try dsimp only at hSw); (go_simp <;> with_reducible rfl))
          case h5b4 => exact fun _ _ _ h => h
          try simp only [Act.put, List.setIfInBounds_toArray, List.set_cons_zero, List.set_cons_succ]
          refine wpAnyH_take (i := 5) (oi := ?oob5) (v := ?vvb5) ?hib5 (by kernel_rfl) ?h3b5 ?h4b5 ?h5b5 ?h6b5 (by assumption) ?h8b5
          case hib5 => (simp only [List.getElem?_toArray, List.getElem?_cons_succ, List.getElem?_cons_zero]; rfl)
          case h3b5 => kernel_rfl
          case h4b5 => kernel_rfl
          case h6b5 => (refine Or.inl ⟨by rfl, ?_⟩; intro w hSw; (try dsimp only at hSw); (go_simp <;> with_reducible rfl))
          case h5b5 => exact fun _ _ _ h => h
          try simp only [Act.put, List.setIfInBounds_toArray, List.set_cons_zero, List.set_cons_succ]
          refine wpAnyH_take (i := 6) (oi := ?oob6) (v := ?vvb6) ?hib6 (by kernel_rfl) ?h3b6 ?h4b6 ?h5b6 ?h6b6 (by assumption) ?h8b6
          case hib6 => (simp only [List.getElem?_toArray, List.getElem?_cons_succ, List.getElem?_cons_zero]; rfl)
          case h3b6 => kernel_rfl
          case h4b6 => kernel_rfl
          case h6b6 => (refine Or.inl ⟨by rfl, ?_⟩; intro w hSw; (try dsimp only at hSw); (go_simp <;> with_reducible rfl))
          case h5b6 => exact fun _ _ _ h => h
          try simp only [Act.put, List.setIfInBounds_toArray, List.set_cons_zero, List.set_cons_succ]
          refine wpAnyH_take (i := 7) (oi := ?oob7) (v := ?vvb7) ?hib7 (by kernel_rfl) ?h3b7 ?h4b7 ?h5b7 ?h6b7 (by assumption) ?h8b7
          case hib7 => (simp only [List.getElem?_toArray, List.getElem?_cons_succ, List.getElem?_cons_zero]; rfl)
          case h3b7 => kernel_rfl
          case h4b7 => kernel_rfl
          case h6b7 => (refine Or.inl ⟨by rfl, ?_⟩; intro w hSw; (try dsimp only at hSw); (go_simp <;> with_reducible rfl))
          case h5b7 => exact fun _ _ _ h => h
          try simp only [Act.put, List.setIfInBounds_toArray, List.set_cons_zero, List.set_cons_succ]
          refine wpAnyH_take (i := 8) (oi := ?oob8) (v := ?vvb8) ?hib8 (by kernel_rfl) ?h3b8 ?h4b8 ?h5b8 ?h6b8 (by assumption) ?h8b8
          case hib8 => (simp only [List.getElem?_toArray, List.getElem?_cons_succ, List.getElem?_cons_zero]; rfl)
          case h3b8 => kernel_rfl
          case h4b8 => kernel_rfl
          case h6b8 => (refine Or.inl ⟨by rfl, ?_⟩; intro w hSw; (try dsimp only at hSw); (go_simp <;> with_reducible rfl))
          case h5b8 => exact fun _ _ _ h => h
          try simp only [Act.put, List.setIfInBounds_toArray, List.set_cons_zero, List.set_cons_succ]
          refine wpAnyH_take (i := 9) (oi := ?oob9) (v := ?vvb9) ?hib9 (by kernel_rfl) ?h3b9 ?h4b9 ?h5b9 ?h6b9 (by assumption) ?h8b9
          case hib9 => (simp only [List.getElem?_toArray, List.getElem?_cons_succ, List.getElem?_cons_zero]; rfl)
          case h3b9 => kernel_rfl
          case h4b9 => kernel_rfl
          case h6b9 => (refine Or.inl ⟨by rfl, ?_⟩; intro w hSw; (try dsimp only at hSw); (go_simp <;> with_reducible rfl))
          case h5b9 => exact fun _ _ _ h => h
          try simp only [Act.put, List.setIfInBounds_toArray, List.set_cons_zero, List.set_cons_succ]
          refine wpAnyH_ready (rs := [10]) (by kernel_rfl) (by simp) (AllReadyH.cons (o := ?oob10) ?hib10 (fun K hK => ?hkb10) AllReadyH.nil)
          rotate_left
          case hib10 => (simp only [List.getElem?_toArray, List.getElem?_cons_succ, List.getElem?_cons_zero]; rfl)
          (rw [if_pos (by rfl)]; go_simp; refine hK.out _ _ (⟨(World.cell?_setCell_other _ _ _ _ (fun e => nk (congrArg Addr.block e))).trans hHeld.1, (World.cell?_setCell_other _ _ _ _ (fun e => ng (congrArg Addr.block e))).trans hHeld.2⟩) (fun hHeld => ?_); clear hK K)
          try simp only [Act.put, List.setIfInBounds_toArray, List.set_cons_zero, List.set_cons_succ]
          refine wpAnyH_done (by kernel_rfl) ?_ _
          go_wp2_with fail
          go_roundw
          case rel => exact ⟨m + 1, by omega, by go_num, HS.out 1⟩
          case measure => simp [intOf]; omega
        · have HE : Hid (OwnI wr w.heap.size (.slice (some ⟨g, 0, none⟩) ns.length ns.length) (comeTo ns fl (k + 1)) ∧ Below w.heap.size w wr) := by
            refine ⟨?_, below_gv HB5.out HM.out.2 (fun q hq => by have e := Option.some.inj hq; omega)⟩
            rw [← HST.out]
            have := HM.out.1
            rw [show m = ks.length from by omega] at this
            exact this
          have hmk2 : (m : Int) = (ks.length : Int) := by omega
          clear HM
          go_wp2_with fail
          go_roundw
          case rel => exact ⟨k + 1, by omega, by go_num, HE.out⟩
          case measure => simp [intOf]; omega
    · have HO := Lib.hid hO
      have HB := Lib.hid hB
      clear hO hB
      go_wp2_with fail
      go_ret
      exact ⟨_, rfl, by rw [show k = ns.length from by omega] at HO; exact HO.out, HB.out⟩
end Go.Proofs.Ytfcgjiciobfncaa
namespace Go.Proofs.Ytfcgjiciobfncaa
open Go.RowKit
set_option linter.unusedSimpArgs false
set_option linter.unusedVariables false
set_option maxRecDepth 100000 in
set_option maxHeartbeats 8000000 in
/-- spec.delivered -/
theorem sdelivered (a : Option Addr) (cap : Nat) (ns : List Nd) (k : Nat) (fl : Int) (w : World) (h : IsNd w a ns) (hv : vnB ns = true) (hk : k < ns.length) (hf : 0 ≤ fl ∧ fl ≤ 500) :
    Calls Try.prog 83 #[.slice a ns.length cap, .int .i64 (k : Int), .int .i64 fl] w fun e w' => e = .returned (.int .i64 ((passF ns fl).getD k 0)) ∧ Below w.heap.size w w' := by
  obtain ⟨l1, l12, _⟩ := vn_is hv
  have HF := Lib.hid (fun (W : World) (hW : Below w.heap.size w W) => sflows a cap ns fl W (nd_below h hW) hv hf)
  have HL : Hid ((comeF ns fl).length = ns.length) := comeTo_len ns fl _
  rcases h with rfl | ⟨g0, o, rfl, hc⟩
  · simp at l1
  obtain ⟨c0, c1, c2, c3, c4⟩ := hc k hk
  obtain ⟨q1, q2, q3, q4⟩ := vn_at hv hk
  have hcb := come_bd hv hf k
  have hpg := passF_get ns fl hk
  have CP := fun W => spassing (ns.getD k nd0).1 (ns.getD k nd0).2.1 (ns.getD k nd0).2.2.1 (ns.getD k nd0).2.2.2.1 (ns.getD k nd0).2.2.2.2 ((comeF ns fl).getD k 0) W hcb q2 q3
  change ∀ W, Calls _ _ _ W (fun e w' => e = .returned (.int .i64 (passV (ns.getD k nd0) ((comeF ns fl).getD k 0))) ∧ Below W.heap.size W w') at CP
  rw [← hpg] at CP
  generalize ns.getD k nd0 = nd at c0 c1 c2 c3 c4 CP
  obtain ⟨x0, x1, x2, x3, x4⟩ := nd
  dsimp only at c0 c1 c2 c3 c4 CP
  generalize (passF ns fl).getD k 0 = p at CP
  have k0 : (0 : Int) ≤ (k : Int) := by omega
  have k1 : (k : Int) < (ns.length : Int) := by omega
  clear hcb hpg q1 q2 q3 q4 hc hv
  go_enter Try.func83, Try.ntmps83
  go_wp2_with fail
  refine wp_region_held_drew (S := (fun W' => (W'.cell? ⟨g0, o + k * 5, none⟩ = some (.int .i64 x0) ∧ W'.cell? ⟨g0, o + k * 5 + 1, none⟩ = some (.int .i64 x1) ∧ W'.cell? ⟨g0, o + k * 5 + 2, none⟩ = some (.int .i64 x2) ∧ W'.cell? ⟨g0, o + k * 5 + 3, none⟩ = some (.int .i64 x3) ∧ W'.cell? ⟨g0, o + k * 5 + 4, none⟩ = some (.int .i64 x4) ∧ W'.cell? ⟨g0, o + k * 5 + 4, none⟩ = some (.int .i64 x4)) ∧ Below w.heap.size w W')) (by kernel_rfl) ?_ (fun hHeld => ?_)
  · exact ⟨⟨c0, c1, c2, c3, c4, c4⟩, (Below.refl _ _).drew⟩
  refine wpAnyH_take (i := 0) (oi := ?oob0) (v := ?vvb0) ?hib0 (by kernel_rfl) ?h3b0 ?h4b0 ?h5b0 ?h6b0 (by assumption) ?h8b0
  case hib0 => (simp only [List.getElem?_toArray, List.getElem?_cons_succ, List.getElem?_cons_zero]; rfl)
  case h3b0 => kernel_rfl
  case h4b0 => kernel_rfl
  case h6b0 => (refine Or.inl ⟨by rfl, ?_⟩; intro w hSw; (try dsimp only at hSw); (go_simp <;> with_reducible rfl))
  case h5b0 => exact fun _ _ _ h => h
  try simp only [Act.put, List.setIfInBounds_toArray, List.set_cons_zero, List.set_cons_succ]
  refine wpAnyH_take (i := 1) (oi := ?oob1) (v := ?vvb1) ?hib1 (by kernel_rfl) ?h3b1 ?h4b1 ?h5b1 ?h6b1 (by assumption) ?h8b1
  case hib1 => (simp only [List.getElem?_toArray, List.getElem?_cons_succ, List.getElem?_cons_zero]; rfl)
  case h3b1 => kernel_rfl
  case h4b1 => kernel_rfl
  case h6b1 => (refine Or.inl ⟨by rfl, ?_⟩; intro w hSw; (try dsimp only at hSw); (go_simp <;> with_reducible rfl))
  case h5b1 => exact fun _ _ _ h => h
  try simp only [Act.put, List.setIfInBounds_toArray, List.set_cons_zero, List.set_cons_succ]
  refine wpAnyH_take (i := 2) (oi := ?oob2) (v := ?vvb2) ?hib2 (by kernel_rfl) ?h3b2 ?h4b2 ?h5b2 ?h6b2 (by assumption) ?h8b2
  case hib2 => (simp only [List.getElem?_toArray, List.getElem?_cons_succ, List.getElem?_cons_zero]; rfl)
  case h3b2 => kernel_rfl
  case h4b2 => kernel_rfl
  case h6b2 => (refine Or.inl ⟨by rfl, ?_⟩; intro w hSw; (try dsimp only at hSw); (go_simp <;> with_reducible rfl))
  case h5b2 => exact fun _ _ _ h => h
  try simp only [Act.put, List.setIfInBounds_toArray, List.set_cons_zero, List.set_cons_succ]
  refine wpAnyH_take (i := 3) (oi := ?oob3) (v := ?vvb3) ?hib3 (by kernel_rfl) ?h3b3 ?h4b3 ?h5b3 ?h6b3 (by assumption) ?h8b3
  case hib3 => (simp only [List.getElem?_toArray, List.getElem?_cons_succ, List.getElem?_cons_zero]; rfl)
  case h3b3 => kernel_rfl
  case h4b3 => kernel_rfl
  case h6b3 => (refine Or.inl ⟨by rfl, ?_⟩; intro w hSw; (try dsimp only at hSw); (go_simp <;> with_reducible rfl))
  case h5b3 => exact fun _ _ _ h => h
  try simp only [Act.put, List.setIfInBounds_toArray, List.set_cons_zero, List.set_cons_succ]
  refine wpAnyH_take (i := 4) (oi := ?oob4) (v := ?vvb4) ?hib4 (by kernel_rfl) ?h3b4 ?h4b4 ?h5b4 ?h6b4 (by assumption) ?h8b4
  case hib4 => (simp only [List.getElem?_toArray, List.getElem?_cons_succ, List.getElem?_cons_zero]; rfl)
  case h3b4 => kernel_rfl
  case h4b4 => kernel_rfl
  case h6b4 => (refine Or.inl ⟨by rfl, ?_⟩; intro w hSw; (try dsimp only at hSw); (go_simp <;> with_reducible rfl))
  case h5b4 => exact fun _ _ _ h => h
  try simp only [Act.put, List.setIfInBounds_toArray, List.set_cons_zero, List.set_cons_succ]
  refine wpAnyH_take (i := 5) (oi := ?oob5) (v := ?vvb5) ?hib5 (by kernel_rfl) ?h3b5 ?h4b5 ?h5b5 ?h6b5 (by assumption) ?h8b5
  case hib5 => (simp only [List.getElem?_toArray, List.getElem?_cons_succ, List.getElem?_cons_zero]; rfl)
  case h3b5 => kernel_rfl
  case h4b5 => kernel_rfl
  case h6b5 => (refine Or.inl ⟨by rfl, ?_⟩; intro w hSw; (try dsimp only at hSw); (go_simp <;> with_reducible rfl))
  case h5b5 => exact fun _ _ _ h => h
  try simp only [Act.put, List.setIfInBounds_toArray, List.set_cons_zero, List.set_cons_succ]
  refine wpAnyH_take (i := 7) (oi := ?oob7) (v := ?vvb7) ?hib7 (by kernel_rfl) ?h3b7 ?h4b7 ?h5b7 ?h6b7 (by assumption) ?h8b7
  case hib7 => (simp only [List.getElem?_toArray, List.getElem?_cons_succ, List.getElem?_cons_zero]; rfl)
  case h3b7 => kernel_rfl
  case h4b7 => kernel_rfl
  case h6b7 => (refine Or.inl ⟨by rfl, ?_⟩; intro w hSw; (try dsimp only at hSw); (go_simp <;> with_reducible rfl))
  case h5b7 => exact fun _ _ _ h => h
  try simp only [Act.put, List.setIfInBounds_toArray, List.set_cons_zero, List.set_cons_succ]
  refine wpAnyH_ready (rs := [6]) (by kernel_rfl) (by simp) (AllReadyH.cons (o := ?oob6) ?hib6 (fun K hK => ?hkb6) AllReadyH.nil)
  rotate_left
  case hib6 => (simp only [List.getElem?_toArray, List.getElem?_cons_succ, List.getElem?_cons_zero]; rfl)
  (rw [if_pos (by rfl)]; go_simp; refine (HF.out _ hHeld.2).mono ?_; rintro e wq ⟨v13, rfl, hO, hb⟩; obtain ⟨cb, cc, rfl, _⟩ := hO.ints; obtain ⟨gc, rfl, _⟩ := hO.form_ (by rw [HL.out]; omega); rw [HL.out] at hO ⊢; have kc := hO.cell (j := k) (by rw [HL.out]; exact hk); go_wp2_with fail; refine hK.out _ _ (kp6 hb hHeld) (fun hHeld => ?_); clear hK K)
  try simp only [Act.put, List.setIfInBounds_toArray, List.set_cons_zero, List.set_cons_succ]
  refine wpAnyH_take (i := 8) (oi := ?oob8) (v := ?vvb8) ?hib8 (by kernel_rfl) ?h3b8 ?h4b8 ?h5b8 ?h6b8 (by assumption) ?h8b8
  case hib8 => (simp only [List.getElem?_toArray, List.getElem?_cons_succ, List.getElem?_cons_zero]; rfl)
  case h3b8 => kernel_rfl
  case h4b8 => kernel_rfl
  case h6b8 => (refine Or.inl ⟨by rfl, ?_⟩; intro w hSw; (try dsimp only at hSw); (go_simp <;> with_reducible rfl))
  case h5b8 => exact fun _ _ _ h => h
  try simp only [Act.put, List.setIfInBounds_toArray, List.set_cons_zero, List.set_cons_succ]
  refine wpAnyH_ready (rs := [9]) (by kernel_rfl) (by simp) (AllReadyH.cons (o := ?oob9) ?hib9 (fun K hK => ?hkb9) AllReadyH.nil)
  rotate_left
  case hib9 => (simp only [List.getElem?_toArray, List.getElem?_cons_succ, List.getElem?_cons_zero]; rfl)
  (rw [if_pos (by rfl)]; go_simp; refine hK.out _ _ (hHeld) (fun hHeld => ?_); clear hK K)
  try simp only [Act.put, List.setIfInBounds_toArray, List.set_cons_zero, List.set_cons_succ]
  refine wpAnyH_ready (rs := [10]) (by kernel_rfl) (by simp) (AllReadyH.cons (o := ?oob10) ?hib10 (fun K hK => ?hkb10) AllReadyH.nil)
  rotate_left
  case hib10 => (simp only [List.getElem?_toArray, List.getElem?_cons_succ, List.getElem?_cons_zero]; rfl)
  (rw [if_pos (by rfl)]; go_simp; refine (CP _).mono ?_; rintro e wp ⟨rfl, hb2⟩; go_wp2_with fail; refine hK.out _ _ (kp6 hb2 hHeld) (fun hHeld => ?_); clear hK K)
  try simp only [Act.put, List.setIfInBounds_toArray, List.set_cons_zero, List.set_cons_succ]
  refine wpAnyH_take (i := 11) (oi := ?oob11) (v := ?vvb11) ?hib11 (by kernel_rfl) ?h3b11 ?h4b11 ?h5b11 ?h6b11 (by assumption) ?h8b11
  case hib11 => (simp only [List.getElem?_toArray, List.getElem?_cons_succ, List.getElem?_cons_zero]; rfl)
  case h3b11 => kernel_rfl
  case h4b11 => kernel_rfl
  case h6b11 => (refine Or.inl ⟨by rfl, ?_⟩; intro w hSw; (try dsimp only at hSw); (go_simp <;> with_reducible rfl))
  case h5b11 => exact fun _ _ _ h => h
  try simp only [Act.put, List.setIfInBounds_toArray, List.set_cons_zero, List.set_cons_succ]
  refine wpAnyH_done (by kernel_rfl) ?_ _
  have HE := Lib.hid hHeld.2
  clear hHeld hb hb2 hO kc CP
  go_wp2_with fail
  go_ret
  exact ⟨rfl, HE.out⟩
end Go.Proofs.Ytfcgjiciobfncaa
namespace Go.Proofs.Ytfcgjiciobfncaa
open Go.RowKit
set_option linter.unusedSimpArgs false
set_option linter.unusedVariables false
theorem arrive_nv {ns : List Nd} {at_ : Int} {fs : List Int} (h : vnB ns = false ∨ inN ns.length at_ = false) : arriveV ns at_ fs = [] :=
  arrive_no (av_no (.inl (by rcases h with h | h <;> rw [h] <;> simp)))
set_option maxHeartbeats 8000000 in
/-- spec.ArriveAt -/
theorem sArrive (a b : Option Addr) (cap cb : Nat) (ns : List Nd) (at_ : Int) (fs : List Int) (w : World) (h : IsNd w a ns) (hn : ns.length ≤ 1048576) (hb : IsInts w b fs) (hf : fs.length ≤ 1048576) :
    Calls Try.prog 53 #[.slice a ns.length cap, .int .i64 at_, .slice b fs.length cb] w (OutI w (arriveV ns at_ fs)) := by
  have HVF := Lib.hid (fun (W : World) (hW : Below w.heap.size w W) => svflows b cb fs W (ints_below hb hW) hf)
  have VN := svn a cap ns _ h hn
  have CI := fun W => sinRange at_ 0 ((ns.length : Int) - 1) W
  rw [inN_range] at CI
  have wn : IntKind.i64.wrap ((ns.length : Int) - 1) = (ns.length : Int) - 1 := by rw [IntKind.wrap_i64]; omega
  cases hv : vnB ns with
  | false =>
    rw [arrive_nv (.inl hv)]
    rw [hv] at VN
    clear hv h hb
    go_enter Try.func53, Try.ntmps53
    go_wp2_with fail
    refine VN.mono ?_
    rintro e w1 ⟨rfl, C⟩
    go_wp2_with fail
    go_ret
    exact outI_nil C
  | true =>
  rw [hv] at VN
  cases hi : inN ns.length at_ with
  | false =>
    rw [arrive_nv (.inr hi)]
    rw [hi] at CI
    clear hv hi h hb
    go_enter Try.func53, Try.ntmps53
    go_wp2_with fail
    refine VN.mono ?_
    rintro e w1 ⟨rfl, C⟩
    go_wp2_with fail
    refine (CI _).mono ?_
    rintro e w' ⟨rfl, rfl⟩
    go_wp2_with fail
    go_ret
    exact outI_nil C
  | true =>
    rw [hi] at CI
    obtain ⟨k, rfl, hk⟩ := inN_yes hi
    have hav : avB ns (k : Int) fs = (decide (fs.length ≤ 200) && allB fs 500) := by unfold avB; rw [hv, hi]; rfl
    obtain ⟨t, ht⟩ : ∃ t, (decide (fs.length ≤ 200) && allB fs 500) = t := ⟨_, rfl⟩
    have HT := Lib.hid ht
    rw [ht] at HVF hav
    cases t with
    | false =>
      rw [arrive_no hav]
      clear hi hv h hb ht hav
      go_enter Try.func53, Try.ntmps53
      go_wp2_with fail
      refine VN.mono ?_
      rintro e w1 ⟨rfl, C⟩
      go_wp2_with fail
      refine (CI _).mono ?_
      rintro e w' ⟨rfl, rfl⟩
      have CV := HVF.out w1 C
      clear VN CI
      go_wp2_with fail
      refine CV.mono ?_
      rintro e w' ⟨rfl, rfl⟩
      go_wp2_with fail
      go_ret
      exact outI_nil C
    | true =>
    rw [arrive_yes hav]
    have hav2 := av_is hav
    obtain ⟨i0, hi0, hz0, hz1, hz2⟩ := info_parts infoInt
    have hd := delay_bd hv hk
    obtain ⟨d, hdd⟩ : ∃ d : Nat, delayF ns (k : Int) = (d : Int) := ⟨(delayF ns (k : Int)).toNat, by omega⟩
    have CD := fun (W : World) (hW : Below w.heap.size w W) => (by have := sDelay a cap ns (k : Int) W (nd_below h hW) hn; rw [delay_yes hv hi, hdd] at this; exact this : Calls Try.prog 82 #[.slice a ns.length cap, .int .i64 (k : Int)] W fun e w' => e = .returned (.int .i64 (d : Int)) ∧ Below W.heap.size W w')
    have HD := Lib.hid (fun (W : World) (hW : Below w.heap.size w W) (x : Int) (hx : 0 ≤ x ∧ x ≤ 500) => sdelivered a cap ns k x W (nd_below h hW) hv hk hx)
    have HFB := Lib.hid (fun i (hi : i < fs.length) => (allB_iff fs 500).1 hav2.2.2.2 _ (getD_mem hi))
    have HCD := Lib.hid CD
    have HI := Lib.hid hb
    have HDD := Lib.hid hdd
    have l200 := hav2.2.2.1
    have d240 : d ≤ 240 := by omega
    clear hi hv h hb ht hav hav2 hd CD hdd
    go_enter Try.func53, Try.ntmps53
    go_wp2_with fail
    refine VN.mono ?_
    rintro e w1 ⟨rfl, C⟩
    go_wp2_with fail
    refine (CI _).mono ?_
    rintro e w' ⟨rfl, rfl⟩
    have CV := HVF.out w1 C
    clear VN CI
    go_wp2_with fail
    refine CV.mono ?_
    rintro e w' ⟨rfl, rfl⟩
    clear CV HVF
    have HO1 := Lib.hid (OwnI.new C)
    have hBa := C.alloc C.size (.cells #[] 3)
    have CD := HCD.out _ hBa
    have HBa := Lib.hid hBa
    clear hBa C
    go_wp2_with fail
    refine CD.mono ?_
    rintro e w3 ⟨rfl, hb3⟩
    have HO3 : Hid (OwnI w3 w.heap.size (.slice (some ⟨w1.heap.size, 0, none⟩) 0 0) [] ∧ Below w.heap.size w w3) := ⟨HO1.out.of_block hb3, bel_tr HBa.out hb3⟩
    clear CD hb3 HO1 HBa
    go_wp2_with fail
    go_loopw [7, 9] (fun v i wr => ∃ q : Nat, q ≤ fs.length ∧ i = .int .i64 q ∧ OwnI wr w.heap.size v ((arrF ns k fs).take q) ∧ Below w.heap.size w wr) (fun _ i _ => fs.length - (intOf i).toNat)
    case atStart => exact ⟨0, Nat.zero_le _, rfl, HO3.out.1, HO3.out.2⟩
    case round =>
      clear HO3
      obtain ⟨q, hq, rfl, hO, hB⟩ := hrel
      by_cases hlt : q < fs.length
      · have htk := take_snocD (arrF ns k fs) (k := q) (by rw [arrF_len]; exact hlt) 0
        rw [arrF_get ns k fs hlt] at htk
        unfold arrAt at htk
        rw [HDD.out] at htk
        have hll : ((arrF ns k fs).take q).length ≤ 1048576 := by rw [List.length_take]; omega
        generalize (arrF ns k fs).take q = tk at hO htk hll
        by_cases hqd : q < d
        · rw [if_pos (by omega)] at htk
          have e1 : decide ((d : Int) ≤ (q : Int)) = false := decide_eq_false (by omega)
          have e2 : decide (d ≤ q) = false := decide_eq_false (by omega)
          have HTK := Lib.hid htk
          have hsz := hB.size
          clear htk
          go_wp2_with (first | (at_builtin; refine wpList_append_own _ rfl (.tmp 49) (.tmp 51) _ rfl w.heap.size 3 i0 (.int .i64 0) 1 8 Try.underlying31 hi0 hz0 hz1 hz2 rfl (by decide) _ _ _ rfl (hO.alloc _) ⟨wr.heap.size, 0, none⟩ 1 1 [.int .i64 0] rfl rfl (cell_one_new _ _ _) (fun x hx => by simp at hx; subst hx; rfl) (by unfold maxLen; omega) (by omega) (by simp; omega) ?_; intro v3 w3 hown3 hgrow3 hnil3))
          have HR : Hid (OwnI w3 w.heap.size v3 ((arrF ns k fs).take (q + 1)) ∧ Below w.heap.size w w3) := ⟨by rw [HTK.out]; exact OwnI.snoc hown3, (hB.alloc hsz _).grown hgrow3 (by simp; omega) hO.grow⟩
          clear hO hown3 hgrow3 hnil3 hB
          go_roundw
          case rel => exact ⟨q + 1, by omega, by go_num, HR.out.1, HR.out.2⟩
          case measure => simp [intOf]; omega
        · rw [if_neg (by omega), show ((d : Int)).toNat = d from by omega] at htk
          have e1 : decide ((d : Int) ≤ (q : Int)) = true := decide_eq_true (by omega)
          have e2 : decide (d ≤ q) = true := decide_eq_true (by omega)
          obtain ⟨m, hm⟩ : ∃ m : Nat, q - d = m := ⟨_, rfl⟩
          have hml : m < fs.length := by omega
          have wm : IntKind.i64.wrap ((q : Int) - (d : Int)) = (m : Int) := by rw [IntKind.wrap_i64]; omega
          have hi : IsInts w b fs := HI.out
          rcases hi with rfl | ⟨gf, of_, rfl, hcf⟩
          · simp at hlt
          have c0' := hcf m hml
          have c0 := (hB.cell (World.block_lt_of_cell? w _ c0')).trans c0'
          rw [hm] at htk
          have CDL := HD.out wr hB _ (HFB.out m hml)
          generalize fs.getD m 0 = x at c0 CDL htk
          generalize (passF ns x).getD k 0 = p at CDL htk
          have m0 : (0 : Int) ≤ (m : Int) := by omega
          have m1 : (m : Int) < (fs.length : Int) := by omega
          have HTK := Lib.hid htk
          have HO := Lib.hid hO
          have HB := Lib.hid hB
          clear htk hcf c0' hm hO hB
          go_wp2_with fail
          refine CDL.mono ?_
          rintro e w4 ⟨rfl, hb4⟩
          have hO4 := HO.out.of_block hb4
          have hB4 := bel_tr HB.out hb4
          have hsz := hB4.size
          clear hb4 CDL c0
          go_wp2_with (first | (at_builtin; refine wpList_append_own _ rfl (.tmp 49) (.tmp 51) _ rfl w.heap.size 3 i0 (.int .i64 0) 1 8 Try.underlying31 hi0 hz0 hz1 hz2 rfl (by decide) _ _ _ rfl (hO4.alloc _) ⟨w4.heap.size, 0, none⟩ 1 1 [.int .i64 p] rfl rfl (cell_one_new _ _ _) (fun x hx => by simp at hx; subst hx; rfl) (by unfold maxLen; omega) (by omega) (by simp; omega) ?_; intro v3 w3 hown3 hgrow3 hnil3))
          have HR : Hid (OwnI w3 w.heap.size v3 ((arrF ns k fs).take (q + 1)) ∧ Below w.heap.size w w3) := ⟨by rw [HTK.out]; exact OwnI.snoc hown3, (hB4.alloc hsz _).grown hgrow3 (by simp; omega) hO4.grow⟩
          clear hO4 hown3 hgrow3 hnil3 hB4
          go_roundw
          case rel => exact ⟨q + 1, by omega, by go_num, HR.out.1, HR.out.2⟩
          case measure => simp [intOf]; omega
      · have HO : Hid (OwnI wr w.heap.size u7 (arrF ns k fs) ∧ Below w.heap.size w wr) := by
          rw [List.take_of_length_le (by rw [arrF_len]; omega)] at hO
          exact ⟨hO, hB⟩
        clear hO hB
        go_wp2_with fail
        go_ret
        exact ⟨_, rfl, HO.out⟩
end Go.Proofs.Ytfcgjiciobfncaa
