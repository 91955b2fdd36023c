/- SplitByRest, impl's and spec's. Condition: at most 1048576 numbers. -/
import Derived.Test.YtlpmeljneogpiabGrA
namespace Go.Proofs.Ytlpmeljneogpiab
open Go.RowKit

theorem row_set {w : World} {g : Nat} {zs : List Int} (h : Row w g zs) (k : Nat) (z : Int) (hk : k < zs.length) : Row (w.setCell ⟨g, k, none⟩ (.int .i64 z)) g (zs.set k z) := by
  unfold Row at *
  rw [List.length_set]
  exact (World.rowIs.set h k (.int .i64 z)).congr (fun j hj => by
    show (if j = k then Value.int .i64 z else .int .i64 (zs.getD j 0)) = _
    rw [getD_set _ _ _ hk]; split <;> rfl)
theorem row_skip {w : World} {g g' : Nat} {zs : List Int} (h : Row w g zs) (k : Nat) (v : Value) (hne : g' ≠ g) : Row (w.setCell ⟨g', k, none⟩ v) g zs :=
  World.rowIs.of_block h (Below.heap_setCell w ⟨g', k, none⟩ v g (fun e => by first | exact hne e | exact hne e.symm))
theorem pickB_at (R : Nat → Nat → Bool) {k n : Nat} (h : k < n) : pickB R k < n := by
  by_cases h0 : k = 0
  · subst h0; exact h
  · exact Nat.lt_trans (pickB_lt' (by omega)) h

/-- impl.greatestOf -/
theorem igreat (a : Option Addr) (cap : Nat) (zs : List Int) (w : World) (h : IsInts w a zs) (hn : zs.length ≤ 1048576) :
    Calls Try.prog 64 #[.slice a zs.length cap] w fun e w' => e = .returned (.int .i64 (pickB (moreB zs) zs.length : Nat)) ∧ Below w.heap.size w w' := by
  rcases h with rfl | ⟨g, o, rfl, hc⟩
  · go_enter Try.func64, Try.ntmps64
    go_wp2_with fail
    refine wp_loop_rounds 1 ?_
    rw [rounds_succ]
    go_wp2_with fail
    go_ret
    exact ⟨rfl, Below.refl _ _⟩
  · have HC := Lib.hid hc
    clear hc
    go_enter Try.func64, Try.ntmps64
    go_wp2_with fail
    go_loopw [3, 7] (fun b i wr => ∃ k : Nat, k ≤ zs.length ∧ i = .int .i64 k ∧ b = .int .i64 (pickB (moreB zs) k : Nat) ∧ Below w.heap.size w wr) (fun _ i _ => zs.length - (intOf i).toNat)
    case atStart => exact ⟨0, Nat.zero_le _, rfl, rfl, Below.refl _ _⟩
    case round =>
      obtain ⟨k, hk, rfl, rfl, hB⟩ := hrel
      by_cases hlt : k < zs.length
      · have hb := pickB_at (moreB zs) hlt
        have hc := (hB.cell (p := ⟨g, o + k, none⟩) (World.block_lt_of_cell? w _ (HC.out k hlt))).trans (HC.out k hlt)
        have hd := (hB.cell (p := ⟨g, o + pickB (moreB zs) k, none⟩) (World.block_lt_of_cell? w _ (HC.out _ hb))).trans (HC.out _ hb)
        have hs := pickB_succ (moreB zs) k
        have hm : moreB zs k (pickB (moreB zs) k) = decide (zs.getD k 0 > zs.getD (pickB (moreB zs) k) 0) := rfl
        rw [hm] at hs
        clear hm
        generalize pickB (moreB zs) k = b at hb hd hs
        generalize zs.getD k 0 = x at hc hs
        generalize zs.getD b 0 = y at hd hs
        have i0 : (0 : Int) ≤ (k : Int) := by omega
        have i1 : (k : Int) < (zs.length : Int) := by omega
        have i2 : (0 : Int) ≤ (b : Int) := by omega
        have i3 : (b : Int) < (zs.length : Int) := by omega
        by_cases hxy : y < x
        · have hs' : pickB (moreB zs) (k + 1) = k := by rw [hs]; simp [hxy]
          have HS := Lib.hid hs'
          clear hs hs'
          go_wp2_with fail
          go_quiet (fail)
          go_wp2
          go_roundw
          case rel => exact ⟨k + 1, by omega, by go_num, by rw [HS.out], below_drewN hB _⟩
          case measure => simp [intOf]; omega
        · have hs' : pickB (moreB zs) (k + 1) = b := by rw [hs]; simp; omega
          have HS := Lib.hid hs'
          clear hs hs'
          go_wp2_with fail
          go_quiet (fail)
          go_wp2
          go_roundw
          case rel => exact ⟨k + 1, by omega, by go_num, by rw [HS.out], below_drewN hB _⟩
          case measure => simp [intOf]; omega
      · have e : k = zs.length := by omega
        subst e
        go_wp2_with fail
        go_ret
        exact ⟨rfl, hB⟩
/-- what a division leaves -/
def Divd (m : Nat) (R : List Int) (w : World) (e : Ending) (w' : World) : Prop := ∃ g : Nat, e = .returned (.slice (some ⟨g, 0, none⟩) m m) ∧ w.heap.size ≤ g ∧ Row w' g R ∧ Below w.heap.size w w'

theorem irest_no (n : Int) (a : Option Addr) (cap : Nat) (ws : List Int) (w : World) (h : IsInts w a ws) (hn : ws.length ≤ 1048576) (hcs : csB n ws = false) :
    Calls Try.prog 32 #[.int .i64 n, .slice a ws.length cap] w fun e w' => e = .returned (.slice none 0 0) ∧ w = w' := by
  go_enter Try.func32, Try.ntmps32
  go_wp2_with fail
  refine (icanSplit n a cap ws _ h hn).mono ?_
  rintro e w' ⟨rfl, rfl⟩
  go_wp2_with fail
  go_ret
  exact ⟨rfl, rfl⟩
theorem srest_no (n : Int) (a : Option Addr) (cap : Nat) (ws : List Int) (w : World) (h : IsInts w a ws) (hn : ws.length ≤ 1048576) (hcs : csB n ws = false) :
    Calls Try.prog 33 #[.int .i64 n, .slice a ws.length cap] w fun e w' => e = .returned (.slice none 0 0) ∧ w = w' := by
  go_enter Try.func33, Try.ntmps33
  go_wp2_with fail
  refine (svalidSplit n a cap ws _ h hn).mono ?_
  rintro e w' ⟨rfl, rfl⟩
  go_wp2_with fail
  go_ret
  exact ⟨rfl, rfl⟩

theorem isumN (m : Nat) (a : Option Addr) (cap : Nat) (zs : List Int) (w : World) (hl : zs.length = m) (h : IsInts w a zs) (hn : m ≤ 1048576) (hz : ∀ z ∈ zs, -1000000 ≤ z ∧ z ≤ 1000000) :
    Calls Try.prog 62 #[.slice a m cap] w fun e w' => e = .returned (.int .i64 zs.sum) ∧ w = w' := by
  subst hl; exact isum a cap zs w h hn hz
theorem igreatN (m : Nat) (a : Option Addr) (cap : Nat) (zs : List Int) (w : World) (hl : zs.length = m) (h : IsInts w a zs) (hn : m ≤ 1048576) :
    Calls Try.prog 64 #[.slice a m cap] w fun e w' => e = .returned (.int .i64 (pickB (moreB zs) m : Nat)) ∧ Below w.heap.size w w' := by
  subst hl; exact igreat a cap zs w h hn
theorem r_bd {n : Int} {ws : List Int} (h : csB n ws = true) {k : Nat} (hk : k < ws.length) : 0 ≤ n * ws.getD k 0 ∧ n * ws.getD k 0 ≤ 500000 := (q_bd h hk).2.2
set_option maxHeartbeats 2000000 in
theorem irest (n : Int) (a : Option Addr) (cap : Nat) (ws : List Int) (w : World) (h : IsInts w a ws) (hn : ws.length ≤ 1048576) (hcs : csB n ws = true) :
    Calls Try.prog 32 #[.int .i64 n, .slice a ws.length cap] w (Divd ws.length (sr n ws) w) := by
  obtain ⟨⟨n0, n1⟩, hv⟩ := cs_yes hcs
  have h0 := h
  rcases h with rfl | ⟨g, o, rfl, hc⟩
  · exact absurd (vw_is hv).2.2 (by simp)
  · have hmk := run_make_row' (P := Try.prog) 27 3 (.int .i64 0) 8 Try.underlying27 infoInt rfl .i64 .i64 ws.length (by omega) (by omega)
    obtain ⟨s0, s1⟩ := ws_bd hv
    have l12 := (vw_is hv).2.1
    have HZ := Lib.hid (all_bd (vw_is hv).1 (by omega))
    have HC := Lib.hid hc
    have HK := Lib.hid hcs
    have H0 := Lib.hid h0
    clear hc hv
    go_enter Try.func32, Try.ntmps32
    go_wp2_with fail
    refine (icanSplit n _ cap ws _ h0 hn).mono ?_
    rintro e w' ⟨rfl, rfl⟩
    go_wp2_with fail
    refine (isum _ cap ws _ h0 hn HZ.out).mono ?_
    rintro e w' ⟨rfl, rfl⟩
    go_wp2_with fail
    clear hmk hcs h0
    go_loopw [23] (fun i wr => ∃ k : Nat, k ≤ ws.length ∧ i = .int .i64 k ∧ wr.rowIs w.heap.size 3 ws.length (fun j => if j < k then .int .i64 ((rsts n ws).getD j 0) else .int .i64 0) ∧ Below w.heap.size w wr) (fun i _ => ws.length - (intOf i).toNat)
    case atStart => exact ⟨0, Nat.zero_le _, rfl, (World.rowIs_made w (.int .i64 0) ws.length _).congr (fun i hi => by simp), by go_grown⟩
    case round =>
      obtain ⟨k, hk, rfl, hrow, hB⟩ := hrel
      by_cases hlt : k < ws.length
      · have hc0 := HC.out k hlt
        have hc := (hB.cell (p := ⟨g, o + k, none⟩) (World.block_lt_of_cell? w _ hc0)).trans hc0
        have hd : wr.cell? ⟨w.heap.size, k, none⟩ = some (.int .i64 0) := by rw [hrow.cell hlt, if_neg (Nat.lt_irrefl k)]
        have hf := hrow.frozen k
        have hcon : ∀ z : Int, (rsts n ws).getD k 0 = z → (wr.setCell ⟨w.heap.size, k, none⟩ (.int .i64 z)).rowIs w.heap.size 3 ws.length (fun j => if j < k + 1 then .int .i64 ((rsts n ws).getD j 0) else .int .i64 0) := fun z hz =>
          (hrow.set k (.int .i64 z)).congr (fun j hj => by
            show (if j = k then Value.int .i64 z else if j < k then .int .i64 ((rsts n ws).getD j 0) else .int .i64 0) = _
            by_cases hjk : j = k
            · subst hjk; rw [if_pos rfl, if_pos (by omega), hz]
            · rw [if_neg hjk]
              by_cases hl : j < k
              · rw [if_pos hl, if_pos (by omega)]
              · rw [if_neg hl, if_neg (by omega)])
        have hcon2 := hcon _ (rsts_get n ws hlt)
        obtain ⟨z0, z1, z2, z3⟩ := q_bd HK.out hlt
        clear hcon hc0
        generalize ws.getD k 0 = z at hc hcon2 z0 z1 z2 z3
        have HR := Lib.hid hcon2
        have HB := Lib.hid hB
        clear hcon2 hrow hB
        go_wp2
        go_roundw
        case rel => exact ⟨k + 1, by omega, by go_num, HR.out, HB.out.setCell (Nat.le_refl _) _⟩
        case measure => simp [intOf]; omega
      · have R0 : Row wr w.heap.size (rsts n ws) := by
          unfold Row
          rw [rsts_len]
          exact hrow.congr (fun i hi => by rw [if_pos (by omega)])
        have hi := ints_below H0.out hB
        clear hrow
        obtain ⟨q0, q1⟩ := q_sum HK.out
        have hql := qs_len n ws
        have hqb : ∀ z ∈ qs n ws, -1000000 ≤ z ∧ z ≤ 1000000 := fun z hz => by
          obtain ⟨i, hi, rfl⟩ := List.getElem_of_mem hz
          have := q_le HK.out (i := i) (by omega)
          rw [List.getD_eq_getElem?_getD, List.getElem?_eq_getElem hi] at this
          simp at this; omega
        have HQ := Lib.hid hqb
        have HI := Lib.hid hi
        have HR0 := Lib.hid R0
        have HB := Lib.hid hB
        clear hqb hi R0 hB hk
        go_wp2_with fail
        refine (iquot n _ cap ws _ HI.out hn HK.out).mono ?_
        rintro e w2 ⟨g2, rfl, lg, Rg, Bg⟩
        have hne : g2 ≠ w.heap.size := by have := World.rowIs.lt HR0.out; omega
        have B2 := bel_tr HB.out Bg
        have lg2 : w.heap.size ≤ g2 := Nat.le_trans HB.out.size lg
        have R2 := row_keep HR0.out Bg
        clear Bg HR0 HB HI
        go_wp2_with fail
        refine (isumN ws.length _ _ (qs n ws) _ hql (row_ints Rg) hn HQ.out).mono ?_
        rintro e w' ⟨rfl, rfl⟩
        have hl := left_is HK.out
        have HRg := Lib.hid Rg
        have HR2 := Lib.hid R2
        have HB2 := Lib.hid B2
        clear Rg R2 B2
        go_wp2_with fail
        go_loopw [10] (fun l wr => ∃ j : Nat, j ≤ leftOf n ws ∧ l = .int .i64 ((leftOf n ws : Int) - j) ∧ Row wr g2 (restTo n ws j).1 ∧ Row wr w.heap.size (restTo n ws j).2 ∧ Below w.heap.size w wr) (fun l _ => (intOf l).toNat)
        case atStart => exact ⟨0, Nat.zero_le _, by rw [hl]; go_num, HRg.out, HR2.out, HB2.out⟩
        case round =>
          obtain ⟨j, hj, rfl, RG, RD, hB⟩ := hrel
          by_cases hjl : j < leftOf n ws
          · have RJ := rest_is HK.out j hj
            obtain ⟨hb, hpos⟩ := rest_best HK.out RJ hjl
            have hy : 0 ≤ (restTo n ws j).1.getD (pickB (moreB (restTo n ws j).2) ws.length) 0 ∧ (restTo n ws j).1.getD (pickB (moreB (restTo n ws j).2) ws.length) 0 ≤ 500001 := by
              have := q_le HK.out hb
              rcases RJ.each _ hb with h | h <;> omega
            obtain ⟨lG, lD⟩ := restTo_len n ws j
            have e1 := restTo_succ1 n ws j
            have e2 := restTo_succ2 n ws j
            obtain ⟨G', hG'⟩ : ∃ G', (restTo n ws (j + 1)).1 = G' := ⟨_, rfl⟩
            obtain ⟨D', hD'⟩ : ∃ D', (restTo n ws (j + 1)).2 = D' := ⟨_, rfl⟩
            rw [hG'] at e1
            rw [hD'] at e2
            have HGD := Lib.hid (And.intro hG' hD')
            clear hG' hD'
            generalize (restTo n ws j).1 = G at *
            generalize (restTo n ws j).2 = D at *
            clear RJ hpos
            have HRG := Lib.hid RG
            have HRD := Lib.hid RD
            have HB := Lib.hid hB
            have HE := Lib.hid (And.intro e1 e2)
            clear RG RD hB e1 e2
            go_wp2_with fail
            refine (igreatN ws.length _ _ D _ lD (row_ints HRD.out) hn).mono ?_
            rintro e w3 ⟨rfl, B3⟩
            have RG := row_keep HRG.out B3
            have RD := row_keep HRD.out B3
            have B4 := bel_tr HB.out B3
            obtain ⟨E1, E2⟩ := HE.out
            generalize pickB (moreB D) ws.length = b at *
            have hx := World.rowIs.cell RG (i := b) (by omega)
            have hf := World.rowIs.frozen RG b
            have hf2 := World.rowIs.frozen RD b
            have hz := so (v := .int .i64 (G.getD b 0 + 1)) (show (⟨g2, b, none⟩ : Addr) ≠ ⟨w.heap.size, b, none⟩ from fun e => hne (by injection e)) (World.rowIs.cell RD (i := b) (by omega))
            have lt2 := World.rowIs.lt RD
            have i0 : (0 : Int) ≤ (b : Int) := by omega
            have i1 : (b : Int) < (ws.length : Int) := by omega
            have sG := row_skip (row_set RG b (G.getD b 0 + 1) (by omega)) b (.int .i64 (-1)) (fun e => hne e.symm)
            have sD := row_set (row_skip RD b (.int .i64 (G.getD b 0 + 1)) hne) b (-1) (by omega)
            rw [← E1] at sG
            rw [← E2] at sD
            have sB : Below w.heap.size w ((w3.setCell ⟨g2, b, none⟩ (.int .i64 (G.getD b 0 + 1))).setCell ⟨w.heap.size, b, none⟩ (.int .i64 (-1))) := (B4.setCell (by show w.heap.size ≤ g2; exact lg2) _).setCell (Nat.le_refl _) _
            have HS := Lib.hid (And.intro sG (And.intro sD sB))
            clear sG sD sB RG RD B3 B4 E1 E2 HE HRG HRD HB
            generalize G.getD b 0 = y at *
            go_wp2
            go_roundw
            case rel => exact ⟨j + 1, by omega, by go_num, by rw [HGD.out.1]; exact HS.out.1, by rw [HGD.out.2]; exact HS.out.2.1, HS.out.2.2⟩
            case measure => simp [intOf]; omega
          · have e : j = leftOf n ws := by omega
            subst e
            go_wp2
            go_ret
            exact ⟨g2, rfl, lg2, RG, hB⟩
end Go.Proofs.Ytlpmeljneogpiab
