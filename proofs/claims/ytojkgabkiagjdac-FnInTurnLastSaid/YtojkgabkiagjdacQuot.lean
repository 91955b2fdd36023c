/- QuotasOf, impl's and spec's; marks that the laws write. Condition: at most 1048576 numbers. -/
import Derived.Test.YtojkgabkiagjdacWeights
import Derived.Test.YtojkgabkiagjdacOwnInts
import Derived.Test.YtojkgabkiagjdacOwnZ
import Derived.Test.YtojkgabkiagjdacRead
import Derived.Laws.OwnMore
import Derived.Maps.AppendAt
namespace Go.Proofs.Ytojkgabkiagjdac
open Go.RowKit

/-- what can be divided -/
def csB (n : Int) (ws : List Int) : Bool := decide (0 ≤ n) && decide (n ≤ 500) && vwB ws
theorem cs_no1 {n : Int} (ws : List Int) (h : n < 0 ∨ 500 < n) : csB n ws = false := by
  unfold csB
  rcases h with h | h
  · rw [decide_eq_false (by omega : ¬ 0 ≤ n)]; rfl
  · rw [decide_eq_false (by omega : ¬ n ≤ 500)]; simp
theorem cs_is {n : Int} {ws : List Int} (h : 0 ≤ n ∧ n ≤ 500) : csB n ws = vwB ws := by unfold csB; rw [decide_eq_true h.1, decide_eq_true h.2]; rfl
theorem cs_yes {n : Int} {ws : List Int} (h : csB n ws = true) : (0 ≤ n ∧ n ≤ 500) ∧ vwB ws = true := by
  unfold csB at h; simp only [Bool.and_eq_true, decide_eq_true_eq] at h; exact h
theorem icanSplit (n : Int) (a : Option Addr) (cap : Nat) (ws : List Int) (w : World) (h : IsInts w a ws) (hn : ws.length ≤ 1048576) :
    Calls Try.prog 69 #[.int .i64 n, .slice a ws.length cap] w fun e w' => e = .returned (.bool (csB n ws)) ∧ w = w' := by
  by_cases h1 : n < 0
  · go_enter Try.func69, Try.ntmps69
    go_wp2_with fail
    go_ret
    exact ⟨ret_bool (cs_no1 ws (by omega)).symm, rfl⟩
  · by_cases h2 : 500 < n
    · have h3 : decide (n ≤ 500) = false := by simp; omega
      go_enter Try.func69, Try.ntmps69
      go_wp2_with fail
      go_ret
      exact ⟨ret_bool (cs_no1 ws (by omega)).symm, rfl⟩
    · have HC := Lib.hid (cs_is (n := n) (ws := ws) (by omega))
      go_enter Try.func69, Try.ntmps69
      go_wp2_with fail
      refine (iVW a cap ws _ h hn).mono ?_
      rintro e w' ⟨rfl, rfl⟩
      go_wp2_with fail
      go_ret
      exact ⟨ret_bool HC.out.symm, rfl⟩
/-- the quotas -/
def qs (n : Int) (ws : List Int) : List Int := ws.map fun z => n * z / ws.sum
theorem qs_len (n : Int) (ws : List Int) : (qs n ws).length = ws.length := by unfold qs; simp
theorem qs_get (n : Int) (ws : List Int) {k : Nat} (h : k < ws.length) : (qs n ws).getD k 0 = n * ws.getD k 0 / ws.sum := by
  unfold qs
  rw [List.getD_eq_getElem?_getD, List.getD_eq_getElem?_getD, List.getElem?_map, List.getElem?_eq_getElem h]; rfl
theorem q_bd {n : Int} {ws : List Int} (h : csB n ws = true) {k : Nat} (hk : k < ws.length) : 0 ≤ ws.getD k 0 ∧ ws.getD k 0 ≤ 1000 ∧ 0 ≤ n * ws.getD k 0 ∧ n * ws.getD k 0 ≤ 500000 := by
  obtain ⟨⟨a, b⟩, c⟩ := cs_yes h
  have e := (allB_iff ws 1000).1 (vw_is c).1 _ (getD_mem hk)
  exact ⟨e.1, e.2, Int.mul_nonneg a e.1, Int.le_trans (Int.mul_le_mul b e.2 e.1 (by omega)) (by omega)⟩
theorem ws_bd {ws : List Int} (h : vwB ws = true) : 1 ≤ ws.sum ∧ ws.sum ≤ 12000000 := by
  obtain ⟨a, b, c⟩ := vw_is h
  have := sum_bd ws (all_bd a (by omega)) ws.length (Nat.le_refl _)
  rw [List.take_of_length_le (Nat.le_refl _)] at this
  omega

/-- what QuotasOf leaves -/
def Quot (w : World) (n : Int) (ws : List Int) (e : Ending) (w' : World) : Prop := ∃ g : Nat, e = .returned (.slice (some ⟨g, 0, none⟩) ws.length ws.length) ∧ w.heap.size ≤ g ∧ Row w' g (qs n ws) ∧ Below w.heap.size w w'

theorem iquot_no (n : Int) (a : Option Addr) (cap : Nat) (ws : List Int) (w : World) (h : IsInts w a ws) (hn : ws.length ≤ 1048576) (hcs : csB n ws = false) :
    Calls Try.prog 70 #[.int .i64 n, .slice a ws.length cap] w fun e w' => e = .returned (.slice none 0 0) ∧ w = w' := by
  go_enter Try.func70, Try.ntmps70
  go_wp2_with fail
  refine (icanSplit n a cap ws _ h hn).mono ?_
  rintro e w' ⟨rfl, rfl⟩
  go_wp2_with fail
  go_ret
  exact ⟨rfl, rfl⟩
set_option maxHeartbeats 1000000 in
theorem iquot (n : Int) (a : Option Addr) (cap : Nat) (ws : List Int) (w : World) (h : IsInts w a ws) (hn : ws.length ≤ 1048576) (hcs : csB n ws = true) :
    Calls Try.prog 70 #[.int .i64 n, .slice a ws.length cap] w (Quot w n ws) := by
  obtain ⟨⟨n0, n1⟩, hv⟩ := cs_yes hcs
  have h0 := h
  rcases h with rfl | ⟨g, o, rfl, hc⟩
  · exact absurd (vw_is hv).2.2 (by simp)
  · have hmk := run_make_row' (P := Try.prog) 23 3 (.int .i64 0) 8 Try.underlying23 infoInt rfl .i64 .i64 ws.length (by omega) (by omega)
    obtain ⟨s0, s1⟩ := ws_bd hv
    have HZ := Lib.hid (all_bd (vw_is hv).1 (by omega))
    have HC := Lib.hid hc
    have HK := Lib.hid hcs
    clear hc hv
    go_enter Try.func70, Try.ntmps70
    go_wp2_with fail
    refine (icanSplit n _ cap ws _ h0 hn).mono ?_
    rintro e w' ⟨rfl, rfl⟩
    go_wp2_with fail
    refine (isum _ cap ws _ h0 hn HZ.out).mono ?_
    rintro e w' ⟨rfl, rfl⟩
    go_wp2_with fail
    clear hmk hcs
    go_loopw [20] (fun i wr => ∃ k : Nat, k ≤ ws.length ∧ i = .int .i64 k ∧ wr.rowIs w.heap.size 3 ws.length (fun j => if j < k then .int .i64 ((qs n ws).getD j 0) else .int .i64 0) ∧ Below w.heap.size w wr) (fun i _ => ws.length - (intOf i).toNat)
    case atStart => exact ⟨0, Nat.zero_le _, rfl, (World.rowIs_made w (.int .i64 0) ws.length _).congr (fun i hi => by simp), by go_grown⟩
    case round =>
      obtain ⟨k, hk, rfl, hrow, hB⟩ := hrel
      by_cases hlt : k < ws.length
      · have hc0 := HC.out k hlt
        have hc := (hB.cell (p := ⟨g, o + k, none⟩) (World.block_lt_of_cell? w _ hc0)).trans hc0
        have hd : wr.cell? ⟨w.heap.size, k, none⟩ = some (.int .i64 0) := by rw [hrow.cell hlt, if_neg (Nat.lt_irrefl k)]
        have hf := hrow.frozen k
        have hcon : ∀ z : Int, (qs n ws).getD k 0 = z → (wr.setCell ⟨w.heap.size, k, none⟩ (.int .i64 z)).rowIs w.heap.size 3 ws.length (fun j => if j < k + 1 then .int .i64 ((qs n ws).getD j 0) else .int .i64 0) := fun z hz =>
          (hrow.set k (.int .i64 z)).congr (fun j hj => by
            show (if j = k then Value.int .i64 z else if j < k then .int .i64 ((qs n ws).getD j 0) else .int .i64 0) = _
            by_cases hjk : j = k
            · subst hjk; rw [if_pos rfl, if_pos (by omega), hz]
            · rw [if_neg hjk]
              by_cases hl : j < k
              · rw [if_pos hl, if_pos (by omega)]
              · rw [if_neg hl, if_neg (by omega)])
        have hcon2 := hcon _ (qs_get n ws hlt)
        obtain ⟨z0, z1, z2, z3⟩ := q_bd HK.out hlt
        clear hcon hc0
        generalize ws.getD k 0 = z at hc hcon2 z0 z1 z2 z3
        have HR := Lib.hid hcon2
        have HB := Lib.hid hB
        clear hcon2 hrow hB
        go_wp2
        go_roundw
        case rel => exact ⟨k + 1, by omega, by go_num, HR.out, HB.out.setCell (Nat.le_refl _) _⟩
        case measure => simp [intOf]; omega
      · have HR := Lib.hid hrow
        have HB := Lib.hid hB
        clear hrow hB
        go_wp2
        go_ret
        refine ⟨_, rfl, Nat.le_refl _, ?_, HB.out⟩
        have e : (qs n ws).length = ws.length := qs_len n ws
        unfold Row
        rw [e]
        exact HR.out.congr (fun i hi => by rw [if_pos (by omega)])

/-- what spec.quotas leaves -/
def QuotS (w : World) (n : Int) (ws : List Int) (e : Ending) (w' : World) : Prop := ∃ (b : Option Addr) (cap : Nat), e = .returned (.slice b ws.length cap) ∧ IsInts w' b (qs n ws) ∧ Below w.heap.size w w'
def QuotO (w : World) (n : Int) (ws : List Int) (e : Ending) (w' : World) : Prop := ∃ v, e = .returned v ∧ w'.ownsRow w.heap.size 3 1 v ws.length ((qs n ws).map (Value.int .i64)) ∧ Below w.heap.size w w'
set_option maxHeartbeats 2000000 in
theorem squotasO (n : Int) (a : Option Addr) (cap : Nat) (ws : List Int) (w : World) (h : IsInts w a ws) (hn : ws.length ≤ 1048576) (hcs : csB n ws = true) :
    Calls Try.prog 72 #[.int .i64 n, .slice a ws.length cap] w (QuotO w n ws) := by
  obtain ⟨⟨n0, n1⟩, hv⟩ := cs_yes hcs
  have h0 := h
  rcases h with rfl | ⟨g, o, rfl, hc⟩
  · exact absurd (vw_is hv).2.2 (by simp)
  · obtain ⟨s0, s1⟩ := ws_bd hv
    obtain ⟨i0, hi, hz0, hz1, hz2⟩ := info_parts infoInt
    have HZ := Lib.hid (all_bd (vw_is hv).1 (by omega))
    have HC := Lib.hid hc
    have HK := Lib.hid hcs
    have H0 := Lib.hid h0
    clear hc hv hcs h0
    go_enter Try.func72, Try.ntmps72
    go_wp2_with fail
    refine (stotal _ cap ws _ (ints_below H0.out (by go_grown)) hn HZ.out).mono ?_
    rintro e w' ⟨rfl, rfl⟩
    go_wp2_with fail
    go_loopw [5, 7] (fun v i wr => ∃ k : Nat, k ≤ ws.length ∧ i = .int .i64 k ∧ wr.ownsRow w.heap.size 3 1 v k (((qs n ws).take k).map (Value.int .i64)) ∧ Below w.heap.size w wr) (fun _ i _ => ws.length - (intOf i).toNat)
    case atStart => exact ⟨0, Nat.zero_le _, rfl, ⟨by simp, .inr ⟨w.heap.size, 0, #[], rfl, Nat.le_refl _, Go.Deep.blk_alloc_new _ _, Nat.le_refl _, by unfold maxLen; omega, rfl, rfl⟩⟩, by go_grown⟩
    case round =>
      obtain ⟨k, hk, rfl, hown, hB⟩ := hrel
      have hsz := hB.size
      by_cases hlt : k < ws.length
      · have hc0 := HC.out k hlt
        have hc := (hB.cell (p := ⟨g, o + k, none⟩) (World.block_lt_of_cell? w _ hc0)).trans hc0
        obtain ⟨z0, z1, z2, z3⟩ := q_bd HK.out hlt
        have ht := take_map (qs n ws) k (by rw [qs_len]; exact hlt)
        rw [qs_get n ws hlt] at ht
        clear hc0
        generalize ws.getD k 0 = z at hc z0 z1 z2 z3 ht
        have HT := Lib.hid ht
        clear ht
        go_wp2_with (first | (at_builtin; refine wpList_append_own _ rfl _ _ 23 rfl w.heap.size 3 i0 (.int .i64 0) 1 8 Try.underlying23 hi hz0 hz1 hz2 rfl (by decide) _ _ _ rfl (hown.alloc _) ⟨wr.heap.size, 0, none⟩ 1 1 [.int .i64 (n * z / ws.sum)] rfl rfl (cell_one_new _ _ _) (fun x hx => by simp at hx; subst hx; rfl) (by unfold maxLen; omega) (by omega) (by simp; omega) ?_; intro v' w3 hown' hgrow3 hnil3))
        have HR : Hid (w3.ownsRow w.heap.size 3 1 v' (k + 1) (((qs n ws).take (k + 1)).map (Value.int .i64)) ∧ Below w.heap.size w w3) := ⟨by rw [HT.out]; exact hown', (hB.alloc hsz _).grown hgrow3 (by simp; omega) (fun q hq => (hown.lt q hq).1)⟩
        clear hown hown' hgrow3 hnil3 hB
        go_roundw
        case rel => exact ⟨k + 1, by omega, by go_num, HR.out.1, HR.out.2⟩
        case measure => simp [intOf]; omega
      · have HW := Lib.hid hown
        have HB := Lib.hid hB
        clear hown hB
        go_wp2_with fail
        go_ret
        have hl := qs_len n ws
        have ho := HW.out
        rw [List.take_of_length_le (by omega), show k = (qs n ws).length from by omega] at ho
        rw [hl] at ho
        exact ⟨_, rfl, ho, HB.out⟩
theorem squotas (n : Int) (a : Option Addr) (cap : Nat) (ws : List Int) (w : World) (h : IsInts w a ws) (hn : ws.length ≤ 1048576) (hcs : csB n ws = true) :
    Calls Try.prog 72 #[.int .i64 n, .slice a ws.length cap] w (QuotS w n ws) :=
  (squotasO n a cap ws w h hn hcs).mono (by
    rintro e w' ⟨v, rfl, ho, hB⟩
    have hl := qs_len n ws
    rw [← hl] at ho
    obtain ⟨b, cp, hv, hin⟩ := own_ints ho
    exact ⟨b, cp, by rw [hl] at hv; exact congrArg Ending.returned hv, hin, hB⟩)
end Go.Proofs.Ytojkgabkiagjdac
