/- spec.QuotasOf; the marks that the laws write and read. Condition: at most 1048576 numbers. -/
import Derived.Test.YtfdgaobdlibfpaaQuot
namespace Go.Proofs.Ytfdgaobdlibfpaa
open Go.RowKit

/-- 1, 2, 3 .. -/
def marks (n : Nat) : List Int := (List.range n).map fun (i : Nat) => (1 : Int) + (i : Int)
theorem marks_len (n : Nat) : (marks n).length = n := by unfold marks; simp
theorem marks_get (n : Nat) {k : Nat} (h : k < n) : (marks n).getD k 0 = 1 + (k : Int) := by
  unfold marks
  rw [List.getD_eq_getElem?_getD, List.getElem?_map, List.getElem?_range h]; rfl
/-- what markIntS leaves -/
def Marked (w : World) (g n : Nat) (e : Ending) (w' : World) : Prop := e = .returned (.int .i64 (1 + (n : Int))) ∧ Row w' g (marks n) ∧ w.grownBy w' (some g)

set_option maxHeartbeats 1000000 in
theorem lmark (g cap : Nat) (zs : List Int) (w : World) (h : Row w g zs) (hn : zs.length ≤ 1048576) :
    Calls Try.prog 23 #[.slice (some ⟨g, 0, none⟩) zs.length cap, .int .i64 1] w (Marked w g zs.length) := by
  have H := Lib.hid h
  clear h
  go_enter Try.func23, Try.ntmps23
  go_wp2
  go_loopw [1, 5] (fun k i wr => ∃ j : Nat, j ≤ zs.length ∧ i = .int .i64 j ∧ k = .int .i64 (1 + (j : Int)) ∧ wr.rowIs g 3 zs.length (fun i => if i < j then .int .i64 (1 + (i : Int)) else .int .i64 (zs.getD i 0)) ∧ w.grownBy wr (some g)) (fun _ i _ => zs.length - (intOf i).toNat)
  case atStart => exact ⟨0, Nat.zero_le _, rfl, rfl, H.out.congr (fun i hi => by simp), g_below (Below.refl _ _) _⟩
  case round =>
    obtain ⟨j, hj, rfl, rfl, hrow, hG⟩ := hrel
    by_cases hlt : j < zs.length
    · have hd := hrow.cell hlt
      rw [if_neg (Nat.lt_irrefl j)] at hd
      have hf := hrow.frozen j
      have hcon : (wr.setCell ⟨g, j, none⟩ (.int .i64 (1 + (j : Int)))).rowIs g 3 zs.length (fun i => if i < j + 1 then .int .i64 (1 + (i : Int)) else .int .i64 (zs.getD i 0)) :=
        (hrow.set j (.int .i64 (1 + (j : Int)))).congr (fun i hi => by
          show (if i = j then Value.int .i64 (1 + (j : Int)) else if i < j then .int .i64 (1 + (i : Int)) else .int .i64 (zs.getD i 0)) = _
          by_cases hij : i = j
          · subst hij; rw [if_pos rfl, if_pos (by omega)]
          · rw [if_neg hij]
            by_cases hl : i < j
            · rw [if_pos hl, if_pos (by omega)]
            · rw [if_neg hl, if_neg (by omega)])
      have HR := Lib.hid hcon
      have HG := Lib.hid hG
      generalize zs.getD j 0 = z at hd
      clear hcon hrow hG
      go_wp2
      go_roundw
      case rel => exact ⟨j + 1, by omega, by go_num, by go_num, HR.out, g_set HG.out (.inl rfl) _⟩
      case measure => simp [intOf]; omega
    · have HR := Lib.hid hrow
      have HG := Lib.hid hG
      clear hrow hG
      go_wp2
      go_ret
      refine ⟨ret_int (by omega), ?_, HG.out⟩
      unfold Row
      rw [marks_len]
      exact HR.out.congr (fun i hi => by rw [if_pos (by omega), marks_get _ hi])
theorem lmark_nil (w : World) : Calls Try.prog 23 #[.slice none 0 0, .int .i64 1] w fun e w' => e = .returned (.int .i64 1) ∧ w = w' := by
  go_enter Try.func23, Try.ntmps23
  go_wp2
  go_rounds 1
  go_ret
  exact ⟨rfl, rfl⟩
theorem lheld_nil (w : World) : Calls Try.prog 24 #[.slice none 0 0, .int .i64 1] w fun e w' => e = .returned (.int .i64 1) ∧ w = w' := by
  go_enter Try.func24, Try.ntmps24
  go_wp2
  go_rounds 1
  go_ret
  exact ⟨rfl, rfl⟩
set_option maxHeartbeats 1000000 in
theorem lheld (g cap n : Nat) (w : World) (h : Row w g (marks n)) (hn : n ≤ 1048576) :
    Calls Try.prog 24 #[.slice (some ⟨g, 0, none⟩) n cap, .int .i64 1] w fun e w' => e = .returned (.int .i64 (1 + (n : Int))) ∧ w = w' := by
  have H := Lib.hid h
  clear h
  go_enter Try.func24, Try.ntmps24
  go_wp2
  go_loop [1, 5] (fun k i => ∃ j : Nat, j ≤ n ∧ i = .int .i64 j ∧ k = .int .i64 (1 + (j : Int))) (fun _ i => n - (intOf i).toNat)
  case atStart => exact ⟨0, Nat.zero_le _, rfl, rfl⟩
  case round =>
    obtain ⟨j, hj, rfl, rfl⟩ := hrel
    by_cases hlt : j < n
    · have hd := World.rowIs.cell H.out (i := j) (by rw [marks_len]; exact hlt)
      rw [marks_get n hlt] at hd
      go_wp2
      go_round
      case rel => exact ⟨j + 1, by omega, by go_num, by go_num⟩
      case measure => simp [intOf]; omega
    · go_wp2
      go_ret
      exact ⟨ret_int (by omega), rfl⟩

theorem leqN (n : Nat) (a b : Option Addr) (ca cb : Nat) (zs : List Int) (w : World) (hl : zs.length = n) (ha : IsInts w a zs) (hb : IsInts w b zs) (hn : zs.length ≤ 1048576) :
    Calls Try.prog 21 #[.slice a n ca, .slice b n cb] w fun e w' => e = .returned (.bool true) ∧ Below w.heap.size w w' := by
  subst hl; exact leqIntS a b ca cb zs w ha hb hn
theorem lmarkN (n g cap : Nat) (zs : List Int) (w : World) (hl : zs.length = n) (h : Row w g zs) (hn : zs.length ≤ 1048576) :
    Calls Try.prog 23 #[.slice (some ⟨g, 0, none⟩) n cap, .int .i64 1] w (Marked w g n) := by
  subst hl; exact lmark g cap zs w h hn
theorem row_apart {w w' : World} {g g' : Nat} {zs : List Int} (h : Row w g zs) (hG : w.grownBy w' (some g')) (hne : g ≠ g') : Row w' g zs :=
  World.rowIs.of_block h (hG.block g (World.rowIs.lt h) (fun e => by injection e with e; exact hne e))
end Go.Proofs.Ytfdgaobdlibfpaa
