/- Marks in numbers from any number on. Condition: at most 1048576 numbers. -/
import Derived.Test.YtfdgaobdlibfpaaMarks
namespace Go.Proofs.Ytfdgaobdlibfpaa
open Go.RowKit
set_option linter.unusedSimpArgs false

set_option maxHeartbeats 1000000 in
theorem lmarkS (g cap : Nat) (zs : List Int) (w : World) (s : Int) (h : Row w g zs) (hn : zs.length ≤ 1048576) (hs0 : 0 ≤ s) (hs1 : s ≤ 1000000000000) :
    Calls Try.prog 23 #[.slice (some ⟨g, 0, none⟩) zs.length cap, .int .i64 s] w fun e w' => e = .returned (.int .i64 (s + (zs.length : Int))) ∧ w.grownBy w' (some g) := by
  have H := Lib.hid h
  clear h
  go_enter Try.func23, Try.ntmps23
  go_wp2
  go_loopw [1, 5] (fun k i wr => ∃ j : Nat, j ≤ zs.length ∧ i = .int .i64 j ∧ k = .int .i64 (s + (j : Int)) ∧ (∃ f : Nat → Value, wr.rowIs g 3 zs.length f ∧ (∀ i, ∃ z : Int, f i = .int .i64 z)) ∧ w.grownBy wr (some g)) (fun _ i _ => zs.length - (intOf i).toNat)
  case atStart => exact ⟨0, Nat.zero_le _, rfl, by simp, ⟨_, H.out, fun i => ⟨_, rfl⟩⟩, g_below (Below.refl _ _) _⟩
  case round =>
    obtain ⟨j, hj, rfl, rfl, ⟨f, hrow, hfz⟩, hG⟩ := hrel
    by_cases hlt : j < zs.length
    · have hd := hrow.cell hlt
      obtain ⟨z, hz⟩ := hfz j
      rw [hz] at hd
      have hf := hrow.frozen j
      have hcon : (wr.setCell ⟨g, j, none⟩ (.int .i64 (s + (j : Int)))).rowIs g 3 zs.length (fun i => if i = j then .int .i64 (s + (j : Int)) else f i) :=
        hrow.set j (.int .i64 (s + (j : Int)))
      have hfz2 : ∀ i, ∃ z : Int, (fun i => if i = j then Value.int .i64 (s + (j : Int)) else f i) i = .int .i64 z := fun i => by
        by_cases e : i = j
        · exact ⟨_, if_pos e⟩
        · obtain ⟨z, hz⟩ := hfz i; exact ⟨z, (if_neg e).trans hz⟩
      have HR := Lib.hid hcon
      have HG := Lib.hid hG
      have HF := Lib.hid hfz2
      clear hcon hrow hG hfz hfz2 hz
      go_wp2
      go_roundw
      case rel => exact ⟨j + 1, by omega, by go_num, by go_num, ⟨_, HR.out, HF.out⟩, g_set HG.out (.inl rfl) _⟩
      case measure => simp [intOf]; omega
    · have HG := Lib.hid hG
      clear hrow hG hfz
      go_wp2
      go_ret
      exact ⟨ret_int (by omega), HG.out⟩
end Go.Proofs.Ytfdgaobdlibfpaa
