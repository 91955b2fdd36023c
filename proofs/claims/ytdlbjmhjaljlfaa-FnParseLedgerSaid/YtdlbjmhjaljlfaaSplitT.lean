/- Texts cut at a byte: spec.splitAt. Condition: a text of at most 4294967296 bytes. -/
import Derived.Test.YtdlbjmhjaljlfaaParI
import Derived.Laws.AppendOwn
import Derived.OwnWalk
import Derived.OpenShut
import Derived.Deep.AppendLies
import Derived.Deep.OwnRows
namespace Go.Proofs.Ytdlbjmhjaljlfaa
open Go.RowKit

theorem infoStr : (Try.prog.info? 9).map (fun i => (i.zero, i.size, i.bytes)) = some (some (.string { data := #[] }), 1, 16) := by kernel_rfl
/-- what splitAt leaves -/
def Splat (w : World) (c : Int) (s : ByteArray) (e : Ending) (w' : World) : Prop := ∃ v, e = .returned v ∧ w'.ownsRow w.heap.size 9 1 v (cutS c s).length ((cutS c s).map Value.string) ∧ Below w.heap.size w w'
set_option maxHeartbeats 2000000 in
theorem ssplit (s : ByteArray) (c : Int) (w : World) (h : s.size ≤ 4294967296) :
    Calls Try.prog 75 #[.string s, .int .u8 c] w (Splat w c s) := by
  have hb := get_bt s
  obtain ⟨i0, hi, hz0, hz1, hz2⟩ := info_parts infoStr
  go_enter Try.func75, Try.ntmps75
  go_wp2_with fail
  go_loopw [5, 6, 7] (fun v f i wr => ∃ k : Nat, k ≤ s.size ∧ i = .int .i64 k ∧ f = .int .i64 ((cutTo c s k).2 : Int) ∧ wr.ownsRow w.heap.size 9 1 v (cutTo c s k).1.length ((cutTo c s k).1.map Value.string) ∧ Below w.heap.size w wr) (fun _ _ i _ => s.size - (intOf i).toNat)
  case atStart => exact ⟨0, Nat.zero_le _, rfl, rfl, ⟨by simp [cutTo], .inr ⟨w.heap.size, 0, #[], rfl, Nat.le_refl _, Go.Deep.blk_alloc_new _ _, Nat.le_refl _, by unfold maxLen; omega, rfl, rfl⟩⟩, by go_grown⟩
  case round =>
    obtain ⟨k, hk, rfl, rfl, hown, hB⟩ := hrel
    have hsz := hB.size
    obtain ⟨y1, y2⟩ := cutTo_bd c s k
    by_cases hlt : k < s.size
    · by_cases hc : bt s k = c
      · have HC := Lib.hid (cutTo_hit hc)
        have ec : (bt s k == c) = true := by rw [beq_iff_eq]; exact hc
        clear hc
        generalize cutTo c s k = p at *
        obtain ⟨L, f⟩ := p
        simp only at y1 y2 hown HC
        generalize hn : L.length = n at *
        go_wp2_with (first | (at_builtin; refine wpList_append_own _ rfl _ _ 95 rfl w.heap.size 9 i0 (.string { data := #[] }) 1 16 Try.underlying95 hi hz0 hz1 hz2 rfl (by decide) _ _ _ rfl (hown.alloc _) ⟨wr.heap.size, 0, none⟩ 1 1 [.string (s.extract f k)] rfl rfl (cell_one_new _ _ _) (fun x hx => by simp at hx; subst hx; rfl) (by unfold maxLen; omega) (by omega) (by simp; omega) ?_; intro v' w3 hown' hgrow3 hnil3))
        have HR : Hid (w3.ownsRow w.heap.size 9 1 v' (n + 1) ((L ++ [s.extract f k]).map Value.string) ∧ Below w.heap.size w w3) := ⟨by rw [List.map_append]; exact hown', (hB.alloc hsz _).grown hgrow3 (by simp; omega) (fun q hq => (hown.lt q hq).1)⟩
        clear hown hown' hgrow3 hnil3 hB
        go_roundw
        case rel =>
          refine ⟨k + 1, by omega, by go_num, by rw [HC.out]; go_num, ?_, HR.out.2⟩
          rw [HC.out]
          show w3.ownsRow _ _ 1 v' (L ++ [s.extract f k]).length _
          rw [List.length_append, hn]; exact HR.out.1
        case measure => simp [intOf]; omega
      · have HC := Lib.hid (cutTo_miss hc)
        have ec : (bt s k == c) = false := by rw [beq_eq_false_iff_ne]; exact hc
        clear hc
        go_wp2_with fail
        go_roundw
        case rel => exact ⟨k + 1, by omega, by go_num, by rw [HC.out], by rw [HC.out]; exact hown, hB⟩
        case measure => simp [intOf]; omega
    · have e : k = s.size := by omega
      subst e
      have HF : Hid (cutS c s = (cutTo c s s.size).1 ++ [s.extract (cutTo c s s.size).2 s.size]) := Lib.hid rfl
      generalize cutTo c s s.size = p at *
      obtain ⟨L, f⟩ := p
      simp only at y1 y2 hown HF
      generalize hn : L.length = n at *
      go_wp2_with (first | (at_builtin; refine wpList_append_own _ rfl _ _ 95 rfl w.heap.size 9 i0 (.string { data := #[] }) 1 16 Try.underlying95 hi hz0 hz1 hz2 rfl (by decide) _ _ _ rfl (hown.alloc _) ⟨wr.heap.size, 0, none⟩ 1 1 [.string (s.extract f s.size)] rfl rfl (cell_one_new _ _ _) (fun x hx => by simp at hx; subst hx; rfl) (by unfold maxLen; omega) (by omega) (by simp; omega) ?_; intro v' w3 hown' hgrow3 hnil3))
      have HR : Hid (w3.ownsRow w.heap.size 9 1 v' (n + 1) ((L ++ [s.extract f s.size]).map Value.string) ∧ Below w.heap.size w w3) := ⟨by rw [List.map_append]; exact hown', (hB.alloc hsz _).grown hgrow3 (by simp; omega) (fun q hq => (hown.lt q hq).1)⟩
      clear hown hown' hgrow3 hnil3 hB
      go_ret
      refine ⟨v', rfl, ?_, HR.out.2⟩
      rw [HF.out, List.length_append, hn]; exact HR.out.1
end Go.Proofs.Ytdlbjmhjaljlfaa
