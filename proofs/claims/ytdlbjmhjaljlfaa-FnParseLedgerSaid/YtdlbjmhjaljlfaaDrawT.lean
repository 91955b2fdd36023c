/- The fractions that the laws of texts draw. Condition: the code is a slice of bytes. -/
import Derived.Test.YtdlbjmhjaljlfaaDrawF
import Derived.Test.YtdlbjmhjaljlfaaParS
namespace Go.Proofs.Ytdlbjmhjaljlfaa
open Go.RowKit

def DrawnF (w : World) (e : Ending) (w' : World) : Prop := ∃ x y : Int, e = .returned (.agg #[.int .i64 x, .int .i64 y]) ∧ Below w.heap.size w w'
theorem fm_empty {n d : Int} (h : Wsh.vfB n d = false) : (fmF n d).toList.isEmpty = true := by rw [fm_no h, ByteArray.toList_eq]; rfl
theorem fm_some {n d : Int} (h : Wsh.vfB n d = true) : (fmF n d).toList.isEmpty = false := by
  rw [fm_yes h, ByteArray.toList_eq, frT_list, List.isEmpty_eq_false_iff]
  exact List.append_ne_nil_of_right_ne_nil _ (by simp)
theorem fm_size {n d : Int} (h : Wsh.vfB n d = true) : (fmF n d).size ≤ 4294967296 := by
  rw [fm_yes h, frT_size]
  have := (Wsh.vfB_iff n d).1 h
  have a := dec_len19 (m := n.toNat) (by omega)
  have b := dec_len19 (m := d.toNat) (by omega)
  omega
theorem fm_read {n d : Int} (h : Wsh.vfB n d = true) : pok (fmF n d) = true ∧ pnum (fmF n d) = n ∧ pden (fmF n d) = d := by rw [fm_yes h]; exact fr_read h
end Go.Proofs.Ytdlbjmhjaljlfaa
