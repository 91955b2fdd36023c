/- The fractions that the laws of texts draw. Condition: the code is a slice of bytes. -/
import Derived.Test.YthmengblppdggabDrawF
import Derived.Test.YthmengblppdggabParS
namespace Go.Proofs.Ythmengblppdggab
open Go.RowKit

def DrawnF (w : World) (e : Ending) (w' : World) : Prop := ∃ x y : Int, e = .returned (.agg #[.int .i64 x, .int .i64 y]) ∧ Below w.heap.size w w'
set_option maxHeartbeats 1000000 in
theorem drawFmt (a : Option Addr) (len cap : Nat) (zs : List Int) (w : World) (h : IsRow .u8 w a len cap zs) :
    Calls Try.prog 7 #[.slice a len cap] w (DrawnF w) := by
  go_enter Try.func7, Try.ntmps7
  go_wp2_with fail
  refine (newReader_any a len cap zs _ (row_below h (by go_grown))).mono ?_
  rintro e w1 ⟨rfl, hR, hB, hb⟩
  have k1 := c2_below (c2_new w (.int .i64 0) (.int .i64 0) _) hB
  have hB1 : Below w.heap.size w w1 := bel_tr (by go_grown) hB
  simp only [World.size_alloc] at hR hb
  clear hB h
  go_wp2_with fail
  refine (anyFrac_any _ 0 _ hR (by omega) hb).mono ?_
  rintro e w2 ⟨x, y, rfl, x0, x1, y0, y1, hR2, hG2⟩
  obtain ⟨c0, c1, f0, f1, hz⟩ := c2_grown k1 hG2 (by omega)
  have hB2 := below_grown hB1 hG2 (by omega)
  clear hG2 hR2 hR k1
  go_wp2_with fail
  refine bodyPost_ret (v := .agg #[.int .i64 x, .int .i64 y]) (by simp [results, Try.results7, go_sem, c0, c1]) rfl ⟨_, _, rfl, by go_grown⟩
/-- equalFrac of a fraction and itself -/
theorem leqF (n d : Int) (w : World) :
    Calls Try.prog 13 #[.agg #[.int .i64 n, .int .i64 d], .agg #[.int .i64 n, .int .i64 d]] w fun e w' => e = .returned (.bool true) ∧ Below w.heap.size w w' := by
  go_enter Try.func13, Try.ntmps13
  go_wp2
  go_ret
  exact ⟨rfl, by go_grown⟩
theorem fm_empty {n d : Int} (h : Wsh.vfB n d = false) : (fmF n d).toList.isEmpty = true := by rw [fm_no h, ByteArray.toList_eq]; rfl
theorem fm_some {n d : Int} (h : Wsh.vfB n d = true) : (fmF n d).toList.isEmpty = false := by
  rw [fm_yes h, ByteArray.toList_eq, frT_list, List.isEmpty_eq_false_iff]
  exact List.append_ne_nil_of_right_ne_nil _ (by simp)
theorem fm_size {n d : Int} (h : Wsh.vfB n d = true) : (fmF n d).size ≤ 4294967296 := by
  rw [fm_yes h, frT_size]
  have := (Wsh.vfB_iff n d).1 h
  have a := dec_len19 (m := n.toNat) (by omega)
  have b := dec_len19 (m := d.toNat) (by omega)
  omega
theorem fm_read {n d : Int} (h : Wsh.vfB n d = true) : pok (fmF n d) = true ∧ pnum (fmF n d) = n ∧ pden (fmF n d) = d := by rw [fm_yes h]; exact fr_read h
end Go.Proofs.Ythmengblppdggab
