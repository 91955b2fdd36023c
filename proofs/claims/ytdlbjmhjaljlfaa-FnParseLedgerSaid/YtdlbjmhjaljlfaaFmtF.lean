/- FormatFrac, impl's and spec's. No condition but those stated. -/
import Derived.Test.YtdlbjmhjaljlfaaTextS
import Derived.Test.YtdlbjmhjaljlfaaValid
import Derived.Deep.RegionHeld3
namespace Go.Proofs.Ytdlbjmhjaljlfaa
open Go.RowKit

theorem idecI (n : Int) (w : World) (h0 : 0 ≤ n) (h : n ≤ 1000000000000000) :
    Calls Try.prog 68 #[.int .i64 n] w fun e w' => e = .returned (.string (txt (decL n.toNat))) ∧ w = w' := by
  obtain ⟨m, rfl⟩ := Int.eq_ofNat_of_zero_le h0
  exact idec m w (by omega)
theorem snumI (n : Int) (w : World) (h0 : 0 ≤ n) (h : n ≤ 1000000000000000) :
    Calls Try.prog 105 #[.int .i64 n] w fun e w' => e = .returned (.string (txt (decL n.toNat))) ∧ w = w' :=
  snum n.toNat n.toNat n w (by omega) (Nat.le_refl _) (by omega)
theorem add_slash (a : List UInt8) (w : World) (h : a.length ≤ 1000) : (Op.stringOp .add (txt a) ({ data := #[47] } : ByteArray)).run Try.prog w = .ok (.string (txt (a ++ [47]))) w := add_txt a [47] w (by simp; omega)
/-- the text of a fraction, "" if it is not valid -/
def fmF (n d : Int) : ByteArray := if Wsh.vfB n d then frT n d else { data := #[] }
theorem fm_yes {n d : Int} (h : Wsh.vfB n d = true) : fmF n d = frT n d := by unfold fmF; rw [h]; rfl
theorem fm_no {n d : Int} (h : Wsh.vfB n d = false) : fmF n d = { data := #[] } := by unfold fmF; rw [h]; rfl
set_option maxHeartbeats 1000000 in
/-- impl.FormatFrac -/
theorem iFmt (n d : Int) (w : World) :
    Calls Try.prog 69 #[.agg #[.int .i64 n, .int .i64 d]] w fun e w' => e = .returned (.string (fmF n d)) ∧ Below w.heap.size w w' := by
  cases hv : Wsh.vfB n d with
  | false =>
    have HX := Lib.hid (fm_no hv)
    go_enter Try.func69, Try.ntmps69
    go_wp2_with fail
    refine (iValid n d _).mono ?_
    rintro e w1 ⟨rfl, hB⟩
    have hB1 : Below w.heap.size w w1 := bel_tr (by go_grown) hB
    rw [hv]
    go_wp2_with fail
    go_ret
    exact ⟨ret_str HX.out.symm, hB1⟩
  | true =>
    have HX := Lib.hid (fm_yes hv)
    obtain ⟨k1, k2, k3, k4, k5⟩ := (Wsh.vfB_iff _ _).1 hv
    clear k5
    have l1 := dec_len19 (m := n.toNat) (by omega)
    have l2 := dec_len19 (m := d.toNat) (by omega)
    have a1 := fun w => add_slash (decL n.toNat) w (by omega)
    have a2 := fun w => add_txt (decL n.toNat ++ [47]) (decL d.toNat) w (by simp; omega)
    go_enter Try.func69, Try.ntmps69
    go_wp2_with fail
    refine (iValid n d _).mono ?_
    rintro e w1 ⟨rfl, hB⟩
    obtain ⟨hc, hf⟩ := bcell hB
    have c0 := hc w.heap.size 0 (by simp)
    have c1 := hc w.heap.size 1 (by simp)
    simp [go_sem] at c0 c1
    have hB1 : Below w.heap.size w w1 := bel_tr (by go_grown) hB
    clear hc hf hB
    have KN := Lib.hid (fun j : Nat => Calls.quiet_of_same (w := w1) (n := j) ((idecI n _ (by omega) (by omega)).mono (fun _ _ h => ⟨h.1, h.2.symm⟩)))
    have KD := Lib.hid (fun j : Nat => Calls.quiet_of_same (w := w1) (n := j) ((idecI d _ (by omega) (by omega)).mono (fun _ _ h => ⟨h.1, h.2.symm⟩)))
    rw [hv]
    go_wp2_with fail
    go_quiet (first | (go_at_call_of 68 (Value.int .i64 n); exact KN.out _) | (go_at_call_of 68 (Value.int .i64 d); exact KD.out _))
    go_wp2
    go_ret
    exact ⟨ret_str (by rw [HX.out]; rfl), below_drewN hB1 _⟩
set_option maxHeartbeats 1000000 in
/-- spec.showFrac -/
theorem sshow (n d : Int) (w : World) (h : 0 ≤ n ∧ n ≤ 1000000000000000) (h2 : 0 ≤ d ∧ d ≤ 1000000000000000) :
    Calls Try.prog 106 #[.agg #[.int .i64 n, .int .i64 d]] w fun e w' => e = .returned (.string (frT n d)) ∧ Below w.heap.size w w' := by
  have l1 := dec_len19 (m := n.toNat) (by omega)
  have l2 := dec_len19 (m := d.toNat) (by omega)
  have a1 := fun w => add_slash (decL n.toNat) w (by omega)
  have a2 := fun w => add_txt (decL n.toNat ++ [47]) (decL d.toNat) w (by simp; omega)
  go_enter Try.func106, Try.ntmps106
  have KN := Lib.hid (fun j : Nat => Calls.quiet_of_same (w := (w.alloc (.cells #[.int .i64 n, .int .i64 d] 36))) (n := j) ((snumI n _ (by omega) (by omega)).mono (fun _ _ h => ⟨h.1, h.2.symm⟩)))
  have KD := Lib.hid (fun j : Nat => Calls.quiet_of_same (w := (w.alloc (.cells #[.int .i64 n, .int .i64 d] 36))) (n := j) ((snumI d _ (by omega) (by omega)).mono (fun _ _ h => ⟨h.1, h.2.symm⟩)))
  go_wp2_with fail
  go_quiet (first | (go_at_call_of 105 (Value.int .i64 n); exact KN.out _) | (go_at_call_of 105 (Value.int .i64 d); exact KD.out _))
  go_wp2
  go_ret
  exact ⟨ret_str rfl, below_drewN (by go_grown) _⟩
end Go.Proofs.Ytdlbjmhjaljlfaa
