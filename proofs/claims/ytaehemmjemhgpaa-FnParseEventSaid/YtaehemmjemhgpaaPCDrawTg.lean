/- The texts of events that the laws draw. No condition. -/
import Derived.Test.YtaehemmjemhgpaaPCDrawTa
import Derived.Test.YtaehemmjemhgpaaPCG2
import Derived.Test.YtaehemmjemhgpaaPCG5
set_option maxRecDepth 100000
set_option maxHeartbeats 16000000
namespace Go.Proofs.Ytaehemmjemhgpaa
open Go.RowKit
set_option linter.unusedSimpArgs false
set_option linter.unusedVariables false
def DrawnTx (w : World) (e : Ending) (w' : World) : Prop := ∃ s : ByteArray, e = .returned (.string s) ∧ s.size ≤ 50001 ∧ Below w.heap.size w w'
theorem fm_600 (x : Ev) : (fmE x).size ≤ 600 := by
 have := evT_len x
 show (txt (evT x)).size ≤ 600
 have e : (txt (evT x)).size = (evT x).length := by unfold txt; simp [ByteArray.size]
 omega
theorem drawPE (a : Option Addr) (len cap : Nat) (zs : List Int) (w : World) (h : IsRow .u8 w a len cap zs) :
  Calls Try.prog 36 #[.slice a len cap] w (DrawnTx w) := by
 go_enter Try.func36, Try.ntmps36; go_wp2_with fail; refine (newReader_any a len cap zs _ h).mono ?_; rintro e W1 ⟨rfl, R1, B1, hb1⟩; clear h
 obtain ⟨b, hbb⟩ : ∃ b, b = w.heap.size := ⟨_, rfl⟩
 rw [← hbb] at R1 hb1 ⊢
 have lb : w.heap.size ≤ b := by omega
 clear hbb; go_wp2_with fail; refine (someTw b _ W1 R1 (by omega) hb1).mono ?_; rintro e V ⟨q, u, rfl, hv, hO, R2, hG⟩; have B2 := B1.grown hG B1.size (fun q_ hq => by injection hq with hq; omega); have hb2 := Nat.lt_of_lt_of_le hb1 hG.size; clear R1 B1 hG hv; go_wp2_with fail; refine (someEv b _ q u W1.heap.size V R2 (by omega) hb2 hO hb1).mono ?_; rintro e X ⟨A, cz, x, rfl, z4, zc, zI, zab, R3, hG⟩; have B3 := B2.grown hG B2.size (fun q_ hq => by injection hq with hq; omega); have hb3 := Nat.lt_of_lt_of_le hb2 hG.size; clear R2 B2 hG hO zab zc; go_wp2_with fail; refine (sshowE A cz x X zI).mono ?_; rintro e Y ⟨rfl, C⟩; have R4 := jz3 R3 hb3 C; have B4 := jq2 B3 C; have hb4 := Nat.lt_of_lt_of_le hb3 C.size; have hsz := fm_600 x; generalize fmE x = s at *; clear R3 B3 C zI z4; go_wp2_with fail; refine (jx2 b _ 3 _ R4 (by omega)).mono ?_; rintro e Z ⟨m, rfl, hm, R5, hG⟩; have B5 := B4.grown hG B4.size (fun q_ hq => by injection hq with hq; omega); have hb5 := Nat.lt_of_lt_of_le hb4 hG.size; clear R4 B4 hG
 by_cases m0 : m = 0
 ·have e0 : ((m : Int) == 0) = true := by simp [m0]
  clear m0 hm; go_wp2_with fail; refine (smutate b _ s Z R5 (by omega) hb5 (by omega)).mono ?_; rintro e Z2 ⟨s2, rfl, hs2, R6, hG⟩; have B6 := B5.grown hG B5.size (fun q_ hq => by injection hq with hq; omega); clear R5 R6 hG B5; go_wp2_with fail; go_ret; exact ⟨s2, rfl, by omega, B6⟩
 ·have e0 : ((m : Int) == 0) = false := by simp; omega
  clear m0 hm; go_wp2_with fail; go_ret; exact ⟨s, rfl, by omega, B5⟩
end Go.Proofs.Ytaehemmjemhgpaa
