/- The program's answers on rotations. Condition: at most 1048576 turns. -/
import Derived.Test.YtgmmdpdlekpmfaaTurnV
namespace Go.Proofs.Ytgmmdpdlekpmfaa
open Go.RowKit
set_option linter.unusedSimpArgs false
set_option linter.unusedVariables false

theorem iownersN (a : Option Addr) (cap : Nat) (ts : List Tn) (w : World) (h : IsTn w a ts) (hv : vtB ts = true) (N : Nat) (hN : (sumT ts).toNat = N) :
    Calls Try.prog 76 #[.slice a ts.length cap] w fun e w' => ∃ g : Nat, e = .returned (.slice (some ⟨g, 0, none⟩) N N) ∧ Row w' g (ownT ts) ∧ Below w.heap.size w w' := by
  refine (iowners a cap ts w h hv).mono ?_
  rintro e w1 ⟨g, rfl, _, R, C⟩
  rw [hN]
  exact ⟨g, rfl, R, C⟩
theorem who_cell {w : World} {g N : Nat} {ts : List Tn} (R : Row w g (ownT ts)) (hN : (sumT ts).toNat = N) (h1 : 1 ≤ sumT ts) {a : Int} (ha : 0 ≤ a) : ∃ q : Nat, a % (N : Int) = (q : Int) ∧ q < N ∧ w.cell? ⟨g, q, none⟩ = some (.int .i64 (whoM ts a)) := by
  have e : (N : Int) = sumT ts := by omega
  have r0 := Int.emod_nonneg a (show (N : Int) ≠ 0 by omega)
  have r1 := Int.emod_lt_of_pos a (show 0 < (N : Int) by omega)
  obtain ⟨q, hq⟩ : ∃ q : Nat, a % (N : Int) = (q : Int) := ⟨_, (Int.toNat_of_nonneg r0).symm⟩
  have hqN : q < N := by omega
  refine ⟨q, hq, hqN, ?_⟩
  have := World.rowIs.cell R (i := q) (by rw [ownT_len, hN]; exact hqN)
  rw [ownT_get ts (by rw [hN]; exact hqN)] at this
  rw [this]
  unfold whoM
  rw [← e, hq]

end Go.Proofs.Ytgmmdpdlekpmfaa
