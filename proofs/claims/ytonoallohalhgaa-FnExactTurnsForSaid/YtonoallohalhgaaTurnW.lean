/- The program's answers on rotations. Condition: at most 1048576 turns. -/
import Derived.Test.YtonoallohalhgaaTurnV
namespace Go.Proofs.Ytonoallohalhgaa
open Go.RowKit
set_option linter.unusedSimpArgs false
set_option linter.unusedVariables false

theorem iownersN (a : Option Addr) (cap : Nat) (ts : List Tn) (w : World) (h : IsTn w a ts) (hv : vtB ts = true) (N : Nat) (hN : (sumT ts).toNat = N) :
    Calls Try.prog 54 #[.slice a ts.length cap] w fun e w' => ∃ g : Nat, e = .returned (.slice (some ⟨g, 0, none⟩) N N) ∧ Row w' g (ownT ts) ∧ Below w.heap.size w w' := by
  refine (iowners a cap ts w h hv).mono ?_
  rintro e w1 ⟨g, rfl, _, R, C⟩
  rw [hN]
  exact ⟨g, rfl, R, C⟩
theorem who_cell {w : World} {g N : Nat} {ts : List Tn} (R : Row w g (ownT ts)) (hN : (sumT ts).toNat = N) (h1 : 1 ≤ sumT ts) {a : Int} (ha : 0 ≤ a) : ∃ q : Nat, a % (N : Int) = (q : Int) ∧ q < N ∧ w.cell? ⟨g, q, none⟩ = some (.int .i64 (whoM ts a)) := by
  have e : (N : Int) = sumT ts := by omega
  have r0 := Int.emod_nonneg a (show (N : Int) ≠ 0 by omega)
  have r1 := Int.emod_lt_of_pos a (show 0 < (N : Int) by omega)
  obtain ⟨q, hq⟩ : ∃ q : Nat, a % (N : Int) = (q : Int) := ⟨_, (Int.toNat_of_nonneg r0).symm⟩
  have hqN : q < N := by omega
  refine ⟨q, hq, hqN, ?_⟩
  have := World.rowIs.cell R (i := q) (by rw [ownT_len, hN]; exact hqN)
  rw [ownT_get ts (by rw [hN]; exact hqN)] at this
  rw [this]
  unfold whoM
  rw [← e, hq]

set_option maxHeartbeats 1000000 in
theorem iPeriodOf (a : Option Addr) (cap : Nat) (ts : List Tn) (w : World) (h : IsTn w a ts) (hn : ts.length ≤ 1048576) (hc : ts.length ≤ cap) :
    Calls Try.prog 18 #[.slice a ts.length cap] w fun e w' => e = .returned (.int .i64 (perV ts)) ∧ Below w.heap.size w w' := by
  have IV := iVT a cap ts w h hn
  have H := Lib.hid h
  cases hv : vtB ts with
  | false =>
    have HP : Hid (perV ts = -1) := by show perV ts = -1; unfold perV; rw [hv]; rfl
    rw [hv] at IV
    clear hv h
    go_enter Try.func18, Try.ntmps18
    go_wp2_with fail
    refine IV.mono ?_
    rintro e w1 ⟨rfl, C⟩
    go_wp2_with fail
    go_ret
    exact ⟨ret_int HP.out.symm, C⟩
  | true =>
    have HP : Hid (perV ts = sumT ts) := by show perV ts = sumT ts; unfold perV; rw [hv]; rfl
    have HO := Lib.hid (vt_is hv).2.2.1
    rw [hv] at IV
    clear hv h
    go_enter Try.func18, Try.ntmps18
    go_wp2_with fail
    refine IV.mono ?_
    rintro e w1 ⟨rfl, C⟩
    have HC := Lib.hid C
    clear C
    go_wp2_with fail
    refine (ihours a cap ts _ (tn_below H.out HC.out) hn (vt_hz HO.out)).mono ?_
    rintro e w2 ⟨rfl, D⟩
    go_wp2_with fail
    go_ret
    exact ⟨ret_int HP.out.symm, bel_tr HC.out D⟩

end Go.Proofs.Ytonoallohalhgaa
