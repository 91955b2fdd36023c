/- Suspects (pure), and the law's own test of lists. Condition: at most 1048576 numbers. -/
import Derived.Test.YtigapnbpgbfbhaaMeaQ
import Derived.Test.YtigapnbpgbfbhaaLawIn
namespace Go.Proofs.Ytigapnbpgbfbhaa
open Go.RowKit
set_option linter.unusedSimpArgs false
set_option linter.unusedVariables false
theorem susV_is {ns : List Nd} {ms : List Int} {s : Int} (h0 : 0 ≤ s) (h1 : s ≤ 500) : susV ns ms s = susTo (misV ns ms) s (misV ns ms).length := by
  cases h : vmB ns ms with
  | false =>
    rw [susV_no (show vsB ns ms s = false from by unfold vsB; rw [h]; rfl), misV_no h]; rfl
  | true => rw [susV_yes (vs_yes h h0 h1), misV_yes h, misF_len]
theorem susTo_less {zs : List Int} {s : Int} (k : Nat) : ∀ z ∈ susTo zs (s + 1) k, z ∈ susTo zs s k := fun z hz => by
  obtain ⟨j, a, b, c⟩ := (susTo_mem zs (s + 1) k z).1 hz
  exact (susTo_mem zs s k z).2 ⟨j, a, b, by omega⟩
theorem susTo_in {zs : List Int} {s : Int} {i : Nat} (h : i < zs.length) : (i : Int) ∈ susTo zs s zs.length ↔ s < zs.getD i 0 := by
  rw [susTo_mem]
  constructor
  · rintro ⟨j, a, _, c⟩
    have : j = i := by omega
    subst this; exact c
  · intro c; exact ⟨i, rfl, h, c⟩
set_option maxRecDepth 100000 in
set_option maxHeartbeats 8000000 in
theorem lwithin (a b : Option Addr) (ca cb : Nat) (zs ys : List Int) (w : World) (ha : IsInts w a zs) (hb : IsInts w b ys) (hz : zs.length ≤ 1048576) (hy : ys.length ≤ 1048576) (h : ∀ z ∈ zs, z ∈ ys) :
    Calls Try.prog 39 #[.slice a zs.length ca, .slice b ys.length cb] w fun e w' => e = .returned (.bool true) ∧ w = w' := by
  have HL := Lib.hid (fun (n : Int) => lisIn b cb ys n w hb hy)
  rcases ha with rfl | ⟨g, o, rfl, hc⟩
  · go_enter Try.func39, Try.ntmps39
    go_wp2
    go_rounds 1
    go_ret
    exact ⟨rfl, rfl⟩
  have HC := Lib.hid hc
  have HI := Lib.hid h
  clear hc h hb
  go_enter Try.func39, Try.ntmps39
  go_wp2_with fail
  go_loopw [5] (fun i wr => ∃ k : Nat, k ≤ zs.length ∧ i = .int .i64 k ∧ wr = w) (fun i _ => zs.length - (intOf i).toNat)
  case atStart => exact ⟨0, Nat.zero_le _, rfl, rfl⟩
  case round =>
    obtain ⟨k, hk, rfl, rfl⟩ := hrel
    by_cases hlt : k < zs.length
    · have c1 := HC.out k hlt
      have CL := HL.out (zs.getD k 0)
      have hm := HI.out _ (getD_mem hlt)
      rw [decide_eq_true hm] at CL
      have k0 : (0 : Int) ≤ (k : Int) := by omega
      have k1 : (k : Int) < (zs.length : Int) := by omega
      clear hm
      generalize zs.getD k 0 = z at c1 CL
      go_wp2_with fail
      refine CL.mono ?_
      rintro e w' ⟨rfl, rfl⟩
      go_wp2_with fail
      go_roundw
      case rel => exact ⟨k + 1, by omega, by go_num, by trivial⟩
      case measure => simp [intOf]; omega
    · go_wp2_with fail
      go_ret
      exact ⟨rfl, rfl⟩
end Go.Proofs.Ytigapnbpgbfbhaa
