/- The best turn that is left, by both packages. Conditions: the wishes are a list of the traders, as many turns got as traders. -/
import Derived.Test.YtdlbjmhjaljlfabTrd
import Derived.Test.YtdlbjmhjaljlfabWishS
import Derived.Test.YtdlbjmhjaljlfabOwnInts
import Derived.Test.YtdlbjmhjaljlfabRowSS
namespace Go.Proofs.Ytdlbjmhjaljlfab
open Go.RowKit
set_option linter.unusedSimpArgs false
set_option linter.unusedVariables false
theorem favL_ge {got : List Int} {d : Int} : ∀ (r : List Int), (∀ j, j < r.length → got.getD (r.getD j 0).toNat 0 ≠ -1) → favL got d r = d := by
  intro r
  induction r with
  | nil => intro _; rfl
  | cons z t ih =>
    intro h
    have h0 : got.getD z.toNat 0 ≠ -1 := h 0 (by simp)
    show (if got.getD z.toNat 0 = -1 then z else favL got d t) = d
    rw [if_neg h0]
    exact ih (fun j hj => h (j + 1) (by simpa using hj))
set_option maxHeartbeats 2000000 in
theorem iBest (A B : Option Addr) (ca cb : Nat) (r got : List Int) (d : Int) (w : World) (hA : IsInts w A r) (hB : IsInts w B got) (hr : ∀ z ∈ r, 0 ≤ z ∧ z < (got.length : Int)) (hn : r.length ≤ 1048576) :
    Calls Try.prog 75 #[.slice A r.length ca, .slice B got.length cb, .int .i64 d] w fun e w' => e = .returned (.int .i64 (favL got d r)) ∧ w = w' := by
  have HA := Lib.hid hA
  have HB := Lib.hid hB
  have HR := Lib.hid hr
  clear hA hB hr
  go_enter Try.func75, Try.ntmps75
  go_wp2_with fail
  go_loopw [11] (fun i wr => ∃ k : Nat, k ≤ r.length ∧ i = .int .i64 k ∧ Hid (∀ j, j < k → got.getD (r.getD j 0).toNat 0 ≠ -1) ∧ wr = w) (fun i _ => r.length - (intOf i).toNat)
  case atStart => exact ⟨0, Nat.zero_le _, rfl, (fun j hj => absurd hj (Nat.not_lt_zero _)), rfl⟩
  case round =>
    obtain ⟨k, hk, rfl, hno, rfl⟩ := hrel
    by_cases hlt : k < r.length
    · have hz := HR.out _ (nth_mem hlt)
      obtain ⟨z, hzz⟩ : ∃ z : Nat, r.getD k 0 = (z : Int) := ⟨(r.getD k 0).toNat, by omega⟩
      have hzl : z < got.length := by omega
      have c1 : ∃ g o, A = some ⟨g, o, none⟩ ∧ wr.cell? ⟨g, o + k, none⟩ = some (.int .i64 (z : Int)) := by
        rcases HA.out with rfl | ⟨g, o, rfl, hc⟩
        · simp at hlt
        · exact ⟨g, o, rfl, by rw [hc k hlt, hzz]⟩
      have c2 : ∃ g o, B = some ⟨g, o, none⟩ ∧ wr.cell? ⟨g, o + z, none⟩ = some (.int .i64 (got.getD z 0)) := by
        rcases HB.out with rfl | ⟨g, o, rfl, hc⟩
        · simp at hzl
        · exact ⟨g, o, rfl, hc z hzl⟩
      obtain ⟨g1, o1, rfl, c1⟩ := c1
      obtain ⟨g2, o2, rfl, c2⟩ := c2
      by_cases c : got.getD z 0 = -1
      · have e1 : (got.getD z 0 == -1) = true := by rw [beq_iff_eq]; exact c
        have HV : Hid (favL got d r = (z : Int)) := by
          show favL got d r = (z : Int)
          rw [favL_at r k hlt hno.out (by rw [hzz]; simpa using c), hzz]
        clear hz hno hzz
        rw [c] at c2
        clear c e1
        go_wp2_with fail
        go_ret
        exact ⟨ret_z HV.out.symm, rfl⟩
      · have e1 : (got.getD z 0 == -1) = false := by rw [beq_eq_false_iff_ne]; exact c
        have HN : Hid (∀ j, j < k + 1 → got.getD (r.getD j 0).toNat 0 ≠ -1) := fun j hj => by
          by_cases e : j = k
          · subst e; rw [hzz]; simpa using c
          · exact hno.out j (by omega)
        clear hz hno hzz c
        generalize got.getD z 0 = y at c2 e1
        go_wp2_with fail
        go_roundw
        case rel => exact ⟨k + 1, by omega, by go_num, HN, trivial⟩
        case measure => simp [intOf]; omega
    · obtain rfl : k = r.length := by omega
      have HV : Hid (favL got d r = d) := favL_ge r hno.out
      clear hno
      go_wp2_with fail
      go_ret
      exact ⟨ret_z HV.out.symm, rfl⟩
set_option maxHeartbeats 2000000 in
theorem sFav (A B : Option Addr) (ca cb : Nat) (r got : List Int) (w : World) (hA : IsInts w A r) (hB : IsInts w B got) (hr : ∀ z ∈ r, 0 ≤ z ∧ z < (got.length : Int)) (hg : ∀ j, j < got.length → -1 ≤ got.getD j 0) (hn : r.length ≤ 1048576) :
    Calls Try.prog 77 #[.slice A r.length ca, .slice B got.length cb] w fun e w' => e = .returned (.int .i64 (favL got (-1) r)) ∧ w = w' := by
  have HA := Lib.hid hA
  have HB := Lib.hid hB
  have HR := Lib.hid hr
  have HG := Lib.hid hg
  clear hA hB hr hg
  go_enter Try.func77, Try.ntmps77
  go_wp2_with fail
  go_loopw [5] (fun i wr => ∃ k : Nat, k ≤ r.length ∧ i = .int .i64 k ∧ Hid (∀ j, j < k → got.getD (r.getD j 0).toNat 0 ≠ -1) ∧ wr = w) (fun i _ => r.length - (intOf i).toNat)
  case atStart => exact ⟨0, Nat.zero_le _, rfl, (fun j hj => absurd hj (Nat.not_lt_zero _)), rfl⟩
  case round =>
    obtain ⟨k, hk, rfl, hno, rfl⟩ := hrel
    by_cases hlt : k < r.length
    · have hz := HR.out _ (nth_mem hlt)
      obtain ⟨z, hzz⟩ : ∃ z : Nat, r.getD k 0 = (z : Int) := ⟨(r.getD k 0).toNat, by omega⟩
      have hzl : z < got.length := by omega
      have hgz := HG.out z hzl
      have c1 : ∃ g o, A = some ⟨g, o, none⟩ ∧ wr.cell? ⟨g, o + k, none⟩ = some (.int .i64 (z : Int)) := by
        rcases HA.out with rfl | ⟨g, o, rfl, hc⟩
        · simp at hlt
        · exact ⟨g, o, rfl, by rw [hc k hlt, hzz]⟩
      have c2 : ∃ g o, B = some ⟨g, o, none⟩ ∧ wr.cell? ⟨g, o + z, none⟩ = some (.int .i64 (got.getD z 0)) := by
        rcases HB.out with rfl | ⟨g, o, rfl, hc⟩
        · simp at hzl
        · exact ⟨g, o, rfl, hc z hzl⟩
      obtain ⟨g1, o1, rfl, c1⟩ := c1
      obtain ⟨g2, o2, rfl, c2⟩ := c2
      by_cases c : got.getD z 0 = -1
      · have HV : Hid (favL got (-1) r = (z : Int)) := by
          show favL got (-1) r = (z : Int)
          rw [favL_at r k hlt hno.out (by rw [hzz]; simpa using c), hzz]
        clear hz hno hzz
        rw [c] at c2
        clear c hgz
        go_wp2_with fail
        go_ret
        exact ⟨ret_z HV.out.symm, rfl⟩
      · have e1 : decide (got.getD z 0 < 0) = false := decide_eq_false (by omega)
        have HN : Hid (∀ j, j < k + 1 → got.getD (r.getD j 0).toNat 0 ≠ -1) := fun j hj => by
          by_cases e : j = k
          · subst e; rw [hzz]; simpa using c
          · exact hno.out j (by omega)
        clear hz hno hzz c hgz
        generalize got.getD z 0 = y at c2 e1
        go_wp2_with fail
        go_roundw
        case rel => exact ⟨k + 1, by omega, by go_num, HN, trivial⟩
        case measure => simp [intOf]; omega
    · obtain rfl : k = r.length := by omega
      have HV : Hid (favL got (-1) r = -1) := favL_ge r hno.out
      clear hno
      go_wp2_with fail
      go_ret
      exact ⟨ret_z HV.out.symm, rfl⟩
end Go.Proofs.Ytdlbjmhjaljlfab
