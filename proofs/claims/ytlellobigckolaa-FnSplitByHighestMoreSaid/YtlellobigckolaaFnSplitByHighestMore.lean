/- For every input the law answers true, and its argument reads afterwards as before: one unit more is one unit more to one of the weights by the highest averages. No condition. -/
import Derived.Test.YtlellobigckolaaRows
import Derived.Test.YtlellobigckolaaHigh
import Derived.Test.YtlellobigckolaaAvgS
import Derived.WalkKit
import Derived.ProofKit
import Derived.OpenShut
import Derived.ShutString
import Derived.ChangeOld
import Derived.Below
import Derived.Lib.SmallJoins
namespace Go.Proofs.Ytlellobigckolaa.fnSplitByHighestMore
open Go.ChangeShapes Go.WideShapes Go.ChangeAt Go.RowKit Go.Joins
open Go.ChangeMaps (open_string shut_string)
set_option linter.unusedVariables false

theorem own : ownKnob Try.prog.godebug = none := by kernel_rfl
theorem laidOut : laidOutB Try.prog = true := by kernel_rfl

set_option maxHeartbeats 2000000 in
theorem walk (a0 : Option Addr) (len0 cap0 : Nat) (z0 : List Int) (w : World) (w0 : IsRow .u8 w a0 len0 cap0 z0) :
    Calls Try.prog 13 #[.slice a0 len0 cap0] w fun e w' => e = .returned (.bool true) ∧ Below w.heap.size w w' := by
  by_cases big : (1048576 : Int) < (len0 : Int)
  · go_enter Try.func13, Try.ntmps13
    go_wp2
    go_ret
    exact ⟨rfl, Below.refl _ _⟩
  go_enter Try.func13, Try.ntmps13
  go_wp2_with fail
  refine (drawSplitByHighest a0 len0 cap0 z0 _ w0).mono ?_
  rintro e u1 ⟨n, b, cp, xs, rfl, n0, n1, hl, hi, hz, B1⟩
  clear w0 big
  have hln : xs.length ≤ 1048576 := by omega
  have HI := Lib.hid hi
  have HZ := Lib.hid hz
  clear hi hz
  cases hcs : csB n xs with
  | false =>
    have HK := Lib.hid hcs
    clear hcs
    go_wp2_with fail
    refine (ihighest_no n _ _ xs _ HI.out hln HK.out).mono ?_
    rintro e w' ⟨rfl, rfl⟩
    go_wp2_with fail
    refine (shighest_no n _ _ xs _ HI.out hln HK.out).mono ?_
    rintro e w' ⟨rfl, rfl⟩
    go_wp2_with fail
    refine (lequal none none 0 0 [] _ (.inl rfl) (.inl rfl) (by simp)).mono ?_
    rintro e u2 ⟨rfl, C2⟩
    have B2 := bel_tr B1 C2
    go_wp2_with fail
    refine (shighest_no n _ _ xs _ (ints_below HI.out C2) hln HK.out).mono ?_
    rintro e w' ⟨rfl, rfl⟩
    go_wp2_with fail
    refine (lequal none none 0 0 [] _ (.inl rfl) (.inl rfl) (by simp)).mono ?_
    rintro e u3 ⟨rfl, C3⟩
    go_wp2_with fail
    go_ret
    exact ⟨rfl, bel_tr B2 C3⟩
  | true =>
    have hv := (cs_yes hcs).2
    have n00 := (cs_yes hcs).1.1
    have n01 := (cs_yes hcs).1.2
    have l1 := ws_ne hv
    have l1' : ((xs.length : Int) == 0) = false := by rw [beq_eq_false_iff_ne]; omega
    have hq : (sa 1 n xs).length = xs.length := sa_len 1 n xs
    have HK := Lib.hid hcs
    have HV := Lib.hid hv
    have HQ := Lib.hid hq
    clear hcs hq hv
    go_wp2_with fail
    refine (ihighest n _ _ xs _ HI.out hln HK.out).mono ?_
    rintro e u2 ⟨g, rfl, lg, R2, C2⟩
    have B2 := bel_tr B1 C2
    have I2 := ints_below HI.out C2
    go_wp2_with fail
    refine (shighest n _ _ xs _ I2 hln HK.out).mono ?_
    rintro e u3 ⟨b3, cp3, rfl, J3, C3⟩
    have B3 := bel_tr B2 C3
    have I3 := ints_below I2 C3
    have R3 := row_keep R2 C3
    go_wp2_with fail
    refine (lequalN xs.length _ _ _ _ (sa 1 n xs) _ HQ.out (row_ints R3) J3 hln).mono ?_
    rintro e u4 ⟨rfl, C4⟩
    have B4 := bel_tr B3 C4
    have I4 := ints_below I3 C4
    have R4 := row_keep R3 C4
    clear I2 I3 R2 R3 J3 C2 C3 C4 B1 B2 B3
    have HF := Lib.hid (sa_facts HK.out (step := 1) (by omega))
    by_cases hn5 : n = 500
    · have e5 : (n == 500) = true := by rw [beq_iff_eq]; exact hn5
      clear hn5
      go_wp2_with fail
      refine (shighest n _ _ xs _ I4 hln HK.out).mono ?_
      rintro e u5 ⟨b5, cp5, rfl, J5, C5⟩
      have B5 := bel_tr B4 C5
      have R5 := row_keep R4 C5
      go_wp2_with fail
      refine (lequalN xs.length _ _ _ _ (sa 1 n xs) _ HQ.out (row_ints R5) J5 hln).mono ?_
      rintro e u6 ⟨rfl, C6⟩
      go_wp2_with fail
      go_ret
      exact ⟨rfl, bel_tr B5 C6⟩
    · have e5 : (n == 500) = false := by rw [beq_eq_false_iff_ne]; exact hn5
      have HK1 := Lib.hid (csB_more HK.out hn5)
      have HF1 := Lib.hid (sa_facts HK1.out (step := 1) (by omega))
      obtain ⟨t, ht, hst⟩ := sa_more HK.out (step := 1) (by omega)
      have HD := Lib.hid (dif_more ht HQ.out hst)
      have HQ1 := Lib.hid (sa_len 1 (n + 1) xs)
      clear hst hn5
      go_wp2_with fail
      refine (ihighest (n + 1) _ _ xs _ I4 hln HK1.out).mono ?_
      rintro e u5 ⟨g5, rfl, lg5, R5, C5⟩
      have B5 := bel_tr B4 C5
      have R45 := row_keep R4 C5
      have I5 := ints_below I4 C5
      clear C5 R4 I4 B4
      go_wp2_with fail
      refine (lless xs.length _ _ _ _ (sa 1 (n + 1) xs) (sa 1 n xs) _ HQ1.out HQ.out (row_ints R5) (row_ints R45) l1 hln (fun i hi => by have := HF1.out.2.2 i hi; omega) (fun i hi => by have := HF.out.2.2 i hi; omega)).mono ?_
      rintro e u6 ⟨b6, cp6, rfl, J6, C6⟩
      rw [HD.out] at J6
      have B6 := bel_tr B5 C6
      have HO1 := Lib.hid (one1_len xs.length t)
      have h1 := one1_sum ht
      have h2 := one1_hi ht
      have h3 := one1_cnt ht
      have hb : ∀ i, i < xs.length → -1000000 ≤ (one1 xs.length t).getD i 0 ∧ (one1 xs.length t).getD i 0 ≤ 1000000 := fun i hi => by rw [one1_get ht]; split <;> omega
      have HB := Lib.hid hb
      have HA := Lib.hid (fun z (hz : z ∈ one1 xs.length t) => all_of_get (fun i hi => hb i (by rw [← HO1.out]; exact hi)) (m := 1000000) (by omega) z hz)
      have HT1 := Lib.hid h1
      have HT2 := Lib.hid h2
      have HT3 := Lib.hid h3
      clear h1 h2 h3 hb
      go_wp2_with fail
      refine (ltotalN xs.length _ _ (one1 xs.length t) _ HO1.out J6 hln HA.out).mono ?_
      rintro e w' ⟨rfl, rfl⟩
      rw [HT1.out]
      go_wp2_with fail
      refine (lhigh xs.length _ _ (one1 xs.length t) _ HO1.out J6 hln HB.out).mono ?_
      rintro e w' ⟨rfl, rfl⟩
      rw [HT2.out]
      go_wp2_with fail
      refine (lcount xs.length _ _ (one1 xs.length t) 0 _ HO1.out J6 hln).mono ?_
      rintro e w' ⟨rfl, rfl⟩
      rw [HT3.out]
      go_wp2_with fail
      go_ret
      exact ⟨rfl, B6⟩

set_option maxRecDepth 100000 in
theorem lifted (os : Os) (started : os.Started) (H : Type) (enc : TypeId × Value → H) :
    ReturnsInHanded {} Try.checked os 13 .any (Rows.fnSplitByHighestMoreSpec.pre6 enc Try.prog Try.f13 Rows.fnSplitByHighestMoreRow.domain false) (Rows.fnSplitByHighestMoreSpec.post enc Try.prog Try.f13 false true false false) := by
  refine returnsInHanded_of_change (C := Try.checked) own started (by kernel_rfl) Try.func13
    (ChangeSpec.witness6 (enc := enc) (C := Try.checked) false ⟨#[], #[.slice none 0 0], []⟩ 8 (by kernel_rfl) (by kernel_rfl) (by kernel_rfl) (by kernel_rfl)) ?_
  intro W base args ds gs before hval0 hW hcnd _
  have hval : ∀ (j : Nat) t v, Try.f13.params[j]? = some t → args[j]? = some v → Value.okWide Try.prog W .any base t v := hval0
  have hW' := hW
  obtain ⟨p, q, hA0, hV, rfl, hfz, hnd⟩ := hW
  have hA : DataW.TrodAll enc Try.prog W 0 (fun _ => true) true Try.f13.params.toList args.toList ds p := hA0
  rw [Try.params13] at hA hval
  obtain ⟨v0, vs0, e0, es0, p0, q0, hargs, rfl, rfl, h0, r0⟩ := trodAll_cons hA
  obtain ⟨rfl, rfl, rfl⟩ := trodAll_nil r0
  obtain rfl : args = #[v0] := by cases args; simp_all
  obtain ⟨rfl, rfl⟩ := trodVars_none hV
  have k0 := h0
  have lt0 : ∀ x ∈ p0, x.block < W.heap.size := by obtain ⟨m, hm⟩ := k0; exact DataW.trod_lt m _ _ _ hm
  obtain ⟨a0, len0, cap0, rfl⟩ := okWide_slice Try.underlying30 (hval 0 30 v0 rfl rfl)
  obtain ⟨z0, w0⟩ : ∃ zs, IsRow .u8 W a0 len0 cap0 zs := by
    obtain ⟨fuel, hf⟩ := h0
    rcases open_ints Try.underlying30 Try.underlying5 (by kernel_rfl) hf with ⟨hcs, _⟩ | ⟨x, l, c, zs, hcs, _, hl, hm, hz, _, hcell, hwz⟩
    · simp [Value.cells] at hcs
      obtain ⟨rfl, rfl, rfl⟩ := hcs
      exact ⟨[], .inl ⟨rfl, rfl, rfl, rfl⟩⟩
    · simp [Value.cells] at hcs
      obtain ⟨rfl, rfl, rfl⟩ := hcs
      exact ⟨zs, .inr ⟨_, rfl, hl, hm, by simpa using hz, hcell, hwz⟩⟩
  clear hA0 hval0
  refine (walk a0 len0 cap0 z0 W w0).mono fun e W' ⟨he, bel⟩ => ?_
  subst he
  exact ⟨_, rfl, _, _, _, [], _, [], hW', trodAll_mk1 (shut_bool Try.underlying4 _), (trodAll_cons_mk (Below.trod laidOut (by kernel_rfl) (of_decide_eq_true (by kernel_rfl)) k0 bel lt0) trodAll_mk0), rfl, bel.frame _, fun h => by cases h⟩

theorem over : Rows.fnSplitByHighestMoreRow.holds Try.pinned (OpenSpec.ofChange Rows.fnSplitByHighestMoreSpec) :=
  OpenClaim.holds_of_wide 13 Try.f13 rfl rfl rfl rfl rfl rfl rfl ⟨rfl, rfl, rfl, rfl, rfl⟩ rfl rfl rfl rfl rfl (by kernel_rfl) Try.func13 (by kernel_rfl)
    (of_decide_eq_true (by kernel_rfl)) (by unfold Func.isWrapper; first | (rw [if_pos (by decide +kernel)]; kernel_rfl) | (rw [if_neg (by decide +kernel)]; exact ⟨rfl, rfl⟩))
    (fun os started H enc _ => lifted os started H enc)

end Go.Proofs.Ytlellobigckolaa.fnSplitByHighestMore
namespace Go.Proofs.Ytlellobigckolaa
/-- the statement -/
theorem fnSplitByHighestMore_holds : Rows.FnSplitByHighestMoreSaid := fnSplitByHighestMore.over
end Go.Proofs.Ytlellobigckolaa
