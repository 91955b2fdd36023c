/- For every input the law answers true, and its argument reads afterwards as before: losses come first. No condition. -/
import Derived.Test.YtlpmeljneogpiaaRows
import Derived.Test.YtlpmeljneogpiaaDrawNb
import Derived.Test.YtlpmeljneogpiaaNodQ
import Derived.Test.YtlpmeljneogpiaaLawIn
import Derived.Test.YtlpmeljneogpiaaEqI
import Derived.Test.YtlpmeljneogpiaaGrA
import Derived.Test.YtlpmeljneogpiaaFlowK
import Derived.Test.YtlpmeljneogpiaaFlowU
import Derived.WalkKit
import Derived.Deep.RegionHeld3
import Derived.Deep.QuietTactic
import Derived.BigQuiet
import Derived.ProofKit
import Derived.OpenShut
import Derived.ShutString
import Derived.ChangeOld
import Derived.Below
import Derived.Lib.SmallJoins
namespace Go.Proofs.Ytlpmeljneogpiaa.fnPassedOf
open Go.ChangeShapes Go.WideShapes Go.ChangeAt Go.RowKit Go.Joins
open Go.ChangeMaps (open_string shut_string)
set_option linter.unusedVariables false
set_option linter.unusedSimpArgs false

theorem own : ownKnob Try.prog.godebug = none := by kernel_rfl
theorem laidOut : laidOutB Try.prog = true := by kernel_rfl

set_option maxRecDepth 100000 in
set_option maxHeartbeats 8000000 in
theorem walk (a0 : Option Addr) (len0 cap0 : Nat) (z0 : List Int) (w : World) (w0 : IsRow .u8 w a0 len0 cap0 z0) :
    Calls Try.prog 11 #[.slice a0 len0 cap0] w fun e w' => e = .returned (.bool true) ∧ Below w.heap.size w w' := by
  by_cases big : (1048576 : Int) < (len0 : Int)
  · go_enter Try.func11, Try.ntmps11
    go_wp2
    go_ret
    exact ⟨rfl, Below.refl _ _⟩
  go_enter Try.func11, Try.ntmps11
  go_wp2_with fail
  refine (drawPassedOf a0 len0 cap0 z0 _ w0).mono ?_
  rintro e u1 ⟨b, cp, xs, fl, rfl, l1, l10, hlc, I, i0, i1, B⟩
  clear w0 big
  have n1 : xs.length ≤ 1048576 := by omega
  have QI := Lib.hid (fun (W : World) (h : IsNd W b xs) (i : Int) => iPassed b cp xs i W h n1 hlc)
  have QS := Lib.hid (fun (W : World) (h : IsNd W b xs) (i : Int) => sPassed b cp xs i W h n1)
  have FI := Lib.hid (fun (W : World) (h : IsNd W b xs) (i : Int) => iFlows b cp xs i W h n1 hlc)
  have OA := Lib.hid (fun W h => QI.out W h fl)
  have OB := Lib.hid (fun W h => QS.out W h fl)
  by_cases hv : flB xs fl = true
  rotate_left
  · have hv2 : flB xs fl = false := by simpa using hv
    rw [passed_no hv2] at OA OB
    clear hv hv2 QI QS FI
    go_wp2_with fail
    refine (OA.out _ I).mono ?_
    rintro e u2 ⟨vO, rfl, O, C⟩
    obtain ⟨bO, cO, rfl, _⟩ := O.ints
    replace B := bel_tr B C
    replace I := nd_below I C
    clear C
    go_wp2_with fail
    refine (OB.out _ I).mono ?_
    rintro e u3 ⟨vP, rfl, P, C⟩
    obtain ⟨bP, cP, rfl, _⟩ := P.ints
    replace B := bel_tr B C
    replace I := nd_below I C
    replace O := O.of_block C
    clear C
    go_wp2_with fail
    refine (eqInts _ _ _ _ [] _ O.at_ P.at_ (by simp)).mono ?_
    rintro e u4 ⟨rfl, C⟩
    replace B := bel_tr B C
    replace I := nd_below I C
    replace O := O.of_block C
    replace P := P.of_block C
    clear C
    go_wp2_with fail
    clear P
    refine (OB.out _ I).mono ?_
    rintro e u5 ⟨vQ, rfl, Q, C⟩
    obtain ⟨bQ, cQ, rfl, _⟩ := Q.ints
    replace B := bel_tr B C
    replace I := nd_below I C
    replace O := O.of_block C
    clear C
    go_wp2_with fail
    refine (eqInts _ _ _ _ [] _ O.at_ Q.at_ (by simp)).mono ?_
    rintro e u6 ⟨rfl, C⟩
    replace B := bel_tr B C
    replace I := nd_below I C
    replace O := O.of_block C
    replace Q := Q.of_block C
    clear C
    go_wp2_with fail
    go_ret
    exact ⟨rfl, B⟩
  · obtain ⟨h1, f0, f1⟩ := flB_is hv
    have FA := Lib.hid (fun W h => FI.out W h fl)
    rw [flow_yes hv] at FA
    rw [passed_yes hv] at OA OB
    have hpl := passF_len xs fl
    have hcl : (comeF xs fl).length = xs.length := comeTo_len xs fl _
    have HG := Lib.hid (fun (k : Nat) (hk : k < xs.length) => passF_get xs fl hk)
    have HV := Lib.hid h1
    have nR : (passF xs fl).length ≤ 1048576 := by rw [hpl]; exact n1
    clear hv QI QS FI h1
    generalize hps : passF xs fl = ps at *
    clear hps
    have q0 : ((ps.length : Int) == 0) = false := beq_eq_false_iff_ne.2 (by omega)
    have q1 : (ps.length == 0) = false := beq_eq_false_iff_ne.2 (by omega)
    have q2 : ¬ ps = [] := fun e => by rw [e] at hpl; simp at hpl; omega
    rcases (show IsNd u1 b xs from I) with rfl | ⟨g, o, rfl, _⟩
    · simp at l1
    have HPL := Lib.hid hpl
    have HCL := Lib.hid hcl
    clear hpl hcl
    go_wp2_with fail
    refine (OA.out _ I).mono ?_
    rintro e u2 ⟨vO, rfl, O, C⟩
    obtain ⟨bO, cO, rfl, _⟩ := O.ints
    replace B := bel_tr B C
    replace I := nd_below I C
    clear C
    go_wp2_with fail
    refine (OB.out _ I).mono ?_
    rintro e u3 ⟨vP, rfl, P, C⟩
    obtain ⟨bP, cP, rfl, _⟩ := P.ints
    replace B := bel_tr B C
    replace I := nd_below I C
    replace O := O.of_block C
    clear C
    go_wp2_with fail
    refine (eqInts _ _ _ _ ps _ O.at_ P.at_ nR).mono ?_
    rintro e u4 ⟨rfl, C⟩
    replace B := bel_tr B C
    replace I := nd_below I C
    replace O := O.of_block C
    replace P := P.of_block C
    clear C
    go_wp2_with fail
    clear P
    refine (FA.out _ I).mono ?_
    rintro e u5 ⟨vC_, rfl, C_, C⟩
    obtain ⟨bC_, cC_, rfl, _⟩ := C_.ints
    replace B := bel_tr B C
    replace I := nd_below I C
    replace O := O.of_block C
    clear C
    have hol := HPL.out
    rw [hol] at O ⊢
    rw [HCL.out] at C_ ⊢
    clear q0 q1 q2 hol
    go_wp2_with fail
    go_loopw [7] (fun i wr => ∃ k : Nat, k ≤ xs.length ∧ i = .int .i64 k ∧ Hid (IsNd wr (some ⟨g, o, none⟩) xs ∧ OwnI wr _ (.slice bO xs.length cO) ps ∧ OwnI wr _ (.slice bC_ xs.length cC_) (comeF xs fl) ∧ Below w.heap.size w wr)) (fun i _ => xs.length - (intOf i).toNat)
    case atStart => exact ⟨0, Nat.zero_le _, rfl, I, O, C_, B⟩
    case round =>
      clear I O C_ B
      obtain ⟨k, hk, rfl, HR⟩ := hrel
      by_cases hlt : k < xs.length
      · obtain ⟨go_, rfl, _⟩ := HR.out.2.1.form_ (by rw [HPL.out]; omega)
        obtain ⟨gc, rfl, _⟩ := HR.out.2.2.1.form_ (by rw [HCL.out]; omega)
        have c1 := HR.out.2.1.cell (j := k) (by rw [HPL.out]; exact hlt)
        have c2 := HR.out.2.2.1.cell (j := k) (by rw [HCL.out]; exact hlt)
        rw [HG.out k hlt] at c1
        obtain ⟨d2, d3⟩ : wr.cell? ⟨g, o + k * 5 + 2, none⟩ = some (.int .i64 (xs.getD k nd0).2.2.1) ∧ wr.cell? ⟨g, o + k * 5 + 3, none⟩ = some (.int .i64 (xs.getD k nd0).2.2.2.1) := (by
          rcases HR.out.1 with rfl | ⟨g', o', e, hc⟩
          · simp at l1
          · injection e with e; injection e with e1 e2 e3; subst e1 e2; exact ⟨(hc k hlt).2.2.1, (hc k hlt).2.2.2.1⟩)
        obtain ⟨_, q2, q3, _⟩ := vn_at HV.out hlt
        have hcb := come_bd HV.out ⟨f0, f1⟩ k
        have hpv : ∀ p, passV (xs.getD k nd0) ((comeF xs fl).getD k 0) = p → p = if (comeF xs fl).getD k 0 ≤ (xs.getD k nd0).2.2.1 then 0 else if (xs.getD k nd0).2.2.2.1 < (comeF xs fl).getD k 0 - (xs.getD k nd0).2.2.1 then (xs.getD k nd0).2.2.2.1 else (comeF xs fl).getD k 0 - (xs.getD k nd0).2.2.1 := fun p e => by rw [← e]; rfl
        obtain ⟨p, hp⟩ : ∃ p, passV (xs.getD k nd0) ((comeF xs fl).getD k 0) = p := ⟨_, rfl⟩
        have hpp := hpv p hp
        rw [hp] at c1
        clear hpv hp
        generalize (comeF xs fl).getD k 0 = c at c2 hcb hpp
        generalize (xs.getD k nd0).2.2.1 = x2 at d2 q2 hpp
        generalize (xs.getD k nd0).2.2.2.1 = x3 at d3 q3 hpp
        have b0 : (0 : Int) ≤ (k : Int) := by omega
        have b1 : (k : Int) < (xs.length : Int) := by omega
        have wz : IntKind.i64.wrap (c - x2) = c - x2 := by rw [IntKind.wrap_i64]; omega
        have HF : Hid (∀ n, IsNd (wr.drewN n) (some ⟨g, o, none⟩) xs ∧ OwnI (wr.drewN n) _ (.slice (some ⟨go_, 0, none⟩) xs.length cO) ps ∧ OwnI (wr.drewN n) _ (.slice (some ⟨gc, 0, none⟩) xs.length cC_) (comeF xs fl) ∧ Below w.heap.size w (wr.drewN n)) := fun n => ⟨HR.out.1, HR.out.2.1, HR.out.2.2.1, below_drewN HR.out.2.2.2 n⟩
        clear HR
        by_cases h4 : c ≤ x2
        · rw [if_pos h4] at hpp
          subst hpp
          have m1 : max 0 (c - x2) = 0 := by omega
          have m2 : min x3 0 = 0 := by omega
          have r1 : c - x2 ≤ 0 := by omega
          have r2 : 0 ≤ x3 := by omega
          go_wp2_with fail
          go_quiet (fail)
          go_wp2_with fail
          go_roundw
          case rel => exact ⟨k + 1, by omega, by go_num, HF.out _⟩
          case measure => simp [intOf]; omega
        rw [if_neg h4] at hpp
        by_cases h5 : x3 < c - x2
        · rw [if_pos h5] at hpp
          subst hpp
          have m1 : max 0 (c - x2) = c - x2 := by omega
          have m2 : min p (c - x2) = p := by omega
          have r1 : ¬ c - x2 ≤ 0 := by omega
          have r2 : p ≤ c - x2 := by omega
          go_wp2_with fail
          go_quiet (fail)
          go_wp2_with fail
          go_roundw
          case rel => exact ⟨k + 1, by omega, by go_num, HF.out _⟩
          case measure => simp [intOf]; omega
        · rw [if_neg h5] at hpp
          subst hpp
          have m1 : max 0 (c - x2) = c - x2 := by omega
          have m2 : min x3 (c - x2) = c - x2 := by omega
          have r1 : ¬ c - x2 ≤ 0 := by omega
          have r2 : c - x2 ≤ x3 := by omega
          go_wp2_with fail
          go_quiet (fail)
          go_wp2_with fail
          go_roundw
          case rel => exact ⟨k + 1, by omega, by go_num, HF.out _⟩
          case measure => simp [intOf]; omega
      · have HB := Lib.hid HR.out.2.2.2
        clear HR
        go_wp2_with fail
        go_ret
        exact ⟨rfl, HB.out⟩

set_option maxRecDepth 100000 in
theorem lifted (os : Os) (started : os.Started) (H : Type) (enc : TypeId × Value → H) :
    ReturnsInHanded {} Try.checked os 11 .any (Rows.fnPassedOfSpec.pre6 enc Try.prog Try.f11 Rows.fnPassedOfRow.domain false) (Rows.fnPassedOfSpec.post enc Try.prog Try.f11 false true false false) := by
  refine returnsInHanded_of_change (C := Try.checked) own started (by kernel_rfl) Try.func11
    (ChangeSpec.witness6 (enc := enc) (C := Try.checked) false ⟨#[], #[.slice none 0 0], []⟩ 8 (by kernel_rfl) (by kernel_rfl) (by kernel_rfl) (by kernel_rfl)) ?_
  intro W base args ds gs before hval0 hW hcnd _
  have hval : ∀ (j : Nat) t v, Try.f11.params[j]? = some t → args[j]? = some v → Value.okWide Try.prog W .any base t v := hval0
  have hW' := hW
  obtain ⟨p, q, hA0, hV, rfl, hfz, hnd⟩ := hW
  have hA : DataW.TrodAll enc Try.prog W 0 (fun _ => true) true Try.f11.params.toList args.toList ds p := hA0
  rw [Try.params11] at hA hval
  obtain ⟨v0, vs0, e0, es0, p0, q0, hargs, rfl, rfl, h0, r0⟩ := trodAll_cons hA
  obtain ⟨rfl, rfl, rfl⟩ := trodAll_nil r0
  obtain rfl : args = #[v0] := by cases args; simp_all
  obtain ⟨rfl, rfl⟩ := trodVars_none hV
  have k0 := h0
  have lt0 : ∀ x ∈ p0, x.block < W.heap.size := by obtain ⟨m, hm⟩ := k0; exact DataW.trod_lt m _ _ _ hm
  obtain ⟨a0, len0, cap0, rfl⟩ := okWide_slice Try.underlying38 (hval 0 38 v0 rfl rfl)
  obtain ⟨z0, w0⟩ : ∃ zs, IsRow .u8 W a0 len0 cap0 zs := by
    obtain ⟨fuel, hf⟩ := h0
    rcases open_ints Try.underlying38 Try.underlying5 (by kernel_rfl) hf with ⟨hcs, _⟩ | ⟨x, l, c, zs, hcs, _, hl, hm, hz, _, hcell, hwz⟩
    · simp [Value.cells] at hcs
      obtain ⟨rfl, rfl, rfl⟩ := hcs
      exact ⟨[], .inl ⟨rfl, rfl, rfl, rfl⟩⟩
    · simp [Value.cells] at hcs
      obtain ⟨rfl, rfl, rfl⟩ := hcs
      exact ⟨zs, .inr ⟨_, rfl, hl, hm, by simpa using hz, hcell, hwz⟩⟩
  clear hA0 hval0
  refine (walk a0 len0 cap0 z0 W w0).mono fun e W' ⟨he, bel⟩ => ?_
  subst he
  exact ⟨_, rfl, _, _, _, [], _, [], hW', trodAll_mk1 (shut_bool Try.underlying4 _), (trodAll_cons_mk (Below.trod laidOut (by kernel_rfl) (of_decide_eq_true (by kernel_rfl)) k0 bel lt0) trodAll_mk0), rfl, bel.frame _, fun h => by cases h⟩

theorem over : Rows.fnPassedOfRow.holds Try.pinned (OpenSpec.ofChange Rows.fnPassedOfSpec) :=
  OpenClaim.holds_of_wide 11 Try.f11 rfl rfl rfl rfl rfl rfl rfl ⟨rfl, rfl, rfl, rfl, rfl⟩ rfl rfl rfl rfl rfl (by kernel_rfl) Try.func11 (by kernel_rfl)
    (of_decide_eq_true (by kernel_rfl)) (by unfold Func.isWrapper; first | (rw [if_pos (by decide +kernel)]; kernel_rfl) | (rw [if_neg (by decide +kernel)]; exact ⟨rfl, rfl⟩))
    (fun os started H enc _ => lifted os started H enc)

end Go.Proofs.Ytlpmeljneogpiaa.fnPassedOf
namespace Go.Proofs.Ytlpmeljneogpiaa
/-- the statement -/
theorem fnPassedOf_holds : Rows.FnPassedOfSaid := fnPassedOf.over
end Go.Proofs.Ytlpmeljneogpiaa
