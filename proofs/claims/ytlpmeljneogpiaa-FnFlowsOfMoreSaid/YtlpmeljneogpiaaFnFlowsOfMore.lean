/- For every input the law answers true, and its argument reads afterwards as before: more water takes nothing away. No condition. -/
import Derived.Test.YtlpmeljneogpiaaRows
import Derived.Test.YtlpmeljneogpiaaDrawNb
import Derived.Test.YtlpmeljneogpiaaNodQ
import Derived.Test.YtlpmeljneogpiaaLawIn
import Derived.Test.YtlpmeljneogpiaaEqI
import Derived.Test.YtlpmeljneogpiaaGrA
import Derived.Test.YtlpmeljneogpiaaFlowK
import Derived.Test.YtlpmeljneogpiaaFlowT
import Derived.Test.YtlpmeljneogpiaaNodR
import Derived.WalkKit
import Derived.Deep.RegionHeld3
import Derived.Deep.QuietTactic
import Derived.BigQuiet
import Derived.ProofKit
import Derived.OpenShut
import Derived.ShutString
import Derived.ChangeOld
import Derived.Below
import Derived.Lib.SmallJoins
namespace Go.Proofs.Ytlpmeljneogpiaa.fnFlowsOfMore
open Go.ChangeShapes Go.WideShapes Go.ChangeAt Go.RowKit Go.Joins
open Go.ChangeMaps (open_string shut_string)
set_option linter.unusedVariables false
set_option linter.unusedSimpArgs false

theorem own : ownKnob Try.prog.godebug = none := by kernel_rfl
theorem laidOut : laidOutB Try.prog = true := by kernel_rfl

set_option maxRecDepth 100000 in
set_option maxHeartbeats 8000000 in
theorem walk (a0 : Option Addr) (len0 cap0 : Nat) (z0 : List Int) (w : World) (w0 : IsRow .u8 w a0 len0 cap0 z0) :
    Calls Try.prog 9 #[.slice a0 len0 cap0] w fun e w' => e = .returned (.bool true) ∧ Below w.heap.size w w' := by
  by_cases big : (1048576 : Int) < (len0 : Int)
  · go_enter Try.func9, Try.ntmps9
    go_wp2
    go_ret
    exact ⟨rfl, Below.refl _ _⟩
  go_enter Try.func9, Try.ntmps9
  go_wp2_with fail
  refine (drawFlowsOf a0 len0 cap0 z0 _ w0).mono ?_
  rintro e u1 ⟨b, cp, xs, fl, rfl, l1, l10, hlc, I, i0, i1, B⟩
  clear w0 big
  have n1 : xs.length ≤ 1048576 := by omega
  have FI := Lib.hid (fun (W : World) (h : IsNd W b xs) (i : Int) => iFlows b cp xs i W h n1 hlc)
  have FS := Lib.hid (fun (W : World) (h : IsNd W b xs) (i : Int) => sFlows b cp xs i W h n1)
  have QI := Lib.hid (fun (W : World) (h : IsNd W b xs) (i : Int) => iPassed b cp xs i W h n1 hlc)
  have OA := Lib.hid (fun W h => FI.out W h fl)
  have OB := Lib.hid (fun W h => FS.out W h fl)
  by_cases hv : flB xs fl = true
  rotate_left
  · have hv2 : flB xs fl = false := by simpa using hv
    rw [flow_no hv2] at OA OB
    clear hv hv2 QI FI FS
    go_wp2_with fail
    refine (OA.out _ I).mono ?_
    rintro e u2 ⟨vO, rfl, O, C⟩
    obtain ⟨bO, cO, rfl, _⟩ := O.ints
    replace B := bel_tr B C
    replace I := nd_below I C
    clear C
    go_wp2_with fail
    refine (OB.out _ I).mono ?_
    rintro e u3 ⟨vP, rfl, P, C⟩
    obtain ⟨bP, cP, rfl, _⟩ := P.ints
    replace B := bel_tr B C
    replace I := nd_below I C
    replace O := O.of_block C
    clear C
    go_wp2_with fail
    refine (eqInts _ _ _ _ [] _ O.at_ P.at_ (by simp)).mono ?_
    rintro e u4 ⟨rfl, C⟩
    replace B := bel_tr B C
    replace I := nd_below I C
    replace O := O.of_block C
    replace P := P.of_block C
    clear C
    go_wp2_with fail
    clear P
    refine (OB.out _ I).mono ?_
    rintro e u5 ⟨vQ, rfl, Q, C⟩
    obtain ⟨bQ, cQ, rfl, _⟩ := Q.ints
    replace B := bel_tr B C
    replace I := nd_below I C
    replace O := O.of_block C
    clear C
    go_wp2_with fail
    refine (eqInts _ _ _ _ [] _ O.at_ Q.at_ (by simp)).mono ?_
    rintro e u6 ⟨rfl, C⟩
    replace B := bel_tr B C
    replace I := nd_below I C
    replace O := O.of_block C
    replace Q := Q.of_block C
    clear C
    go_wp2_with fail
    go_ret
    exact ⟨rfl, B⟩
  obtain ⟨h1, f0, f1⟩ := flB_is hv
  have hcl : (comeF xs fl).length = xs.length := comeTo_len xs fl _
  have nR : (comeF xs fl).length ≤ 1048576 := by rw [hcl]; exact n1
  rw [flow_yes hv] at OA OB
  have q0 : (((comeF xs fl).length : Int) == 0) = false := beq_eq_false_iff_ne.2 (by omega)
  have q1 : ((comeF xs fl).length == 0) = false := beq_eq_false_iff_ne.2 (by omega)
  have q2 : ¬ comeF xs fl = [] := fun e => by rw [e] at hcl; simp at hcl; omega
  by_cases h5 : fl = 500
  · subst h5
    have HCL := Lib.hid hcl
    clear hv QI FI FS h1 hcl
    generalize comeF xs 500 = cs at *
    go_wp2_with fail
    refine (OA.out _ I).mono ?_
    rintro e u2 ⟨vO, rfl, O, C⟩
    obtain ⟨bO, cO, rfl, _⟩ := O.ints
    replace B := bel_tr B C
    replace I := nd_below I C
    clear C
    go_wp2_with fail
    refine (OB.out _ I).mono ?_
    rintro e u3 ⟨vP, rfl, P, C⟩
    obtain ⟨bP, cP, rfl, _⟩ := P.ints
    replace B := bel_tr B C
    replace I := nd_below I C
    replace O := O.of_block C
    clear C
    go_wp2_with fail
    refine (eqInts _ _ _ _ cs _ O.at_ P.at_ nR).mono ?_
    rintro e u4 ⟨rfl, C⟩
    replace B := bel_tr B C
    replace I := nd_below I C
    replace O := O.of_block C
    replace P := P.of_block C
    clear C
    go_wp2_with fail
    clear P
    refine (OB.out _ I).mono ?_
    rintro e u5 ⟨vQ, rfl, Q, C⟩
    obtain ⟨bQ, cQ, rfl, _⟩ := Q.ints
    replace B := bel_tr B C
    replace I := nd_below I C
    replace O := O.of_block C
    clear C
    go_wp2_with fail
    refine (eqInts _ _ _ _ cs _ O.at_ Q.at_ nR).mono ?_
    rintro e u6 ⟨rfl, C⟩
    replace B := bel_tr B C
    replace I := nd_below I C
    replace O := O.of_block C
    replace Q := Q.of_block C
    clear C
    go_wp2_with fail
    go_ret
    exact ⟨rfl, B⟩
  have e5 : (fl == 500) = false := by simpa using h5
  have wf : IntKind.i64.wrap (fl + 1) = fl + 1 := by rw [IntKind.wrap_i64]; omega
  have hv3 : flB xs (fl + 1) = true := by unfold flB; rw [h1, decide_eq_true (by omega : 0 ≤ fl + 1), decide_eq_true (by omega : fl + 1 ≤ 500)]; rfl
  have FA := Lib.hid (fun W h => FI.out W h (fl + 1))
  have QA := Lib.hid (fun W h => QI.out W h fl)
  have QB := Lib.hid (fun W h => QI.out W h (fl + 1))
  rw [flow_yes hv3] at FA
  rw [passed_yes hv] at QA
  rw [passed_yes hv3] at QB
  have HC := Lib.hid (fun k (hk : k < xs.length) => come_more h1 f0 (by omega : fl + 1 ≤ 500) k hk)
  have HP := Lib.hid (fun k (hk : k < xs.length) => passF_more h1 f0 (by omega : fl + 1 ≤ 500) hk)
  have BC := Lib.hid (fun k => come_bd h1 ⟨f0, f1⟩ k)
  have BP := Lib.hid (fun k => passF_all h1 ⟨f0, f1⟩ k)
  have HL : Hid ((comeF xs fl).length = xs.length ∧ (comeF xs (fl + 1)).length = xs.length ∧ (passF xs fl).length = xs.length ∧ (passF xs (fl + 1)).length = xs.length) := ⟨hcl, comeTo_len xs (fl + 1) _, passF_len _ _, passF_len _ _⟩
  clear hv hv3 h1 QI FI FS hcl h5
  generalize comeF xs fl = cs at *
  generalize comeF xs (fl + 1) = ds at *
  generalize passF xs fl = ps at *
  generalize passF xs (fl + 1) = qs_ at *
  go_wp2_with fail
  refine (OA.out _ I).mono ?_
  rintro e u2 ⟨vO, rfl, O, C⟩
  obtain ⟨bO, cO, rfl, _⟩ := O.ints
  replace B := bel_tr B C
  replace I := nd_below I C
  clear C
  go_wp2_with fail
  refine (OB.out _ I).mono ?_
  rintro e u3 ⟨vP, rfl, P, C⟩
  obtain ⟨bP, cP, rfl, _⟩ := P.ints
  replace B := bel_tr B C
  replace I := nd_below I C
  replace O := O.of_block C
  clear C
  go_wp2_with fail
  refine (eqInts _ _ _ _ cs _ O.at_ P.at_ nR).mono ?_
  rintro e u4 ⟨rfl, C⟩
  replace B := bel_tr B C
  replace I := nd_below I C
  replace O := O.of_block C
  replace P := P.of_block C
  clear C
  go_wp2_with fail
  clear P
  refine (FA.out _ I).mono ?_
  rintro e u5 ⟨vM, rfl, M, C⟩
  obtain ⟨bM, cM, rfl, _⟩ := M.ints
  replace B := bel_tr B C
  replace I := nd_below I C
  replace O := O.of_block C
  clear C
  go_wp2_with fail
  refine (QA.out _ I).mono ?_
  rintro e u6 ⟨vS, rfl, S, C⟩
  obtain ⟨bS, cS, rfl, _⟩ := S.ints
  replace B := bel_tr B C
  replace I := nd_below I C
  replace O := O.of_block C
  replace M := M.of_block C
  clear C
  go_wp2_with fail
  refine (QB.out _ I).mono ?_
  rintro e u7 ⟨vT, rfl, T, C⟩
  obtain ⟨bT, cT, rfl, _⟩ := T.ints
  replace B := bel_tr B C
  replace I := nd_below I C
  replace O := O.of_block C
  replace M := M.of_block C
  replace S := S.of_block C
  clear C
  have hL := HL.out
  rw [hL.1] at O ⊢
  rw [hL.2.1] at M ⊢
  rw [hL.2.2.1] at S ⊢
  rw [hL.2.2.2] at T ⊢
  clear q0 q1 q2 hL e5
  go_wp2_with fail
  go_loopw [9] (fun i wr => ∃ k : Nat, k ≤ xs.length ∧ i = .int .i64 k ∧ Hid (OwnI wr _ (.slice bO xs.length cO) cs ∧ OwnI wr _ (.slice bM xs.length cM) ds ∧ OwnI wr _ (.slice bS xs.length cS) ps ∧ OwnI wr _ (.slice bT xs.length cT) qs_ ∧ Below w.heap.size w wr)) (fun i _ => xs.length - (intOf i).toNat)
  case atStart => exact ⟨0, Nat.zero_le _, rfl, O, M, S, T, B⟩
  case round =>
    clear I O M S T B
    obtain ⟨k, hk, rfl, HR⟩ := hrel
    by_cases hlt : k < xs.length
    · have hL := HL.out
      obtain ⟨gO, rfl, _⟩ := HR.out.1.form_ (by rw [hL.1]; omega)
      have kcO := HR.out.1.cell (j := k) (by rw [hL.1]; exact hlt)
      obtain ⟨gM, rfl, _⟩ := HR.out.2.1.form_ (by rw [hL.2.1]; omega)
      have kcM := HR.out.2.1.cell (j := k) (by rw [hL.2.1]; exact hlt)
      obtain ⟨gS, rfl, _⟩ := HR.out.2.2.1.form_ (by rw [hL.2.2.1]; omega)
      have kcS := HR.out.2.2.1.cell (j := k) (by rw [hL.2.2.1]; exact hlt)
      obtain ⟨gT, rfl, _⟩ := HR.out.2.2.2.1.form_ (by rw [hL.2.2.2]; omega)
      have kcT := HR.out.2.2.2.1.cell (j := k) (by rw [hL.2.2.2]; exact hlt)
      have hC := HC.out k hlt
      have hP := HP.out k hlt
      have bC := BC.out k
      have bP := BP.out k
      generalize cs.getD k 0 = x0 at kcO hC bC
      generalize ds.getD k 0 = x1 at kcM hC
      generalize ps.getD k 0 = y0 at kcS hP bP
      generalize qs_.getD k 0 = y1 at kcT hP
      have b0 : (0 : Int) ≤ (k : Int) := by omega
      have b1 : (k : Int) < (xs.length : Int) := by omega
      have w1 : IntKind.i64.wrap (x0 + 1) = x0 + 1 := by rw [IntKind.wrap_i64]; omega
      have w2 : IntKind.i64.wrap (y0 + 1) = y0 + 1 := by rw [IntKind.wrap_i64]; omega
      have t1 : decide (x1 < x0) = false := decide_eq_false (by omega)
      have t2 : decide (x0 + 1 < x1) = false := decide_eq_false (by omega)
      have t3 : decide (y1 < y0) = false := decide_eq_false (by omega)
      have t4 : decide (y0 + 1 < y1) = false := decide_eq_false (by omega)
      have HF : Hid (∀ n, OwnI (wr.drewN n) _ (.slice (some ⟨gO, 0, none⟩) xs.length cO) cs ∧ OwnI (wr.drewN n) _ (.slice (some ⟨gM, 0, none⟩) xs.length cM) ds ∧ OwnI (wr.drewN n) _ (.slice (some ⟨gS, 0, none⟩) xs.length cS) ps ∧ OwnI (wr.drewN n) _ (.slice (some ⟨gT, 0, none⟩) xs.length cT) qs_ ∧ Below w.heap.size w (wr.drewN n)) := fun n => ⟨HR.out.1, HR.out.2.1, HR.out.2.2.1, HR.out.2.2.2.1, below_drewN HR.out.2.2.2.2 n⟩
      clear HR hC hP bC bP hL
      go_wp2_with fail
      go_quiet (fail)
      go_wp2_with fail
      go_roundw
      case rel => exact ⟨k + 1, by omega, by go_num, HF.out _⟩
      case measure => simp [intOf]; omega
    · have HB := Lib.hid HR.out.2.2.2.2
      clear HR
      go_wp2_with fail
      go_ret
      exact ⟨rfl, HB.out⟩

set_option maxRecDepth 100000 in
theorem lifted (os : Os) (started : os.Started) (H : Type) (enc : TypeId × Value → H) :
    ReturnsInHanded {} Try.checked os 9 .any (Rows.fnFlowsOfMoreSpec.pre6 enc Try.prog Try.f9 Rows.fnFlowsOfMoreRow.domain false) (Rows.fnFlowsOfMoreSpec.post enc Try.prog Try.f9 false true false false) := by
  refine returnsInHanded_of_change (C := Try.checked) own started (by kernel_rfl) Try.func9
    (ChangeSpec.witness6 (enc := enc) (C := Try.checked) false ⟨#[], #[.slice none 0 0], []⟩ 8 (by kernel_rfl) (by kernel_rfl) (by kernel_rfl) (by kernel_rfl)) ?_
  intro W base args ds gs before hval0 hW hcnd _
  have hval : ∀ (j : Nat) t v, Try.f9.params[j]? = some t → args[j]? = some v → Value.okWide Try.prog W .any base t v := hval0
  have hW' := hW
  obtain ⟨p, q, hA0, hV, rfl, hfz, hnd⟩ := hW
  have hA : DataW.TrodAll enc Try.prog W 0 (fun _ => true) true Try.f9.params.toList args.toList ds p := hA0
  rw [Try.params9] at hA hval
  obtain ⟨v0, vs0, e0, es0, p0, q0, hargs, rfl, rfl, h0, r0⟩ := trodAll_cons hA
  obtain ⟨rfl, rfl, rfl⟩ := trodAll_nil r0
  obtain rfl : args = #[v0] := by cases args; simp_all
  obtain ⟨rfl, rfl⟩ := trodVars_none hV
  have k0 := h0
  have lt0 : ∀ x ∈ p0, x.block < W.heap.size := by obtain ⟨m, hm⟩ := k0; exact DataW.trod_lt m _ _ _ hm
  obtain ⟨a0, len0, cap0, rfl⟩ := okWide_slice Try.underlying38 (hval 0 38 v0 rfl rfl)
  obtain ⟨z0, w0⟩ : ∃ zs, IsRow .u8 W a0 len0 cap0 zs := by
    obtain ⟨fuel, hf⟩ := h0
    rcases open_ints Try.underlying38 Try.underlying5 (by kernel_rfl) hf with ⟨hcs, _⟩ | ⟨x, l, c, zs, hcs, _, hl, hm, hz, _, hcell, hwz⟩
    · simp [Value.cells] at hcs
      obtain ⟨rfl, rfl, rfl⟩ := hcs
      exact ⟨[], .inl ⟨rfl, rfl, rfl, rfl⟩⟩
    · simp [Value.cells] at hcs
      obtain ⟨rfl, rfl, rfl⟩ := hcs
      exact ⟨zs, .inr ⟨_, rfl, hl, hm, by simpa using hz, hcell, hwz⟩⟩
  clear hA0 hval0
  refine (walk a0 len0 cap0 z0 W w0).mono fun e W' ⟨he, bel⟩ => ?_
  subst he
  exact ⟨_, rfl, _, _, _, [], _, [], hW', trodAll_mk1 (shut_bool Try.underlying4 _), (trodAll_cons_mk (Below.trod laidOut (by kernel_rfl) (of_decide_eq_true (by kernel_rfl)) k0 bel lt0) trodAll_mk0), rfl, bel.frame _, fun h => by cases h⟩

theorem over : Rows.fnFlowsOfMoreRow.holds Try.pinned (OpenSpec.ofChange Rows.fnFlowsOfMoreSpec) :=
  OpenClaim.holds_of_wide 9 Try.f9 rfl rfl rfl rfl rfl rfl rfl ⟨rfl, rfl, rfl, rfl, rfl⟩ rfl rfl rfl rfl rfl (by kernel_rfl) Try.func9 (by kernel_rfl)
    (of_decide_eq_true (by kernel_rfl)) (by unfold Func.isWrapper; first | (rw [if_pos (by decide +kernel)]; kernel_rfl) | (rw [if_neg (by decide +kernel)]; exact ⟨rfl, rfl⟩))
    (fun os started H enc _ => lifted os started H enc)

end Go.Proofs.Ytlpmeljneogpiaa.fnFlowsOfMore
namespace Go.Proofs.Ytlpmeljneogpiaa
/-- the statement -/
theorem fnFlowsOfMore_holds : Rows.FnFlowsOfMoreSaid := fnFlowsOfMore.over
end Go.Proofs.Ytlpmeljneogpiaa
