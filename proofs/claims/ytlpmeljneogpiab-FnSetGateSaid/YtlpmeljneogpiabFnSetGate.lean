/- For every input the law answers true, and its argument reads afterwards as before: gates are set again. No condition. -/
import Derived.Test.YtlpmeljneogpiabRows
import Derived.Test.YtlpmeljneogpiabDrawNb
import Derived.Test.YtlpmeljneogpiabNodQ
import Derived.Test.YtlpmeljneogpiabLawIn
import Derived.Test.YtlpmeljneogpiabEqI
import Derived.Test.YtlpmeljneogpiabGrA
import Derived.Test.YtlpmeljneogpiabEqN
import Derived.Test.YtlpmeljneogpiabNodU
import Derived.Test.YtlpmeljneogpiabFlowT
import Derived.Test.YtlpmeljneogpiabFlowJ
import Derived.WalkKit
import Derived.Deep.RegionHeld3
import Derived.Deep.QuietTactic
import Derived.BigQuiet
import Derived.ProofKit
import Derived.OpenShut
import Derived.ShutString
import Derived.ChangeOld
import Derived.Below
import Derived.Lib.SmallJoins
namespace Go.Proofs.Ytlpmeljneogpiab.fnSetGate
open Go.ChangeShapes Go.WideShapes Go.ChangeAt Go.RowKit Go.Joins
open Go.ChangeMaps (open_string shut_string)
set_option linter.unusedVariables false
set_option linter.unusedSimpArgs false

theorem own : ownKnob Try.prog.godebug = none := by kernel_rfl
theorem laidOut : laidOutB Try.prog = true := by kernel_rfl

set_option maxRecDepth 100000 in
set_option maxHeartbeats 8000000 in
theorem walk (a0 : Option Addr) (len0 cap0 : Nat) (z0 : List Int) (w : World) (w0 : IsRow .u8 w a0 len0 cap0 z0) :
    Calls Try.prog 5 #[.slice a0 len0 cap0] w fun e w' => e = .returned (.bool true) ∧ Below w.heap.size w w' := by
  by_cases big : (1048576 : Int) < (len0 : Int)
  · go_enter Try.func5, Try.ntmps5
    go_wp2
    go_ret
    exact ⟨rfl, Below.refl _ _⟩
  go_enter Try.func5, Try.ntmps5
  go_wp2_with fail
  refine (drawSetGate a0 len0 cap0 z0 _ w0).mono ?_
  rintro e u1 ⟨b, cp, xs, at_, wt, rfl, l1, l10, hlc, I, i0, i1, j0, j1, B⟩
  clear w0 big
  have n1 : xs.length ≤ 1048576 := by omega
  have GI := Lib.hid (fun (W : World) (h : IsNd W b xs) (i j : Int) => iSetGate b cp xs i j W h n1 hlc)
  have GS := Lib.hid (fun (W : World) (h : IsNd W b xs) (i j : Int) => sSetGate b cp xs i j W h n1 hlc)
  have OA := Lib.hid (fun W h => GI.out W h at_ wt)
  have OB := Lib.hid (fun W h => GS.out W h at_ wt)
  by_cases hv : sgB xs at_ wt = true
  rotate_left
  · have hv2 : sgB xs at_ wt = false := by simpa using hv
    rw [hv2] at OA OB
    clear hv hv2 GI GS
    go_wp2_with fail
    refine (OA.out _ I).mono ?_
    rintro e u2 ⟨m1, m2, C⟩
    obtain rfl := m1 rfl
    clear m1 m2
    replace B := bel_tr B C
    replace I := nd_below I C
    clear C
    go_wp2_with fail
    refine (OB.out _ I).mono ?_
    rintro e u3 ⟨m1, m2, C⟩
    obtain rfl := m1 rfl
    clear m1 m2
    replace B := bel_tr B C
    replace I := nd_below I C
    clear C
    go_wp2_with fail
    refine (eqNd none none 0 0 [] _ (.inl rfl) (.inl rfl) (by simp)).mono ?_
    rintro e u4 ⟨rfl, C⟩
    replace B := bel_tr B C
    replace I := nd_below I C
    clear C
    go_wp2_with fail
    refine (OB.out _ I).mono ?_
    rintro e u5 ⟨m1, m2, C⟩
    obtain rfl := m1 rfl
    clear m1 m2
    replace B := bel_tr B C
    replace I := nd_below I C
    clear C
    go_wp2_with fail
    refine (eqNd none none 0 0 [] _ (.inl rfl) (.inl rfl) (by simp)).mono ?_
    rintro e u6 ⟨rfl, C⟩
    replace B := bel_tr B C
    replace I := nd_below I C
    clear C
    go_wp2_with fail
    go_ret
    exact ⟨rfl, B⟩
  rw [hv] at OA OB
  obtain ⟨h1, h2, w0, w1⟩ := sgB_is hv
  obtain ⟨k, rfl, hk⟩ := inN_yes h2
  have hyl := sgL_len xs (k : Int) wt
  have hv3 := vn_gate h1 hk w0 w1
  have hzl := sgL_len xs (k : Int) 0
  have hv4 := vn_gate h1 hk (w := 0) (by omega) (by omega)
  have GZ := Lib.hid (fun W h => GI.out W h (k : Int) 0)
  rw [sg_yes h1 hk (by omega : (0 : Int) ≤ 0) (by omega)] at GZ
  obtain ⟨q0, q1⟩ := (vn_at h1 hk).1
  have GB : Hid (∀ (W : World) (g c : Nat), Flat W g 34 (flatNd (sgL xs (k : Int) wt)) → xs.length ≤ c → Calls Try.prog 18 #[.slice (some ⟨g, 0, none⟩) xs.length c, .int .i64 (k : Int), .int .i64 (xs.getD k nd0).2.1] W (OutNd W true xs)) := fun W g c hF hc => by
    have := iSetGate (some ⟨g, 0, none⟩) c (sgL xs (k : Int) wt) (k : Int) (xs.getD k nd0).2.1 W hF.nd (by rw [hyl]; exact n1) (by rw [hyl]; exact hc)
    rw [hyl, sg_yes hv3 (by rw [hyl]; exact hk) q0 q1, sg_back hk wt] at this
    exact this
  have FB : Hid (∀ (W : World) (g c : Nat), Flat W g 34 (flatNd (sgL xs (k : Int) 0)) → xs.length ≤ c → Calls Try.prog 21 #[.slice (some ⟨g, 0, none⟩) xs.length c, .int .i64 100] W (OutI W (comeF (sgL xs (k : Int) 0) 100))) := fun W g c hF hc => by
    have := iFlows (some ⟨g, 0, none⟩) c (sgL xs (k : Int) 0) 100 W hF.nd (by rw [hzl]; exact n1) (by rw [hzl]; exact hc)
    rw [hzl, flow_yes (by unfold flB; rw [hv4]; rfl)] at this
    exact this
  have HZ : Hid (k ≠ 0 → (comeF (sgL xs (k : Int) 0) 100).getD k 0 = 0) := fun c => shut_zero h1 hk (by omega) (by omega)
  have HCL : Hid ((comeF (sgL xs (k : Int) 0) 100).length = xs.length) := (comeTo_len _ _ _).trans hzl
  have hx0 : ((xs.length : Int) == 0) = false := beq_eq_false_iff_ne.2 (by omega)
  have hx1 : (xs.length == 0) = false := beq_eq_false_iff_ne.2 (by omega)
  have k0 : (0 : Int) ≤ (k : Int) := by omega
  have k1 : (k : Int) < (xs.length : Int) := by omega
  rcases (show IsNd u1 b xs from I) with rfl | ⟨g, o, rfl, _⟩
  · simp at l1
  have HYL := Lib.hid hyl
  have HZL := Lib.hid hzl
  clear hv h1 h2 hyl hzl hv3 hv4 GI GS
  generalize sgL xs (k : Int) wt = ys at *
  generalize comeF (sgL xs (k : Int) 0) 100 = cz at *
  generalize sgL xs (k : Int) 0 = zs at *
  go_wp2_with fail
  refine (OA.out _ I).mono ?_
  rintro e u2 ⟨m1, m2, C⟩
  obtain ⟨gF, cF, rfl, _, F, lcF⟩ := m2 rfl
  clear m1 m2
  replace B := bel_tr B C
  replace I := nd_below I C
  clear C
  have hlF := HYL.out
  rw [hlF] at lcF ⊢
  clear hlF
  go_wp2_with fail
  refine (OB.out _ I).mono ?_
  rintro e u3 ⟨m1, m2, C⟩
  obtain ⟨gG, cG, rfl, _, G, lcG⟩ := m2 rfl
  clear m1 m2
  replace B := bel_tr B C
  replace I := nd_below I C
  replace F := F.next C
  clear C
  have hlG := HYL.out
  rw [hlG] at lcG ⊢
  clear hlG
  go_wp2_with fail
  have CE := eqNd (some ⟨gF, 0, none⟩) (some ⟨gG, 0, none⟩) cF cG ys _ F.nd G.nd (by rw [HYL.out]; exact n1)
  rw [HYL.out] at CE
  refine (CE).mono ?_
  rintro e u4 ⟨rfl, C⟩
  replace B := bel_tr B C
  replace I := nd_below I C
  replace F := F.next C
  replace G := G.next C
  clear C
  go_wp2_with fail
  clear CE G
  refine (GZ.out _ I).mono ?_
  rintro e u5 ⟨m1, m2, C⟩
  obtain ⟨gZ, cZ, rfl, _, Z, lcZ⟩ := m2 rfl
  clear m1 m2
  replace B := bel_tr B C
  replace I := nd_below I C
  replace F := F.next C
  clear C
  have hlZ := HZL.out
  rw [hlZ] at lcZ ⊢
  clear hlZ
  have c1 : ∃ z, (xs.getD k nd0).2.1 = z ∧ u5.cell? ⟨g, o + k * 5 + 1, none⟩ = some (.int .i64 z) := (by
    rcases I with rfl | ⟨g', o', e, hc⟩
    · simp at l1
    · injection e with e; injection e with e1 e2 e3; subst e1 e2; exact ⟨_, rfl, (hc k hk).2.1⟩)
  obtain ⟨z, hz, c1⟩ := c1
  rw [hz] at GB
  clear hz q0 q1
  go_wp2_with fail
  refine (GB.out _ _ _ F lcF).mono ?_
  rintro e u6 ⟨m1, m2, C⟩
  obtain ⟨gX, cX, rfl, _, X, lcX⟩ := m2 rfl
  clear m1 m2
  replace B := bel_tr B C
  replace I := nd_below I C
  replace F := F.next C
  replace Z := Z.next C
  clear C
  go_wp2_with fail
  clear F
  refine (eqNd (some ⟨gX, 0, none⟩) (some ⟨g, o, none⟩) cX cp xs _ X.nd I n1).mono ?_
  rintro e u7 ⟨rfl, C⟩
  replace B := bel_tr B C
  replace I := nd_below I C
  replace Z := Z.next C
  replace X := X.next C
  clear C
  by_cases hk0 : k = 0
  · subst hk0
    go_wp2_with fail
    go_ret
    exact ⟨rfl, B⟩
  · have e1 : ((k : Int) == 0) = false := beq_eq_false_iff_ne.2 (by omega)
    have e2 : (k == 0) = false := beq_eq_false_iff_ne.2 hk0
    have hzz := HZ.out hk0
    go_wp2_with fail
    refine (FB.out _ _ _ Z lcZ).mono ?_
    rintro e u8 ⟨vQ, rfl, Q, C⟩
    obtain ⟨bQ, cQ, rfl, _⟩ := Q.ints
    replace B := bel_tr B C
    replace I := nd_below I C
    replace Z := Z.next C
    replace X := X.next C
    clear C
    rw [HCL.out] at Q ⊢
    obtain ⟨gQ, rfl, _⟩ := Q.form_ (by rw [HCL.out]; omega)
    have kc := Q.cell (j := k) (by rw [HCL.out]; exact hk)
    rw [hzz] at kc
    clear hzz
    go_wp2_with fail
    go_ret
    exact ⟨rfl, B⟩

set_option maxRecDepth 100000 in
theorem lifted (os : Os) (started : os.Started) (H : Type) (enc : TypeId × Value → H) :
    ReturnsInHanded {} Try.checked os 5 .any (Rows.fnSetGateSpec.pre6 enc Try.prog Try.f5 Rows.fnSetGateRow.domain false) (Rows.fnSetGateSpec.post enc Try.prog Try.f5 false true false false) := by
  refine returnsInHanded_of_change (C := Try.checked) own started (by kernel_rfl) Try.func5
    (ChangeSpec.witness6 (enc := enc) (C := Try.checked) false ⟨#[], #[.slice none 0 0], []⟩ 8 (by kernel_rfl) (by kernel_rfl) (by kernel_rfl) (by kernel_rfl)) ?_
  intro W base args ds gs before hval0 hW hcnd _
  have hval : ∀ (j : Nat) t v, Try.f5.params[j]? = some t → args[j]? = some v → Value.okWide Try.prog W .any base t v := hval0
  have hW' := hW
  obtain ⟨p, q, hA0, hV, rfl, hfz, hnd⟩ := hW
  have hA : DataW.TrodAll enc Try.prog W 0 (fun _ => true) true Try.f5.params.toList args.toList ds p := hA0
  rw [Try.params5] at hA hval
  obtain ⟨v0, vs0, e0, es0, p0, q0, hargs, rfl, rfl, h0, r0⟩ := trodAll_cons hA
  obtain ⟨rfl, rfl, rfl⟩ := trodAll_nil r0
  obtain rfl : args = #[v0] := by cases args; simp_all
  obtain ⟨rfl, rfl⟩ := trodVars_none hV
  have k0 := h0
  have lt0 : ∀ x ∈ p0, x.block < W.heap.size := by obtain ⟨m, hm⟩ := k0; exact DataW.trod_lt m _ _ _ hm
  obtain ⟨a0, len0, cap0, rfl⟩ := okWide_slice Try.underlying22 (hval 0 22 v0 rfl rfl)
  obtain ⟨z0, w0⟩ : ∃ zs, IsRow .u8 W a0 len0 cap0 zs := by
    obtain ⟨fuel, hf⟩ := h0
    rcases open_ints Try.underlying22 Try.underlying5 (by kernel_rfl) hf with ⟨hcs, _⟩ | ⟨x, l, c, zs, hcs, _, hl, hm, hz, _, hcell, hwz⟩
    · simp [Value.cells] at hcs
      obtain ⟨rfl, rfl, rfl⟩ := hcs
      exact ⟨[], .inl ⟨rfl, rfl, rfl, rfl⟩⟩
    · simp [Value.cells] at hcs
      obtain ⟨rfl, rfl, rfl⟩ := hcs
      exact ⟨zs, .inr ⟨_, rfl, hl, hm, by simpa using hz, hcell, hwz⟩⟩
  clear hA0 hval0
  refine (walk a0 len0 cap0 z0 W w0).mono fun e W' ⟨he, bel⟩ => ?_
  subst he
  exact ⟨_, rfl, _, _, _, [], _, [], hW', trodAll_mk1 (shut_bool Try.underlying4 _), (trodAll_cons_mk (Below.trod laidOut (by kernel_rfl) (of_decide_eq_true (by kernel_rfl)) k0 bel lt0) trodAll_mk0), rfl, bel.frame _, fun h => by cases h⟩

theorem over : Rows.fnSetGateRow.holds Try.pinned (OpenSpec.ofChange Rows.fnSetGateSpec) :=
  OpenClaim.holds_of_wide 5 Try.f5 rfl rfl rfl rfl rfl rfl rfl ⟨rfl, rfl, rfl, rfl, rfl⟩ rfl rfl rfl rfl rfl (by kernel_rfl) Try.func5 (by kernel_rfl)
    (of_decide_eq_true (by kernel_rfl)) (by unfold Func.isWrapper; first | (rw [if_pos (by decide +kernel)]; kernel_rfl) | (rw [if_neg (by decide +kernel)]; exact ⟨rfl, rfl⟩))
    (fun os started H enc _ => lifted os started H enc)

end Go.Proofs.Ytlpmeljneogpiab.fnSetGate
namespace Go.Proofs.Ytlpmeljneogpiab
/-- the statement -/
theorem fnSetGate_holds : Rows.FnSetGateSaid := fnSetGate.over
end Go.Proofs.Ytlpmeljneogpiab
