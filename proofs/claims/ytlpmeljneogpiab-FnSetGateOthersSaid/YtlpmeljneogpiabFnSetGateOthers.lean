/- For every input the law answers true, and its argument reads afterwards as before: a gate that is shut leaves more for others. No condition. -/
import Derived.Test.YtlpmeljneogpiabRows
import Derived.Test.YtlpmeljneogpiabDrawNb
import Derived.Test.YtlpmeljneogpiabNodQ
import Derived.Test.YtlpmeljneogpiabLawIn
import Derived.Test.YtlpmeljneogpiabEqI
import Derived.Test.YtlpmeljneogpiabGrA
import Derived.Test.YtlpmeljneogpiabEqN
import Derived.Test.YtlpmeljneogpiabNodV
import Derived.Test.YtlpmeljneogpiabFlowT
import Derived.Test.YtlpmeljneogpiabFlowJ
import Derived.WalkKit
import Derived.Deep.RegionHeld3
import Derived.Deep.QuietTactic
import Derived.BigQuiet
import Derived.ProofKit
import Derived.OpenShut
import Derived.ShutString
import Derived.ChangeOld
import Derived.Below
import Derived.Lib.SmallJoins
namespace Go.Proofs.Ytlpmeljneogpiab.fnSetGateOthers
open Go.ChangeShapes Go.WideShapes Go.ChangeAt Go.RowKit Go.Joins
open Go.ChangeMaps (open_string shut_string)
set_option linter.unusedVariables false
set_option linter.unusedSimpArgs false

theorem own : ownKnob Try.prog.godebug = none := by kernel_rfl
theorem laidOut : laidOutB Try.prog = true := by kernel_rfl

set_option maxRecDepth 100000 in
set_option maxHeartbeats 8000000 in
theorem walk (a0 : Option Addr) (len0 cap0 : Nat) (z0 : List Int) (w : World) (w0 : IsRow .u8 w a0 len0 cap0 z0) :
    Calls Try.prog 6 #[.slice a0 len0 cap0] w fun e w' => e = .returned (.bool true) ∧ Below w.heap.size w w' := by
  by_cases big : (1048576 : Int) < (len0 : Int)
  · go_enter Try.func6, Try.ntmps6
    go_wp2
    go_ret
    exact ⟨rfl, Below.refl _ _⟩
  go_enter Try.func6, Try.ntmps6
  go_wp2_with fail
  refine (drawSetGate a0 len0 cap0 z0 _ w0).mono ?_
  rintro e u1 ⟨b, cp, xs, at_, wt, rfl, l1, l10, hlc, I, i0, i1, j0, j1, B⟩
  clear w0 big
  have n1 : xs.length ≤ 1048576 := by omega
  have GI := Lib.hid (fun (W : World) (h : IsNd W b xs) (i j : Int) => iSetGate b cp xs i j W h n1 hlc)
  have GS := Lib.hid (fun (W : World) (h : IsNd W b xs) (i j : Int) => sSetGate b cp xs i j W h n1 hlc)
  have KI := Lib.hid (fun (W : World) (h : IsNd W b xs) (i : Int) => iKids b cp xs i W h n1 hlc)
  have FI := Lib.hid (fun (W : World) (h : IsNd W b xs) (i : Int) => iFlows b cp xs i W h n1 hlc)
  have OA := Lib.hid (fun W h => GI.out W h at_ wt)
  have OB := Lib.hid (fun W h => GS.out W h at_ wt)
  by_cases hv : sgB xs at_ wt = true
  rotate_left
  · have hv2 : sgB xs at_ wt = false := by simpa using hv
    rw [hv2] at OA OB
    clear hv hv2 GI GS KI FI
    go_wp2_with fail
    refine (OA.out _ I).mono ?_
    rintro e u2 ⟨m1, m2, C⟩
    obtain rfl := m1 rfl
    clear m1 m2
    replace B := bel_tr B C
    replace I := nd_below I C
    clear C
    go_wp2_with fail
    refine (OB.out _ I).mono ?_
    rintro e u3 ⟨m1, m2, C⟩
    obtain rfl := m1 rfl
    clear m1 m2
    replace B := bel_tr B C
    replace I := nd_below I C
    clear C
    go_wp2_with fail
    refine (eqNd none none 0 0 [] _ (.inl rfl) (.inl rfl) (by simp)).mono ?_
    rintro e u4 ⟨rfl, C⟩
    replace B := bel_tr B C
    replace I := nd_below I C
    clear C
    go_wp2_with fail
    refine (OB.out _ I).mono ?_
    rintro e u5 ⟨m1, m2, C⟩
    obtain rfl := m1 rfl
    clear m1 m2
    replace B := bel_tr B C
    replace I := nd_below I C
    clear C
    go_wp2_with fail
    refine (eqNd none none 0 0 [] _ (.inl rfl) (.inl rfl) (by simp)).mono ?_
    rintro e u6 ⟨rfl, C⟩
    replace B := bel_tr B C
    replace I := nd_below I C
    clear C
    go_wp2_with fail
    go_ret
    exact ⟨rfl, B⟩
  rw [hv] at OA OB
  obtain ⟨h1, h2, w0, w1⟩ := sgB_is hv
  obtain ⟨k, rfl, hk⟩ := inN_yes h2
  have hyl := sgL_len xs (k : Int) wt
  have hx0 : ((xs.length : Int) == 0) = false := beq_eq_false_iff_ne.2 (by omega)
  have hx1 : (xs.length == 0) = false := beq_eq_false_iff_ne.2 (by omega)
  have k0 : (0 : Int) ≤ (k : Int) := by omega
  have k1 : (k : Int) < (xs.length : Int) := by omega
  rcases (show IsNd u1 b xs from I) with rfl | ⟨g, o, rfl, _⟩
  · simp at l1
  have HYL := Lib.hid hyl
  by_cases hk0 : k = 0
  · subst hk0
    clear hv h1 h2 hyl GI GS KI FI
    generalize sgL xs ((0 : Nat) : Int) wt = ys at *
    go_wp2_with fail
    refine (OA.out _ I).mono ?_
    rintro e u2 ⟨m1, m2, C⟩
    obtain ⟨gF, cF, rfl, _, F, lcF⟩ := m2 rfl
    clear m1 m2
    replace B := bel_tr B C
    replace I := nd_below I C
    clear C
    have hlF := HYL.out
    rw [hlF] at lcF ⊢
    clear hlF
    go_wp2_with fail
    refine (OB.out _ I).mono ?_
    rintro e u3 ⟨m1, m2, C⟩
    obtain ⟨gG, cG, rfl, _, G, lcG⟩ := m2 rfl
    clear m1 m2
    replace B := bel_tr B C
    replace I := nd_below I C
    replace F := F.next C
    clear C
    have hlG := HYL.out
    rw [hlG] at lcG ⊢
    clear hlG
    go_wp2_with fail
    have CE := eqNd (some ⟨gF, 0, none⟩) (some ⟨gG, 0, none⟩) cF cG ys _ F.nd G.nd (by rw [HYL.out]; exact n1)
    rw [HYL.out] at CE
    refine (CE).mono ?_
    rintro e u4 ⟨rfl, C⟩
    replace B := bel_tr B C
    replace I := nd_below I C
    replace F := F.next C
    replace G := G.next C
    clear C
    go_wp2_with fail
    clear CE G
    refine (OB.out _ I).mono ?_
    rintro e u5 ⟨m1, m2, C⟩
    obtain ⟨gH, cH, rfl, _, H, lcH⟩ := m2 rfl
    clear m1 m2
    replace B := bel_tr B C
    replace I := nd_below I C
    replace F := F.next C
    clear C
    have hlH := HYL.out
    rw [hlH] at lcH ⊢
    clear hlH
    go_wp2_with fail
    have CE := eqNd (some ⟨gF, 0, none⟩) (some ⟨gH, 0, none⟩) cF cH ys _ F.nd H.nd (by rw [HYL.out]; exact n1)
    rw [HYL.out] at CE
    refine (CE).mono ?_
    rintro e u6 ⟨rfl, C⟩
    replace B := bel_tr B C
    replace I := nd_below I C
    replace F := F.next C
    replace H := H.next C
    clear C
    go_wp2_with fail
    clear CE H
    go_ret
    exact ⟨rfl, B⟩
  have e1 : ((k : Int) == 0) = false := beq_eq_false_iff_ne.2 (by omega)
  have e2 : (k == 0) = false := beq_eq_false_iff_ne.2 hk0
  have hzl := sgL_len xs (k : Int) 0
  have hv4 := vn_gate h1 hk (w := 0) (by omega) (by omega)
  have GZ := Lib.hid (fun W h => GI.out W h (k : Int) 0)
  rw [sg_yes h1 hk (by omega : (0 : Int) ≤ 0) (by omega)] at GZ
  obtain ⟨p0, p1⟩ := vn_par h1 hk (by omega)
  obtain ⟨p, hp⟩ : ∃ p : Nat, (xs.getD k nd0).1 = (p : Int) := ⟨(xs.getD k nd0).1.toNat, by omega⟩
  have hpk : p < k := by omega
  have KA := Lib.hid (fun W h => KI.out W h (p : Int))
  rw [kids_yes h1 (inN_is (by omega : p < xs.length))] at KA
  have FA := Lib.hid (fun W h => FI.out W h 120)
  rw [flow_yes (by unfold flB; rw [h1]; rfl)] at FA
  have FB : Hid (∀ (W : World) (g c : Nat), Flat W g 34 (flatNd (sgL xs (k : Int) 0)) → xs.length ≤ c → Calls Try.prog 21 #[.slice (some ⟨g, 0, none⟩) xs.length c, .int .i64 120] W (OutI W (comeF (sgL xs (k : Int) 0) 120))) := fun W g c hF hc => by
    have := iFlows (some ⟨g, 0, none⟩) c (sgL xs (k : Int) 0) 120 W hF.nd (by rw [hzl]; exact n1) (by rw [hzl]; exact hc)
    rw [hzl, flow_yes (by unfold flB; rw [hv4]; rfl)] at this
    exact this
  have HG := Lib.hid (fun j hj hne => gate_others h1 hk hp hpk (fl := 120) (by omega) (j := j) hj hne)
  have HKM : Hid (∀ z ∈ kidsF xs (p : Int), ∃ j : Nat, z = (j : Int) ∧ j < xs.length) := fun z hz => by obtain ⟨j, a, b, _⟩ := kids_bd hz; exact ⟨j, a, b⟩
  have HCL : Hid ((comeF xs 120).length = xs.length ∧ (comeF (sgL xs (k : Int) 0) 120).length = xs.length) := ⟨comeTo_len _ _ _, (comeTo_len _ _ _).trans hzl⟩
  have HZL := Lib.hid hzl
  have HP := Lib.hid hp
  clear hv h1 h2 hyl hzl hv4 GI GS KI FI p0 p1 hp hpk
  generalize sgL xs (k : Int) wt = ys at *
  generalize comeF (sgL xs (k : Int) 0) 120 = cz at *
  generalize comeF xs 120 = cx at *
  generalize sgL xs (k : Int) 0 = zs at *
  have hkl := kids_len2 xs (p : Int)
  generalize kidsF xs (p : Int) = ks at *
  go_wp2_with fail
  refine (OA.out _ I).mono ?_
  rintro e u2 ⟨m1, m2, C⟩
  obtain ⟨gF, cF, rfl, _, F, lcF⟩ := m2 rfl
  clear m1 m2
  replace B := bel_tr B C
  replace I := nd_below I C
  clear C
  have hlF := HYL.out
  rw [hlF] at lcF ⊢
  clear hlF
  go_wp2_with fail
  refine (OB.out _ I).mono ?_
  rintro e u3 ⟨m1, m2, C⟩
  obtain ⟨gG, cG, rfl, _, G, lcG⟩ := m2 rfl
  clear m1 m2
  replace B := bel_tr B C
  replace I := nd_below I C
  replace F := F.next C
  clear C
  have hlG := HYL.out
  rw [hlG] at lcG ⊢
  clear hlG
  go_wp2_with fail
  have CE := eqNd (some ⟨gF, 0, none⟩) (some ⟨gG, 0, none⟩) cF cG ys _ F.nd G.nd (by rw [HYL.out]; exact n1)
  rw [HYL.out] at CE
  refine (CE).mono ?_
  rintro e u4 ⟨rfl, C⟩
  replace B := bel_tr B C
  replace I := nd_below I C
  replace F := F.next C
  replace G := G.next C
  clear C
  clear CE G F
  have c1 : u4.cell? ⟨g, o + k * 5, none⟩ = some (.int .i64 (p : Int)) := (by
    rcases I with rfl | ⟨g', o', e, hc⟩
    · simp at l1
    · injection e with e; injection e with e1 e2 e3; subst e1 e2; have := (hc k hk).1; rw [HP.out] at this; exact this)
  go_wp2_with fail
  refine (KA.out _ I).mono ?_
  rintro e u5 ⟨vK, rfl, K, C⟩
  obtain ⟨bK, cK, rfl, _⟩ := K.ints
  replace B := bel_tr B C
  replace I := nd_below I C
  clear C
  clear c1
  go_wp2_with fail
  refine (FA.out _ I).mono ?_
  rintro e u6 ⟨vX, rfl, X, C⟩
  obtain ⟨bX, cX, rfl, _⟩ := X.ints
  replace B := bel_tr B C
  replace I := nd_below I C
  replace K := K.of_block C
  clear C
  go_wp2_with fail
  refine (GZ.out _ I).mono ?_
  rintro e u7 ⟨m1, m2, C⟩
  obtain ⟨gZ, cZ, rfl, _, Z, lcZ⟩ := m2 rfl
  clear m1 m2
  replace B := bel_tr B C
  replace I := nd_below I C
  replace K := K.of_block C
  replace X := X.of_block C
  clear C
  have hlZ := HZL.out
  rw [hlZ] at lcZ ⊢
  clear hlZ
  go_wp2_with fail
  refine (FB.out _ _ _ Z lcZ).mono ?_
  rintro e u8 ⟨vY, rfl, Y, C⟩
  obtain ⟨bY, cY, rfl, _⟩ := Y.ints
  replace B := bel_tr B C
  replace I := nd_below I C
  replace K := K.of_block C
  replace X := X.of_block C
  replace Z := Z.next C
  clear C
  have hL := HCL.out
  rw [hL.1] at X ⊢
  rw [hL.2] at Y ⊢
  clear hL
  go_wp2_with fail
  go_loopw [10] (fun i wr => ∃ q : Nat, q ≤ ks.length ∧ i = .int .i64 q ∧ Hid (OwnI wr _ (.slice bK ks.length cK) ks ∧ OwnI wr _ (.slice bX xs.length cX) cx ∧ OwnI wr _ (.slice bY xs.length cY) cz ∧ Below w.heap.size w wr)) (fun i _ => ks.length - (intOf i).toNat)
  case atStart => exact ⟨0, Nat.zero_le _, rfl, K, X, Y, B⟩
  case round =>
    clear I K X Y Z B
    obtain ⟨q, hq, rfl, HR⟩ := hrel
    by_cases hlt : q < ks.length
    · obtain ⟨gK, rfl, _⟩ := HR.out.1.form_ (by omega)
      obtain ⟨gX, rfl, _⟩ := HR.out.2.1.form_ (by rw [HCL.out.1]; omega)
      obtain ⟨gY, rfl, _⟩ := HR.out.2.2.1.form_ (by rw [HCL.out.2]; omega)
      have c1 := HR.out.1.cell hlt
      obtain ⟨j, hj, hjl⟩ := HKM.out _ (getD_mem hlt)
      have c2 := HR.out.2.1.cell (j := j) (by rw [HCL.out.1]; exact hjl)
      have c3 := HR.out.2.2.1.cell (j := j) (by rw [HCL.out.2]; exact hjl)
      have hg := HG.out q hlt
      rw [hj, show ((j : Int)).toNat = j from by omega] at hg
      rw [hj] at c1
      generalize cx.getD j 0 = y1 at c2 hg
      generalize cz.getD j 0 = y2 at c3 hg
      have b0 : (0 : Int) ≤ (j : Int) := by omega
      have b1 : (j : Int) < (xs.length : Int) := by omega
      have b2 : (0 : Int) ≤ (q : Int) := by omega
      have b3 : (q : Int) < (ks.length : Int) := by omega
      have HF : Hid (∀ n, OwnI (wr.drewN n) _ (.slice (some ⟨gK, 0, none⟩) ks.length cK) ks ∧ OwnI (wr.drewN n) _ (.slice (some ⟨gX, 0, none⟩) xs.length cX) cx ∧ OwnI (wr.drewN n) _ (.slice (some ⟨gY, 0, none⟩) xs.length cY) cz ∧ Below w.heap.size w (wr.drewN n)) := fun n => ⟨HR.out.1, HR.out.2.1, HR.out.2.2.1, below_drewN HR.out.2.2.2 n⟩
      clear HR hj
      by_cases hjk : j = k
      · subst hjk
        clear hg
        go_wp2_with fail
        go_quiet (fail)
        go_wp2_with fail
        go_roundw
        case rel => exact ⟨q + 1, by omega, by go_num, HF.out _⟩
        case measure => simp [intOf]; omega
      · have hg2 := hg (by omega)
        have n1_ : ((j : Int) == (k : Int)) = false := beq_eq_false_iff_ne.2 (by omega)
        have n2_ : (j == k) = false := beq_eq_false_iff_ne.2 hjk
        have n3_ : decide (y2 < y1) = false := decide_eq_false (by omega)
        have n4_ : ¬ (j : Int) = (k : Int) := by omega
        have n5_ : ((j : Int) != (k : Int)) = true := by simp [bne, n1_]
        clear hg hg2
        go_wp2_with fail
        go_quiet (fail)
        go_wp2_with fail
        go_roundw
        case rel => exact ⟨q + 1, by omega, by go_num, HF.out _⟩
        case measure => simp [intOf]; omega
    · have HB := Lib.hid HR.out.2.2.2
      clear HR
      go_wp2_with fail
      go_ret
      exact ⟨rfl, HB.out⟩

set_option maxRecDepth 100000 in
theorem lifted (os : Os) (started : os.Started) (H : Type) (enc : TypeId × Value → H) :
    ReturnsInHanded {} Try.checked os 6 .any (Rows.fnSetGateOthersSpec.pre6 enc Try.prog Try.f6 Rows.fnSetGateOthersRow.domain false) (Rows.fnSetGateOthersSpec.post enc Try.prog Try.f6 false true false false) := by
  refine returnsInHanded_of_change (C := Try.checked) own started (by kernel_rfl) Try.func6
    (ChangeSpec.witness6 (enc := enc) (C := Try.checked) false ⟨#[], #[.slice none 0 0], []⟩ 8 (by kernel_rfl) (by kernel_rfl) (by kernel_rfl) (by kernel_rfl)) ?_
  intro W base args ds gs before hval0 hW hcnd _
  have hval : ∀ (j : Nat) t v, Try.f6.params[j]? = some t → args[j]? = some v → Value.okWide Try.prog W .any base t v := hval0
  have hW' := hW
  obtain ⟨p, q, hA0, hV, rfl, hfz, hnd⟩ := hW
  have hA : DataW.TrodAll enc Try.prog W 0 (fun _ => true) true Try.f6.params.toList args.toList ds p := hA0
  rw [Try.params6] at hA hval
  obtain ⟨v0, vs0, e0, es0, p0, q0, hargs, rfl, rfl, h0, r0⟩ := trodAll_cons hA
  obtain ⟨rfl, rfl, rfl⟩ := trodAll_nil r0
  obtain rfl : args = #[v0] := by cases args; simp_all
  obtain ⟨rfl, rfl⟩ := trodVars_none hV
  have k0 := h0
  have lt0 : ∀ x ∈ p0, x.block < W.heap.size := by obtain ⟨m, hm⟩ := k0; exact DataW.trod_lt m _ _ _ hm
  obtain ⟨a0, len0, cap0, rfl⟩ := okWide_slice Try.underlying22 (hval 0 22 v0 rfl rfl)
  obtain ⟨z0, w0⟩ : ∃ zs, IsRow .u8 W a0 len0 cap0 zs := by
    obtain ⟨fuel, hf⟩ := h0
    rcases open_ints Try.underlying22 Try.underlying5 (by kernel_rfl) hf with ⟨hcs, _⟩ | ⟨x, l, c, zs, hcs, _, hl, hm, hz, _, hcell, hwz⟩
    · simp [Value.cells] at hcs
      obtain ⟨rfl, rfl, rfl⟩ := hcs
      exact ⟨[], .inl ⟨rfl, rfl, rfl, rfl⟩⟩
    · simp [Value.cells] at hcs
      obtain ⟨rfl, rfl, rfl⟩ := hcs
      exact ⟨zs, .inr ⟨_, rfl, hl, hm, by simpa using hz, hcell, hwz⟩⟩
  clear hA0 hval0
  refine (walk a0 len0 cap0 z0 W w0).mono fun e W' ⟨he, bel⟩ => ?_
  subst he
  exact ⟨_, rfl, _, _, _, [], _, [], hW', trodAll_mk1 (shut_bool Try.underlying4 _), (trodAll_cons_mk (Below.trod laidOut (by kernel_rfl) (of_decide_eq_true (by kernel_rfl)) k0 bel lt0) trodAll_mk0), rfl, bel.frame _, fun h => by cases h⟩

theorem over : Rows.fnSetGateOthersRow.holds Try.pinned (OpenSpec.ofChange Rows.fnSetGateOthersSpec) :=
  OpenClaim.holds_of_wide 6 Try.f6 rfl rfl rfl rfl rfl rfl rfl ⟨rfl, rfl, rfl, rfl, rfl⟩ rfl rfl rfl rfl rfl (by kernel_rfl) Try.func6 (by kernel_rfl)
    (of_decide_eq_true (by kernel_rfl)) (by unfold Func.isWrapper; first | (rw [if_pos (by decide +kernel)]; kernel_rfl) | (rw [if_neg (by decide +kernel)]; exact ⟨rfl, rfl⟩))
    (fun os started H enc _ => lifted os started H enc)

end Go.Proofs.Ytlpmeljneogpiab.fnSetGateOthers
namespace Go.Proofs.Ytlpmeljneogpiab
/-- the statement -/
theorem fnSetGateOthers_holds : Rows.FnSetGateOthersSaid := fnSetGateOthers.over
end Go.Proofs.Ytlpmeljneogpiab
