/- For every input the law answers true, and its argument reads afterwards as before: water is divided, not made. No condition. -/
import Derived.Test.YtlpmeljneogpiaaRows
import Derived.Test.YtlpmeljneogpiaaDrawNb
import Derived.Test.YtlpmeljneogpiaaNodQ
import Derived.Test.YtlpmeljneogpiaaLawIn
import Derived.Test.YtlpmeljneogpiaaEqI
import Derived.Test.YtlpmeljneogpiaaGrA
import Derived.Test.YtlpmeljneogpiaaFlowK
import Derived.Test.YtlpmeljneogpiaaFlowW
import Derived.Test.YtlpmeljneogpiaaNodR
import Derived.WalkKit
import Derived.Deep.RegionHeld3
import Derived.Deep.QuietTactic
import Derived.BigQuiet
import Derived.ProofKit
import Derived.OpenShut
import Derived.ShutString
import Derived.ChangeOld
import Derived.Below
import Derived.Lib.SmallJoins
namespace Go.Proofs.Ytlpmeljneogpiaa.fnFlowsOf
open Go.ChangeShapes Go.WideShapes Go.ChangeAt Go.RowKit Go.Joins
open Go.ChangeMaps (open_string shut_string)
set_option linter.unusedVariables false
set_option linter.unusedSimpArgs false

theorem own : ownKnob Try.prog.godebug = none := by kernel_rfl
theorem laidOut : laidOutB Try.prog = true := by kernel_rfl

set_option maxRecDepth 100000 in
set_option maxHeartbeats 8000000 in
theorem walk (a0 : Option Addr) (len0 cap0 : Nat) (z0 : List Int) (w : World) (w0 : IsRow .u8 w a0 len0 cap0 z0) :
    Calls Try.prog 8 #[.slice a0 len0 cap0] w fun e w' => e = .returned (.bool true) ∧ Below w.heap.size w w' := by
  by_cases big : (1048576 : Int) < (len0 : Int)
  · go_enter Try.func8, Try.ntmps8
    go_wp2
    go_ret
    exact ⟨rfl, Below.refl _ _⟩
  go_enter Try.func8, Try.ntmps8
  go_wp2_with fail
  refine (drawFlowsOf a0 len0 cap0 z0 _ w0).mono ?_
  rintro e u1 ⟨b, cp, xs, fl, rfl, l1, l10, hlc, I, i0, i1, B⟩
  clear w0 big
  have n1 : xs.length ≤ 1048576 := by omega
  have FI := Lib.hid (fun (W : World) (h : IsNd W b xs) (i : Int) => iFlows b cp xs i W h n1 hlc)
  have FS := Lib.hid (fun (W : World) (h : IsNd W b xs) (i : Int) => sFlows b cp xs i W h n1)
  have QI := Lib.hid (fun (W : World) (h : IsNd W b xs) (i : Int) => iPassed b cp xs i W h n1 hlc)
  have KI := Lib.hid (fun (W : World) (h : IsNd W b xs) (i : Int) => iKids b cp xs i W h n1 hlc)
  have OA := Lib.hid (fun W h => FI.out W h fl)
  have OB := Lib.hid (fun W h => FS.out W h fl)
  by_cases hv : flB xs fl = true
  rotate_left
  · have hv2 : flB xs fl = false := by simpa using hv
    rw [flow_no hv2] at OA OB
    clear hv hv2 QI FI FS KI
    go_wp2_with fail
    refine (OA.out _ I).mono ?_
    rintro e u2 ⟨vO, rfl, O, C⟩
    obtain ⟨bO, cO, rfl, _⟩ := O.ints
    replace B := bel_tr B C
    replace I := nd_below I C
    clear C
    go_wp2_with fail
    refine (OB.out _ I).mono ?_
    rintro e u3 ⟨vP, rfl, P, C⟩
    obtain ⟨bP, cP, rfl, _⟩ := P.ints
    replace B := bel_tr B C
    replace I := nd_below I C
    replace O := O.of_block C
    clear C
    go_wp2_with fail
    refine (eqInts _ _ _ _ [] _ O.at_ P.at_ (by simp)).mono ?_
    rintro e u4 ⟨rfl, C⟩
    replace B := bel_tr B C
    replace I := nd_below I C
    replace O := O.of_block C
    replace P := P.of_block C
    clear C
    go_wp2_with fail
    clear P
    refine (OB.out _ I).mono ?_
    rintro e u5 ⟨vQ, rfl, Q, C⟩
    obtain ⟨bQ, cQ, rfl, _⟩ := Q.ints
    replace B := bel_tr B C
    replace I := nd_below I C
    replace O := O.of_block C
    clear C
    go_wp2_with fail
    refine (eqInts _ _ _ _ [] _ O.at_ Q.at_ (by simp)).mono ?_
    rintro e u6 ⟨rfl, C⟩
    replace B := bel_tr B C
    replace I := nd_below I C
    replace O := O.of_block C
    replace Q := Q.of_block C
    clear C
    go_wp2_with fail
    go_ret
    exact ⟨rfl, B⟩
  obtain ⟨h1, f0, f1⟩ := flB_is hv
  have hcl : (comeF xs fl).length = xs.length := comeTo_len xs fl _
  have nR : (comeF xs fl).length ≤ 1048576 := by rw [hcl]; exact n1
  rw [flow_yes hv] at OA OB
  have q0 : (((comeF xs fl).length : Int) == 0) = false := beq_eq_false_iff_ne.2 (by omega)
  have q1 : ((comeF xs fl).length == 0) = false := beq_eq_false_iff_ne.2 (by omega)
  have q2 : ¬ comeF xs fl = [] := fun e => by rw [e] at hcl; simp at hcl; omega
  have QA := Lib.hid (fun W h => QI.out W h fl)
  rw [passed_yes hv] at QA
  have KA := Lib.hid (fun (W : World) (h : IsNd W b xs) (m : Nat) (hm : m < xs.length) => (by have := KI.out W h (m : Int); rw [kids_yes h1 (inN_is hm)] at this; exact this : Calls Try.prog 32 #[.slice b xs.length cp, .int .i64 (m : Int)] W (OutI W (kidsF xs (m : Int)))))
  have HL : Hid ((comeF xs fl).length = xs.length ∧ (passF xs fl).length = xs.length) := ⟨hcl, passF_len _ _⟩
  have HV := Lib.hid h1
  have HS := Lib.hid (fun (m : Nat) (hm : m < xs.length) => got_sum h1 ⟨f0, f1⟩ hm)
  have HP := Lib.hid (fun (m : Nat) (hm : m < xs.length) => passF_bd h1 ⟨f0, f1⟩ hm)
  have HC := Lib.hid (fun k => come_bd h1 ⟨f0, f1⟩ k)
  have HSP := Lib.hid (come_spring h1 (fl := fl))
  have HGB := Lib.hid (fun (k : Int) m (hm : m ≤ (kidsF xs k).length) => got_bd h1 ⟨f0, f1⟩ k m hm)
  rcases (show IsNd u1 b xs from I) with rfl | ⟨g, o, rfl, _⟩
  · simp at l1
  clear hv h1 QI FI FS KI hcl
  go_wp2_with fail
  refine (OA.out _ I).mono ?_
  rintro e u2 ⟨vO, rfl, O, C⟩
  obtain ⟨bO, cO, rfl, _⟩ := O.ints
  replace B := bel_tr B C
  replace I := nd_below I C
  clear C
  go_wp2_with fail
  refine (OB.out _ I).mono ?_
  rintro e u3 ⟨vP, rfl, P, C⟩
  obtain ⟨bP, cP, rfl, _⟩ := P.ints
  replace B := bel_tr B C
  replace I := nd_below I C
  replace O := O.of_block C
  clear C
  go_wp2_with fail
  refine (eqInts _ _ _ _ (comeF xs fl) _ O.at_ P.at_ nR).mono ?_
  rintro e u4 ⟨rfl, C⟩
  replace B := bel_tr B C
  replace I := nd_below I C
  replace O := O.of_block C
  replace P := P.of_block C
  clear C
  go_wp2_with fail
  clear P
  refine (QA.out _ I).mono ?_
  rintro e u5 ⟨vS, rfl, S, C⟩
  obtain ⟨bS, cS, rfl, _⟩ := S.ints
  replace B := bel_tr B C
  replace I := nd_below I C
  replace O := O.of_block C
  clear C
  have hL := HL.out
  rw [hL.1] at O ⊢
  rw [hL.2] at S ⊢
  clear q0 q1 q2 hL
  go_wp2_with fail
  go_loopw [7] (fun i wr => ∃ k : Nat, k ≤ xs.length ∧ i = .int .i64 k ∧ Hid (IsNd wr (some ⟨g, o, none⟩) xs ∧ OwnI wr _ (.slice bO xs.length cO) (comeF xs fl) ∧ OwnI wr _ (.slice bS xs.length cS) (passF xs fl) ∧ Below w.heap.size w wr)) (fun i _ => xs.length - (intOf i).toNat)
  case atStart => exact ⟨0, Nat.zero_le _, rfl, I, O, S, B⟩
  case round =>
    clear I O S B
    obtain ⟨k, hk, rfl, HR⟩ := hrel
    by_cases hlt : k < xs.length
    · have CK := KA.out wr HR.out.1 k hlt
      go_wp2_with fail
      refine CK.mono ?_
      rintro e u ⟨vk, rfl, K, C⟩
      obtain ⟨bK, cK, rfl, _⟩ := K.ints
      have HR2 : Hid ((IsNd u (some ⟨g, o, none⟩) xs ∧ OwnI u _ (.slice bO xs.length cO) (comeF xs fl) ∧ OwnI u _ (.slice bS xs.length cS) (passF xs fl) ∧ Below w.heap.size w u) ∧ OwnI u _ (.slice bK (kidsF xs (k : Int)).length cK) (kidsF xs (k : Int))) := ⟨⟨nd_below HR.out.1 C, HR.out.2.1.of_block C, HR.out.2.2.1.of_block C, bel_tr HR.out.2.2.2 C⟩, K⟩
      have hkl := kids_len xs (k : Int)
      have HGK := Lib.hid (fun m hm => HGB.out (k : Int) m hm)
      have HKM : Hid (∀ z ∈ kidsF xs (k : Int), ∃ j : Nat, z = (j : Int) ∧ j < xs.length) := fun z hz => by obtain ⟨j, a, b, _⟩ := kids_bd hz; exact ⟨j, a, b⟩
      have HSK := Lib.hid (HS.out k hlt)
      have HGG := Lib.hid (fun m (hm : m < (kidsF xs (k : Int)).length) => gotL_get xs fl (k : Int) hm)
      have HWG := Lib.hid (fun m (hm : m < (kidsF xs (k : Int)).length) => wk_get xs (kidsF xs (k : Int)) hm)
      have HWB := Lib.hid (wts_bd HV.out (k : Int))
      have HWZ := Lib.hid (And.intro (wts_vw HV.out (k : Int)) (wts_pos HV.out (k : Int)))
      have hgl := gotL_len xs fl (k : Int)
      have hwl : (wts xs (k : Int)).length = (kidsF xs (k : Int)).length := wk_len _ _
      change Hid (∀ m (hm : m < (kidsF xs (k : Int)).length), (wts xs (k : Int)).getD m 0 = _) at HWG
      clear CK C K HR
      generalize gotL xs fl (k : Int) = gl at *
      generalize wts xs (k : Int) = ws at *
      generalize kidsF xs (k : Int) = ks at *
      have HLL := Lib.hid (And.intro hgl hwl)
      clear hgl hwl
      go_wp2_with fail
      go_loop [9, 10, 11] (fun s v i => ∃ m : Nat, m ≤ ks.length ∧ i = .int .i64 m ∧ s = .int .i64 (gl.take m).sum ∧ v = .int .i64 (ws.take m).sum) (fun _ _ i => ks.length - (intOf i).toNat)
      case atStart => exact ⟨0, Nat.zero_le _, rfl, rfl, rfl⟩
      case round =>
        obtain ⟨m, hm, rfl, rfl, rfl⟩ := hrel
        obtain ⟨t0, t1⟩ := HGK.out m hm
        have hwb := sum_bd ws (fun z hz => by have := HWB.out z hz; omega) m (by rw [HLL.out.2]; exact hm)
        by_cases hlm : m < ks.length
        · obtain ⟨gk, rfl, _⟩ := HR2.out.2.form_ (by omega)
          obtain ⟨gO, rfl, _⟩ := HR2.out.1.2.1.form_ (by rw [HL.out.1]; omega)
          have c1 := HR2.out.2.cell hlm
          obtain ⟨j, hj, hjl⟩ := HKM.out _ (getD_mem hlm)
          have c2 := HR2.out.1.2.1.cell (j := j) (by rw [HL.out.1]; exact hjl)
          have c3 : u.cell? ⟨g, o + j * 5 + 1, none⟩ = some (.int .i64 (xs.getD j nd0).2.1) := (by
            rcases HR2.out.1.1 with rfl | ⟨g', o', e, hc⟩
            · simp at l1
            · injection e with e; injection e with e1 e2 e3; subst e1 e2; exact (hc j hjl).2.1)
          have ht := take_sum gl m (by rw [HLL.out.1]; exact hlm)
          have hu := take_sum ws m (by rw [HLL.out.2]; exact hlm)
          rw [HGG.out m hlm, hj, show ((j : Int)).toNat = j from by omega] at ht
          rw [HWG.out m hlm, hj, show ((j : Int)).toNat = j from by omega] at hu
          rw [hj] at c1
          have hcb := HC.out j
          have hwj := (vn_at HV.out hjl).1
          generalize (comeF xs fl).getD j 0 = y at c2 hcb ht
          generalize (xs.getD j nd0).2.1 = z at c3 hwj hu
          generalize (gl.take m).sum = t at t0 t1 ht
          generalize (ws.take m).sum = v at hwb hu
          have HT := Lib.hid (And.intro ht hu)
          have b0 : (0 : Int) ≤ (j : Int) := by omega
          have b1 : (j : Int) < (xs.length : Int) := by omega
          have b2 : (m : Int) < (ks.length : Int) := by omega
          have b3 : (0 : Int) ≤ (m : Int) := by omega
          have m12 : (m : Int) ≤ 10 := by omega
          clear ht hu hj
          go_wp2_with fail
          go_round
          case rel => exact ⟨m + 1, by omega, by go_num, by rw [HT.out.1], by rw [HT.out.2]⟩
          case measure => simp [intOf]; omega
        · have hs : (gl.take m).sum = gl.sum := by rw [List.take_of_length_le (by rw [HLL.out.1]; omega)]
          have hws : (ws.take m).sum = ws.sum := by rw [List.take_of_length_le (by rw [HLL.out.2]; omega)]
          rw [hs, hws]
          have hsum := HSK.out
          obtain ⟨hvw, hw0⟩ := HWZ.out
          obtain ⟨p0, p1, p2, p3⟩ := HP.out k hlt
          obtain ⟨gO, rfl, _⟩ := HR2.out.1.2.1.form_ (by rw [HL.out.1]; omega)
          obtain ⟨gS, rfl, _⟩ := HR2.out.1.2.2.1.form_ (by rw [HL.out.2]; omega)
          have c1 := HR2.out.1.2.1.cell (j := k) (by rw [HL.out.1]; exact hlt)
          have c2 := HR2.out.1.2.2.1.cell (j := k) (by rw [HL.out.2]; exact hlt)
          have c3 : u.cell? ⟨g, o + k * 5 + 3, none⟩ = some (.int .i64 (xs.getD k nd0).2.2.2.1) := (by
            rcases HR2.out.1.1 with rfl | ⟨g', o', e, hc⟩
            · simp at l1
            · injection e with e; injection e with e1 e2 e3; subst e1 e2; exact (hc k hlt).2.2.2.1)
          have hnil : ks.length = 0 → gl.sum = 0 := fun e => by rw [List.eq_nil_of_length_eq_zero (HLL.out.1.trans e)]; rfl
          generalize (comeF xs fl).getD k 0 = y at c1 p1
          generalize (passF xs fl).getD k 0 = p at c2 p0 p1 p2 p3 hsum
          generalize (xs.getD k nd0).2.2.2.1 = r at c3 p3
          generalize gl.sum = sg at hsum hnil
          generalize ws.sum = sw at hvw hw0
          have t1 : decide (y < p) = false := decide_eq_false (by omega)
          have t2 : decide (r < p) = false := decide_eq_false (by omega)
          have b0 : (0 : Int) ≤ (k : Int) := by omega
          have b1 : (k : Int) < (xs.length : Int) := by omega
          have HF : Hid (∀ n, IsNd (u.drewN n) (some ⟨g, o, none⟩) xs ∧ OwnI (u.drewN n) _ (.slice (some ⟨gO, 0, none⟩) xs.length cO) (comeF xs fl) ∧ OwnI (u.drewN n) _ (.slice (some ⟨gS, 0, none⟩) xs.length cS) (passF xs fl) ∧ Below w.heap.size w (u.drewN n)) := fun n => ⟨HR2.out.1.1, HR2.out.1.2.1, HR2.out.1.2.2.1, below_drewN HR2.out.1.2.2.2 n⟩
          rw [hvw] at hsum
          clear HR2 hs hws hvw p0 p1 p2 p3
          obtain ⟨q, hq⟩ : ∃ q, ks.length = q := ⟨_, rfl⟩
          rw [hq] at hnil hlm hm ⊢
          by_cases hz : q = 0
          · have e1 : decide (0 < (q : Int)) = false := decide_eq_false (by omega)
            have e2 : decide (0 < q) = false := decide_eq_false (by omega)
            clear hq hnil hsum
            go_wp2_with fail
            go_quiet (fail)
            go_wp2_with fail
            go_roundw
            case rel => exact ⟨k + 1, by omega, by go_num, HF.out _⟩
            case measure => simp [intOf]; omega
          have e1 : decide (0 < (q : Int)) = true := decide_eq_true (by omega)
          have e2 : decide (0 < q) = true := decide_eq_true (by omega)
          by_cases hw : 0 < sw
          · rw [decide_eq_true hw, if_pos rfl] at hsum
            subst hsum
            have e3 : decide (0 < sw) = true := decide_eq_true hw
            have e4 : (sw == 0) = false := beq_eq_false_iff_ne.2 (by omega)
            clear hq hnil
            go_wp2_with fail
            go_quiet (fail)
            go_wp2_with fail
            go_roundw
            case rel => exact ⟨k + 1, by omega, by go_num, HF.out _⟩
            case measure => simp [intOf]; omega
          · rw [decide_eq_false hw, if_neg (by simp)] at hsum
            subst hsum
            obtain rfl : sw = 0 := by omega
            clear hq hnil hw hw0
            go_wp2_with fail
            go_quiet (fail)
            go_wp2_with fail
            go_roundw
            case rel => exact ⟨k + 1, by omega, by go_num, HF.out _⟩
            case measure => simp [intOf]; omega
    · obtain ⟨gO, rfl, _⟩ := HR.out.2.1.form_ (by rw [HL.out.1]; omega)
      have c0 := HR.out.2.1.cell (j := 0) (by rw [HL.out.1]; omega)
      rw [HSP.out] at c0
      have i00 : (0 : Int) < (xs.length : Int) := by omega
      have HB := Lib.hid HR.out.2.2.2
      clear HR
      go_wp2_with fail
      go_ret
      exact ⟨rfl, HB.out⟩

set_option maxRecDepth 100000 in
theorem lifted (os : Os) (started : os.Started) (H : Type) (enc : TypeId × Value → H) :
    ReturnsInHanded {} Try.checked os 8 .any (Rows.fnFlowsOfSpec.pre6 enc Try.prog Try.f8 Rows.fnFlowsOfRow.domain false) (Rows.fnFlowsOfSpec.post enc Try.prog Try.f8 false true false false) := by
  refine returnsInHanded_of_change (C := Try.checked) own started (by kernel_rfl) Try.func8
    (ChangeSpec.witness6 (enc := enc) (C := Try.checked) false ⟨#[], #[.slice none 0 0], []⟩ 8 (by kernel_rfl) (by kernel_rfl) (by kernel_rfl) (by kernel_rfl)) ?_
  intro W base args ds gs before hval0 hW hcnd _
  have hval : ∀ (j : Nat) t v, Try.f8.params[j]? = some t → args[j]? = some v → Value.okWide Try.prog W .any base t v := hval0
  have hW' := hW
  obtain ⟨p, q, hA0, hV, rfl, hfz, hnd⟩ := hW
  have hA : DataW.TrodAll enc Try.prog W 0 (fun _ => true) true Try.f8.params.toList args.toList ds p := hA0
  rw [Try.params8] at hA hval
  obtain ⟨v0, vs0, e0, es0, p0, q0, hargs, rfl, rfl, h0, r0⟩ := trodAll_cons hA
  obtain ⟨rfl, rfl, rfl⟩ := trodAll_nil r0
  obtain rfl : args = #[v0] := by cases args; simp_all
  obtain ⟨rfl, rfl⟩ := trodVars_none hV
  have k0 := h0
  have lt0 : ∀ x ∈ p0, x.block < W.heap.size := by obtain ⟨m, hm⟩ := k0; exact DataW.trod_lt m _ _ _ hm
  obtain ⟨a0, len0, cap0, rfl⟩ := okWide_slice Try.underlying38 (hval 0 38 v0 rfl rfl)
  obtain ⟨z0, w0⟩ : ∃ zs, IsRow .u8 W a0 len0 cap0 zs := by
    obtain ⟨fuel, hf⟩ := h0
    rcases open_ints Try.underlying38 Try.underlying5 (by kernel_rfl) hf with ⟨hcs, _⟩ | ⟨x, l, c, zs, hcs, _, hl, hm, hz, _, hcell, hwz⟩
    · simp [Value.cells] at hcs
      obtain ⟨rfl, rfl, rfl⟩ := hcs
      exact ⟨[], .inl ⟨rfl, rfl, rfl, rfl⟩⟩
    · simp [Value.cells] at hcs
      obtain ⟨rfl, rfl, rfl⟩ := hcs
      exact ⟨zs, .inr ⟨_, rfl, hl, hm, by simpa using hz, hcell, hwz⟩⟩
  clear hA0 hval0
  refine (walk a0 len0 cap0 z0 W w0).mono fun e W' ⟨he, bel⟩ => ?_
  subst he
  exact ⟨_, rfl, _, _, _, [], _, [], hW', trodAll_mk1 (shut_bool Try.underlying4 _), (trodAll_cons_mk (Below.trod laidOut (by kernel_rfl) (of_decide_eq_true (by kernel_rfl)) k0 bel lt0) trodAll_mk0), rfl, bel.frame _, fun h => by cases h⟩

theorem over : Rows.fnFlowsOfRow.holds Try.pinned (OpenSpec.ofChange Rows.fnFlowsOfSpec) :=
  OpenClaim.holds_of_wide 8 Try.f8 rfl rfl rfl rfl rfl rfl rfl ⟨rfl, rfl, rfl, rfl, rfl⟩ rfl rfl rfl rfl rfl (by kernel_rfl) Try.func8 (by kernel_rfl)
    (of_decide_eq_true (by kernel_rfl)) (by unfold Func.isWrapper; first | (rw [if_pos (by decide +kernel)]; kernel_rfl) | (rw [if_neg (by decide +kernel)]; exact ⟨rfl, rfl⟩))
    (fun os started H enc _ => lifted os started H enc)

end Go.Proofs.Ytlpmeljneogpiaa.fnFlowsOf
namespace Go.Proofs.Ytlpmeljneogpiaa
/-- the statement -/
theorem fnFlowsOf_holds : Rows.FnFlowsOfSaid := fnFlowsOf.over
end Go.Proofs.Ytlpmeljneogpiaa
