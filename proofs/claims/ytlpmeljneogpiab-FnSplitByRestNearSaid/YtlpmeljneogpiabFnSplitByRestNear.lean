/- For every input the law answers true, and its argument reads afterwards as before: nothing is nearer than the division by the greatest remainders. No condition. -/
import Derived.Test.YtlpmeljneogpiabRows
import Derived.Test.YtlpmeljneogpiabLawsI
import Derived.Test.YtlpmeljneogpiabMathN
import Derived.WalkKit
import Derived.ProofKit
import Derived.OpenShut
import Derived.ShutString
import Derived.ChangeOld
import Derived.Below
import Derived.Lib.SmallJoins
namespace Go.Proofs.Ytlpmeljneogpiab.fnSplitByRestNear
open Go.ChangeShapes Go.WideShapes Go.ChangeAt Go.RowKit Go.Joins
open Go.ChangeMaps (open_string shut_string)
set_option linter.unusedVariables false

theorem own : ownKnob Try.prog.godebug = none := by kernel_rfl
theorem laidOut : laidOutB Try.prog = true := by kernel_rfl
theorem news_row {w : World} {g : Nat} {zs : List Int} (h : Row w g zs) : ∀ j u, (zs.map (Value.int .i64))[j]? = some u → w.cell? ((⟨g, 0, none⟩ : Addr).add j) = some u := fun j u hu => by
  have hadd : (⟨g, 0, none⟩ : Addr).add j = ⟨g, j, none⟩ := by unfold Addr.add; split <;> simp_all
  rw [List.getElem?_map] at hu
  by_cases hj : j < zs.length
  · rw [List.getElem?_eq_getElem hj] at hu
    have := World.rowIs.cell h hj
    rw [List.getD_eq_getElem?_getD, List.getElem?_eq_getElem hj] at this
    rw [hadd, this]; exact hu
  · rw [List.getElem?_eq_none (by omega)] at hu; cases hu
theorem map_at {l : List Int} {i : Nat} (h : i < l.length) : (l.map (Value.int .i64))[i]? = some (.int .i64 (l.getD i 0)) := by
  rw [List.getElem?_map, List.getD_eq_getElem?_getD, List.getElem?_eq_getElem h]; rfl
theorem map_set (l : List Int) (i : Nat) (v : Int) : (l.map (Value.int .i64)).set i (.int .i64 v) = (l.set i v).map (Value.int .i64) := by rw [List.map_set]

set_option maxHeartbeats 4000000 in
theorem walk (a0 : Option Addr) (len0 cap0 : Nat) (z0 : List Int) (w : World) (w0 : IsRow .u8 w a0 len0 cap0 z0) :
    Calls Try.prog 9 #[.slice a0 len0 cap0] w fun e w' => e = .returned (.bool true) ∧ Below w.heap.size w w' := by
  by_cases big : (1048576 : Int) < (len0 : Int)
  · go_enter Try.func9, Try.ntmps9
    go_wp2
    go_ret
    exact ⟨rfl, Below.refl _ _⟩
  go_enter Try.func9, Try.ntmps9
  go_wp2_with fail
  refine (drawSplitByRest a0 len0 cap0 z0 _ w0).mono ?_
  rintro e u1 ⟨n, b, cp, xs, rfl, n0, n1, hl, hi, hz, B1⟩
  clear w0 big
  have hln : xs.length ≤ 1048576 := by omega
  have HI := Lib.hid hi
  have HZ := Lib.hid hz
  clear hi hz
  cases hcs : csB n xs with
  | false =>
    have HK := Lib.hid hcs
    clear hcs
    go_wp2_with fail
    refine (irest_no n _ _ xs _ HI.out hln HK.out).mono ?_
    rintro e w' ⟨rfl, rfl⟩
    go_wp2_with fail
    refine (srest_no n _ _ xs _ HI.out hln HK.out).mono ?_
    rintro e w' ⟨rfl, rfl⟩
    go_wp2_with fail
    refine (lequal none none 0 0 [] _ (.inl rfl) (.inl rfl) (by simp)).mono ?_
    rintro e u2 ⟨rfl, C2⟩
    have B2 := bel_tr B1 C2
    go_wp2_with fail
    refine (srest_no n _ _ xs _ (ints_below HI.out C2) hln HK.out).mono ?_
    rintro e w' ⟨rfl, rfl⟩
    go_wp2_with fail
    refine (lequal none none 0 0 [] _ (.inl rfl) (.inl rfl) (by simp)).mono ?_
    rintro e u3 ⟨rfl, C3⟩
    go_wp2_with fail
    go_ret
    exact ⟨rfl, bel_tr B2 C3⟩
  | true =>
    have hv := (cs_yes hcs).2
    have n00 := (cs_yes hcs).1.1
    have n01 := (cs_yes hcs).1.2
    have l1 := ws_ne hv
    have l1' : ((xs.length : Int) == 0) = false := by rw [beq_eq_false_iff_ne]; omega
    have hq : (sr n xs).length = xs.length := sr_len n xs
    have HK := Lib.hid hcs
    have HV := Lib.hid hv
    have HQ := Lib.hid hq
    clear hcs hq hv
    go_wp2_with fail
    refine (irest n _ _ xs _ HI.out hln HK.out).mono ?_
    rintro e u2 ⟨g, rfl, lg, R2, C2⟩
    have B2 := bel_tr B1 C2
    have I2 := ints_below HI.out C2
    go_wp2_with fail
    refine (srest n _ _ xs _ I2 hln HK.out).mono ?_
    rintro e u3 ⟨b3, cp3, rfl, J3, C3⟩
    have B3 := bel_tr B2 C3
    have I3 := ints_below I2 C3
    have R3 := row_keep R2 C3
    go_wp2_with fail
    refine (lequalN xs.length _ _ _ _ (sr n xs) _ HQ.out (row_ints R3) J3 hln).mono ?_
    rintro e u4 ⟨rfl, C4⟩
    have B4 := bel_tr B3 C4
    have I4 := ints_below I3 C4
    have R4 := row_keep R3 C4
    clear I2 I3 R2 R3 J3 C2 C3 C4 B1 B2 B3
    rcases I4 with rfl | ⟨gw, ow, rfl, hc⟩
    · exact absurd l1 (by simp)
    have HC := Lib.hid hc
    clear hc
    have HR4 := Lib.hid R4
    clear R4
    have HD0 := Lib.hid (near_pos HK.out)
    have HH := Lib.hid (near_sa HK.out (step := 1) (by omega))
    have HM := Lib.hid (near_sa HK.out (step := 2) (by omega))
    have HMV := Lib.hid (fun a c => near_mv HK.out (a := a) (c := c))
    have HIW : Hid (IsInts u4 (some ⟨gw, ow, none⟩) xs) := .inr ⟨gw, ow, rfl, HC.out⟩
    obtain ⟨ti, hi0, hz0, hz1, hz2⟩ := info_parts infoInt
    go_wp2_with fail
    refine (idistM xs.length _ _ _ _ (sr n xs) xs _ HQ.out rfl (row_ints HR4.out) HIW.out hln).mono ?_
    rintro e w' ⟨rfl, rfl⟩
    obtain ⟨D, hD⟩ : ∃ D, distI (sr n xs) xs = D := ⟨_, rfl⟩
    rw [hD] at HD0 HH HM HMV ⊢
    go_wp2_with fail
    go_loopw [7] (fun i wr => ∃ a : Nat, a ≤ xs.length ∧ i = .int .i64 a ∧ Below u4.heap.size u4 wr) (fun i _ => xs.length - (intOf i).toNat)
    case atStart => exact ⟨0, Nat.zero_le _, rfl, Below.refl _ _⟩
    case round =>
      obtain ⟨a, ha, rfl, hB⟩ := hrel
      by_cases hla : a < xs.length
      · go_wp2_with fail
        go_loopw [8] (fun k wr => ∃ c : Nat, c ≤ xs.length ∧ k = .int .i64 c ∧ Below u4.heap.size u4 wr) (fun k _ => xs.length - (intOf k).toNat)
        case atStart => exact ⟨0, Nat.zero_le _, rfl, hB⟩
        case round =>
          obtain ⟨c, hc, rfl, hB⟩ := hrel
          by_cases hlc : c < xs.length
          · have RR := row_keep HR4.out hB
            have hO : (wr.alloc (.cells #[] 3)).ownsRow wr.heap.size 3 1 (.slice (some ⟨wr.heap.size, 0, none⟩) 0 0) 0 [] := ⟨by simp, .inr ⟨wr.heap.size, 0, #[], rfl, Nat.le_refl _, Go.Deep.blk_alloc_new _ _, Nat.le_refl _, by unfold maxLen; omega, rfl, rfl⟩⟩
            have HO := Lib.hid hO
            have hn0 : ∀ j u, ((sr n xs).map (Value.int .i64))[j]? = some u → (wr.alloc (.cells #[] 3)).cell? ((⟨g, 0, none⟩ : Addr).add j) = some u := news_row (row_keep RR ((Below.refl _ _).alloc (Nat.le_refl _) _))
            have HN := Lib.hid hn0
            clear hO hn0
            have hsz := hB.size
            go_wp2_with (first | (at_builtin; refine wpList_append_own _ rfl _ _ 27 rfl wr.heap.size 3 ti (.int .i64 0) 1 8 Try.underlying27 hi0 hz0 hz1 hz2 rfl (by decide) _ 0 [] rfl HO.out ⟨g, 0, none⟩ xs.length xs.length ((sr n xs).map (Value.int .i64)) rfl (by rw [List.length_map, HQ.out, Nat.mul_one]) HN.out (fun x hx => by simp at hx; obtain ⟨z, _, rfl⟩ := hx; rfl) (by unfold maxLen; omega) (by omega) (by simp) ?_; intro v' w3 hown' hgrow3 hnil3))
            have how : w3.ownsRow wr.heap.size 3 1 v' xs.length ((sr n xs).map (Value.int .i64)) := by simpa using hown'
            obtain ⟨gh, cq, rfl, lh, lth⟩ := how.form l1
            have B3 : Below u4.heap.size u4 w3 := (hB.alloc hsz _).grown hgrow3 (by simp; omega) (fun q hq => by have := (HO.out.lt q hq).1; omega)
            have hx := sr_bd HK.out hla
            have e1 : ((sr n xs).map (Value.int .i64))[a]? = some (.int .i64 ((sr n xs).getD a 0)) := map_at (by rw [HQ.out]; exact hla)
            have ca := (how.cellAt a (by omega)).trans e1
            have fa := how.frozenAt a
            have st := (how.stored a (.int .i64 ((sr n xs).getD a 0 + 1))).1
            rw [map_set] at st
            have hS1 : ((sr n xs).set a ((sr n xs).getD a 0 + 1)).getD c 0 = (sr n xs).getD c 0 + (if c = a then 1 else 0) := by
              rw [getD_set _ _ _ (by rw [HQ.out]; exact hla)]; split
              · next e => subst e; rfl
              · omega
            have hy := sr_bd HK.out hlc
            have e2 : (((sr n xs).set a ((sr n xs).getD a 0 + 1)).map (Value.int .i64))[c]? = some (.int .i64 (((sr n xs).set a ((sr n xs).getD a 0 + 1)).getD c 0)) := map_at (by rw [List.length_set, HQ.out]; exact hlc)
            have cc := (st.cellAt c (by omega)).trans e2
            have fc := st.frozenAt c
            have st2 := (st.stored c (.int .i64 (((sr n xs).set a ((sr n xs).getD a 0 + 1)).getD c 0 - 1))).1
            rw [map_set] at st2
            have HST2 := Lib.hid st2
            have hyb : 0 ≤ ((sr n xs).set a ((sr n xs).getD a 0 + 1)).getD c 0 ∧ ((sr n xs).set a ((sr n xs).getD a 0 + 1)).getD c 0 ≤ 502 := by rw [hS1]; split <;> omega
            clear hown' hgrow3 hnil3 how st st2 e1 e2 hS1 hy HO HN
            have hgh : u4.heap.size ≤ gh := by omega
            obtain ⟨x, hxx⟩ : ∃ x, (sr n xs).getD a 0 = x := ⟨_, rfl⟩
            rw [hxx] at hx ca cc fc hyb HST2
            obtain ⟨y, hyy⟩ : ∃ y, ((sr n xs).set a (x + 1)).getD c 0 = y := ⟨_, rfl⟩
            rw [hyy] at cc hyb HST2
            have em : ((sr n xs).set a (x + 1)).set c (y - 1) = mv (sr n xs) a c := by unfold mv; rw [hxx, hyy]
            rw [em] at HST2
            have hml : (mv (sr n xs) a c).length = xs.length := by rw [mv_len, HQ.out]
            have hmz : ∀ i, i < xs.length → -1 ≤ (mv (sr n xs) a c).getD i 0 ∧ (mv (sr n xs) a c).getD i 0 ≤ 502 := fun i hi => by
              have := sr_bd HK.out hi
              rw [mv_get (by rw [HQ.out]; exact hla) (by rw [HQ.out]; exact hlc)]; split <;> split <;> omega
            have kc := (HST2.out.cellAt c (by omega)).trans (map_at (by rw [hml]; exact hlc))
            have ka := (HST2.out.cellAt a (by omega)).trans (map_at (by rw [hml]; exact hla))
            have HIO := Lib.hid (own_isints HST2.out hml)
            have B5 : Below u4.heap.size u4 ((w3.setCell ⟨gh, a, none⟩ (.int .i64 (x + 1))).setCell ⟨gh, c, none⟩ (.int .i64 (y - 1))) := (B3.setCell hgh _).setCell hgh _
            have HB5 := Lib.hid B5
            have HMVac := Lib.hid (HMV.out a c hla hlc)
            have HML := Lib.hid hml
            clear B3 B5 em hml HST2 hxx hyy
            generalize mv (sr n xs) a c = ys at *
            have mc := hmz c hlc
            have ma := hmz a hla
            clear hmz
            obtain ⟨yc, hyc⟩ : ∃ z, ys.getD c 0 = z := ⟨_, rfl⟩
            obtain ⟨ya, hya⟩ : ∃ z, ys.getD a 0 = z := ⟨_, rfl⟩
            rw [hyc] at kc mc HMVac
            rw [hya] at ka ma HMVac
            clear hyc hya
            have i0 : (0 : Int) ≤ (a : Int) := by omega
            have i1 : (a : Int) < (xs.length : Int) := by omega
            have i2 : (0 : Int) ≤ (c : Int) := by omega
            have i3 : (c : Int) < (xs.length : Int) := by omega
            have t1 : IntKind.i64.wrap (x + 1) = x + 1 := wrap_of (by omega)
            have t2 : IntKind.i64.wrap (y - 1) = y - 1 := wrap_of (by omega)
            by_cases h1 : 0 ≤ yc
            · by_cases h2 : ya ≤ 500
              · have HLE := Lib.hid (HMVac.out h1 h2)
                go_wp2_with fail
                rw [run_indexAt_slice (P := Try.prog) (h := by kernel_rfl)]
                go_wp2_with fail
                refine (idistM xs.length _ _ _ _ ys xs _ HML.out rfl HIO.out (ints_below HIW.out HB5.out) hln).mono ?_
                rintro e w' ⟨rfl, rfl⟩
                have d1 : decide (distI ys xs < D) = false := decide_eq_false (by have := HLE.out; omega)
                generalize distI ys xs = Y at *
                go_wp2_with fail
                go_roundw
                case rel => exact ⟨c + 1, by omega, by go_num, HB5.out⟩
                case measure => simp [intOf]; omega
              · go_wp2_with fail
                go_roundw
                case rel => exact ⟨c + 1, by omega, by go_num, HB5.out⟩
                case measure => simp [intOf]; omega
            · go_wp2_with fail
              go_roundw
              case rel => exact ⟨c + 1, by omega, by go_num, HB5.out⟩
              case measure => simp [intOf]; omega
          · go_wp2
            go_roundw
            case rel => exact ⟨a + 1, by omega, by go_num, hB⟩
            case measure => simp [intOf]; omega
      · have B5 := bel_tr B4 hB
        have R5 := row_keep HR4.out hB
        have I5 := ints_below HIW.out hB
        have HI5 := Lib.hid I5
        have d0 := HD0.out
        clear hB HR4 HIW R5 I5
        go_wp2_with fail
        refine (ihighest n _ _ xs _ HI5.out hln HK.out).mono ?_
        rintro e u6 ⟨g6, rfl, lg6, R6, C6⟩
        have B6 := bel_tr B5 C6
        have HI6 := Lib.hid (ints_below HI5.out C6)
        have HR6 := Lib.hid (row_ints R6)
        have hh := HH.out
        clear R6 C6 HI5 B5
        go_wp2_with fail
        refine (idistM xs.length _ _ _ _ (sa 1 n xs) xs _ (sa_len 1 n xs) rfl HR6.out HI6.out hln).mono ?_
        rintro e w' ⟨rfl, rfl⟩
        generalize distI (sa 1 n xs) xs = Y1 at *
        go_wp2_with fail
        refine (imiddle n _ _ xs _ HI6.out hln HK.out).mono ?_
        rintro e u7 ⟨g7, rfl, lg7, R7, C7⟩
        have B7 := bel_tr B6 C7
        have HI7 := Lib.hid (ints_below HI6.out C7)
        have HR7 := Lib.hid (row_ints R7)
        have hm := HM.out
        clear R7 C7 HI6 B6
        go_wp2_with fail
        refine (idistM xs.length _ _ _ _ (sa 2 n xs) xs _ (sa_len 2 n xs) rfl HR7.out HI7.out hln).mono ?_
        rintro e w' ⟨rfl, rfl⟩
        generalize distI (sa 2 n xs) xs = Y2 at *
        go_wp2_with fail
        go_ret
        exact ⟨ret_bool (by simp), B7⟩

set_option maxRecDepth 100000 in
theorem lifted (os : Os) (started : os.Started) (H : Type) (enc : TypeId × Value → H) :
    ReturnsInHanded {} Try.checked os 9 .any (Rows.fnSplitByRestNearSpec.pre6 enc Try.prog Try.f9 Rows.fnSplitByRestNearRow.domain false) (Rows.fnSplitByRestNearSpec.post enc Try.prog Try.f9 false true false false) := by
  refine returnsInHanded_of_change (C := Try.checked) own started (by kernel_rfl) Try.func9
    (ChangeSpec.witness6 (enc := enc) (C := Try.checked) false ⟨#[], #[.slice none 0 0], []⟩ 8 (by kernel_rfl) (by kernel_rfl) (by kernel_rfl) (by kernel_rfl)) ?_
  intro W base args ds gs before hval0 hW hcnd _
  have hval : ∀ (j : Nat) t v, Try.f9.params[j]? = some t → args[j]? = some v → Value.okWide Try.prog W .any base t v := hval0
  have hW' := hW
  obtain ⟨p, q, hA0, hV, rfl, hfz, hnd⟩ := hW
  have hA : DataW.TrodAll enc Try.prog W 0 (fun _ => true) true Try.f9.params.toList args.toList ds p := hA0
  rw [Try.params9] at hA hval
  obtain ⟨v0, vs0, e0, es0, p0, q0, hargs, rfl, rfl, h0, r0⟩ := trodAll_cons hA
  obtain ⟨rfl, rfl, rfl⟩ := trodAll_nil r0
  obtain rfl : args = #[v0] := by cases args; simp_all
  obtain ⟨rfl, rfl⟩ := trodVars_none hV
  have k0 := h0
  have lt0 : ∀ x ∈ p0, x.block < W.heap.size := by obtain ⟨m, hm⟩ := k0; exact DataW.trod_lt m _ _ _ hm
  obtain ⟨a0, len0, cap0, rfl⟩ := okWide_slice Try.underlying22 (hval 0 22 v0 rfl rfl)
  obtain ⟨z0, w0⟩ : ∃ zs, IsRow .u8 W a0 len0 cap0 zs := by
    obtain ⟨fuel, hf⟩ := h0
    rcases open_ints Try.underlying22 Try.underlying5 (by kernel_rfl) hf with ⟨hcs, _⟩ | ⟨x, l, c, zs, hcs, _, hl, hm, hz, _, hcell, hwz⟩
    · simp [Value.cells] at hcs
      obtain ⟨rfl, rfl, rfl⟩ := hcs
      exact ⟨[], .inl ⟨rfl, rfl, rfl, rfl⟩⟩
    · simp [Value.cells] at hcs
      obtain ⟨rfl, rfl, rfl⟩ := hcs
      exact ⟨zs, .inr ⟨_, rfl, hl, hm, by simpa using hz, hcell, hwz⟩⟩
  clear hA0 hval0
  refine (walk a0 len0 cap0 z0 W w0).mono fun e W' ⟨he, bel⟩ => ?_
  subst he
  exact ⟨_, rfl, _, _, _, [], _, [], hW', trodAll_mk1 (shut_bool Try.underlying4 _), (trodAll_cons_mk (Below.trod laidOut (by kernel_rfl) (of_decide_eq_true (by kernel_rfl)) k0 bel lt0) trodAll_mk0), rfl, bel.frame _, fun h => by cases h⟩

theorem over : Rows.fnSplitByRestNearRow.holds Try.pinned (OpenSpec.ofChange Rows.fnSplitByRestNearSpec) :=
  OpenClaim.holds_of_wide 9 Try.f9 rfl rfl rfl rfl rfl rfl rfl ⟨rfl, rfl, rfl, rfl, rfl⟩ rfl rfl rfl rfl rfl (by kernel_rfl) Try.func9 (by kernel_rfl)
    (of_decide_eq_true (by kernel_rfl)) (by unfold Func.isWrapper; first | (rw [if_pos (by decide +kernel)]; kernel_rfl) | (rw [if_neg (by decide +kernel)]; exact ⟨rfl, rfl⟩))
    (fun os started H enc _ => lifted os started H enc)

end Go.Proofs.Ytlpmeljneogpiab.fnSplitByRestNear
namespace Go.Proofs.Ytlpmeljneogpiab
/-- the statement -/
theorem fnSplitByRestNear_holds : Rows.FnSplitByRestNearSaid := fnSplitByRestNear.over
end Go.Proofs.Ytlpmeljneogpiab
