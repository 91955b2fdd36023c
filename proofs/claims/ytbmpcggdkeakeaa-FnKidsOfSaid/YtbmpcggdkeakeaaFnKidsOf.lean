/- For every input the law answers true, and its argument reads afterwards as before: each node has one parent. No condition. -/
import Derived.Test.YtbmpcggdkeakeaaRows
import Derived.Test.YtbmpcggdkeakeaaDrawNb
import Derived.Test.YtbmpcggdkeakeaaNodQ
import Derived.Test.YtbmpcggdkeakeaaLawIn
import Derived.Test.YtbmpcggdkeakeaaEqI
import Derived.Test.YtbmpcggdkeakeaaOwnM
import Derived.Test.YtbmpcggdkeakeaaFlowS
import Derived.WalkKit
import Derived.Deep.RegionHeld3
import Derived.Deep.QuietTactic
import Derived.BigQuiet
import Derived.ProofKit
import Derived.OpenShut
import Derived.ShutString
import Derived.ChangeOld
import Derived.Below
import Derived.Lib.SmallJoins
namespace Go.Proofs.Ytbmpcggdkeakeaa.fnKidsOf
open Go.ChangeShapes Go.WideShapes Go.ChangeAt Go.RowKit Go.Joins
open Go.ChangeMaps (open_string shut_string)
set_option linter.unusedVariables false
set_option linter.unusedSimpArgs false

theorem own : ownKnob Try.prog.godebug = none := by kernel_rfl
theorem laidOut : laidOutB Try.prog = true := by kernel_rfl

set_option maxRecDepth 100000 in
set_option maxHeartbeats 8000000 in
theorem walk (a0 : Option Addr) (len0 cap0 : Nat) (z0 : List Int) (w : World) (w0 : IsRow .u8 w a0 len0 cap0 z0) :
    Calls Try.prog 4 #[.slice a0 len0 cap0] w fun e w' => e = .returned (.bool true) ∧ Below w.heap.size w w' := by
  by_cases big : (1048576 : Int) < (len0 : Int)
  · go_enter Try.func4, Try.ntmps4
    go_wp2
    go_ret
    exact ⟨rfl, Below.refl _ _⟩
  go_enter Try.func4, Try.ntmps4
  go_wp2_with fail
  refine (drawKidsOf a0 len0 cap0 z0 _ w0).mono ?_
  rintro e u1 ⟨b, cp, xs, at_, rfl, l1, l10, hlc, I, i0, i1, B⟩
  clear w0 big
  have n1 : xs.length ≤ 1048576 := by omega
  have VI := Lib.hid (fun (W : World) (h : IsNd W b xs)  => iVN b cp xs W h n1 hlc)
  have KI := Lib.hid (fun (W : World) (h : IsNd W b xs) (i : Int) => iKids b cp xs i W h n1 hlc)
  have KS := Lib.hid (fun (W : World) (h : IsNd W b xs) (i : Int) => sKids b cp xs i W h n1)
  have KA := Lib.hid (fun W h => KI.out W h at_)
  have KB := Lib.hid (fun W h => KS.out W h at_)
  have nR : (kidsV xs at_).length ≤ 1048576 := by unfold kidsV; split; exact Nat.le_trans (kids_len _ _) n1; simp
  cases hv : vnB xs with
  | false =>
    rw [hv] at VI
    clear hv
    go_wp2_with fail
    refine (KA.out _ I).mono ?_
    rintro e u2 ⟨vO, rfl, O, C⟩
    obtain ⟨bO, cO, rfl, _⟩ := O.ints
    replace B := bel_tr B C
    replace I := nd_below I C
    clear C
    go_wp2_with fail
    refine (KB.out _ I).mono ?_
    rintro e u3 ⟨vP, rfl, P, C⟩
    obtain ⟨bP, cP, rfl, _⟩ := P.ints
    replace B := bel_tr B C
    replace I := nd_below I C
    replace O := O.of_block C
    clear C
    go_wp2_with fail
    refine (eqInts _ _ _ _ (kidsV xs at_) _ O.at_ P.at_ nR).mono ?_
    rintro e u4 ⟨rfl, C⟩
    replace B := bel_tr B C
    replace I := nd_below I C
    replace O := O.of_block C
    replace P := P.of_block C
    clear C
    go_wp2_with fail
    refine (VI.out _ I).mono ?_
    rintro e u5 ⟨rfl, C⟩
    replace B := bel_tr B C
    replace I := nd_below I C
    replace O := O.of_block C
    replace P := P.of_block C
    clear C
    go_wp2_with fail
    clear P
    refine (KB.out _ I).mono ?_
    rintro e u6 ⟨vQ, rfl, Q, C⟩
    obtain ⟨bQ, cQ, rfl, _⟩ := Q.ints
    replace B := bel_tr B C
    replace I := nd_below I C
    replace O := O.of_block C
    clear C
    go_wp2_with fail
    refine (eqInts _ _ _ _ (kidsV xs at_) _ O.at_ Q.at_ nR).mono ?_
    rintro e u7 ⟨rfl, C⟩
    replace B := bel_tr B C
    replace I := nd_below I C
    replace O := O.of_block C
    replace Q := Q.of_block C
    clear C
    go_wp2_with fail
    go_ret
    exact ⟨rfl, B⟩
  | true =>
    rw [hv] at VI
    have HK := Lib.hid (fun (W : World) (h : IsNd W b xs) (k : Nat) (hk : k < xs.length) => (by have := KI.out W h (k : Int); rw [kids_yes hv (inN_is hk)] at this; exact this : Calls Try.prog 22 #[.slice b xs.length cp, .int .i64 (k : Int)] W (OutI W (kidsF xs (k : Int)))))
    have HC := Lib.hid (cnt_all hv (xs.length - 1) (by omega))
    have HCB := Lib.hid (fun k => cntT_bd xs xs.length k)
    have HKM : Hid (∀ z ∈ kidsV xs at_, ∃ j : Nat, z = (j : Int) ∧ j < xs.length ∧ (xs.getD j nd0).1 = at_) := fun z hz => by
      unfold kidsV at hz
      split at hz
      · exact kids_bd hz
      · cases hz
    have HA : Hid (∀ i j, i < j → j < (kidsV xs at_).length → (kidsV xs at_).getD i 0 < (kidsV xs at_).getD j 0) := fun i j hij hj => by
      unfold kidsV at hj ⊢
      by_cases c : (vnB xs && inN xs.length at_) = true
      · rw [if_pos c] at hj ⊢; exact kidsTo_asc xs at_ xs.length i j hij hj
      · rw [if_neg c] at hj; simp at hj
    clear hv KI KS
    generalize kidsV xs at_ = R at *
    go_wp2_with fail
    refine (KA.out _ I).mono ?_
    rintro e u2 ⟨vO, rfl, O, C⟩
    obtain ⟨bO, cO, rfl, _⟩ := O.ints
    replace B := bel_tr B C
    replace I := nd_below I C
    clear C
    go_wp2_with fail
    refine (KB.out _ I).mono ?_
    rintro e u3 ⟨vP, rfl, P, C⟩
    obtain ⟨bP, cP, rfl, _⟩ := P.ints
    replace B := bel_tr B C
    replace I := nd_below I C
    replace O := O.of_block C
    clear C
    go_wp2_with fail
    refine (eqInts _ _ _ _ R _ O.at_ P.at_ nR).mono ?_
    rintro e u4 ⟨rfl, C⟩
    replace B := bel_tr B C
    replace I := nd_below I C
    replace O := O.of_block C
    replace P := P.of_block C
    clear C
    go_wp2_with fail
    refine (VI.out _ I).mono ?_
    rintro e u5 ⟨rfl, C⟩
    replace B := bel_tr B C
    replace I := nd_below I C
    replace O := O.of_block C
    replace P := P.of_block C
    clear C
    go_wp2_with fail
    clear P
    go_loopw [6, 7] (fun n i wr => ∃ k : Nat, k ≤ xs.length ∧ i = .int .i64 k ∧ n = .int .i64 (cntT xs xs.length k) ∧ Hid (IsNd wr b xs ∧ OwnI wr _ (.slice bO R.length cO) R ∧ Below w.heap.size w wr)) (fun _ i _ => xs.length - (intOf i).toNat)
    case atStart => exact ⟨0, Nat.zero_le _, rfl, rfl, I, O, B⟩
    case round =>
      clear I O B
      obtain ⟨k, hk, rfl, rfl, HR⟩ := hrel
      obtain ⟨t0, t1⟩ := HCB.out k
      have t2 : (xs.length : Int) * (k : Int) ≤ 10 * 10 := Int.mul_le_mul (by omega) (by omega) (by omega) (by omega)
      by_cases hlt : k < xs.length
      · have CK := HK.out wr HR.out.1 k hlt
        have hc := cntT_succ xs xs.length k
        have hkl := kids_len xs (k : Int)
        change cntT xs xs.length (k + 1) = cntT xs xs.length k + ((kidsF xs (k : Int)).length : Int) at hc
        generalize cntT xs xs.length k = t at hc t0 t1
        go_wp2_with fail
        refine CK.mono ?_
        rintro e u ⟨v, rfl, Q, C⟩
        obtain ⟨bq, cq, rfl, _⟩ := Q.ints
        have HF : Hid (IsNd u b xs ∧ OwnI u _ (.slice bO R.length cO) R ∧ Below w.heap.size w u) := ⟨nd_below HR.out.1 C, HR.out.2.1.of_block C, bel_tr HR.out.2.2 C⟩
        generalize (kidsF xs (k : Int)).length = q at hc hkl ⊢
        have HCC := Lib.hid hc
        clear hc CK C Q HR
        go_wp2_with fail
        go_roundw
        case rel => exact ⟨k + 1, by omega, by go_num, by rw [HCC.out], HF.out⟩
        case measure => simp [intOf]; omega
      · obtain rfl : k = xs.length := by omega
        have hc := HC.out
        rw [show xs.length - 1 + 1 = xs.length from by omega] at hc
        have hc2 : cntT xs xs.length xs.length = (xs.length : Int) - 1 := by omega
        rw [hc2]
        have HR := HR
        clear hc hc2 t0 t1 t2
        go_wp2_with fail
        go_loopw [8] (fun i wr => ∃ m : Nat, m ≤ R.length ∧ i = .int .i64 m ∧ Hid (IsNd wr b xs ∧ OwnI wr _ (.slice bO R.length cO) R ∧ Below w.heap.size w wr)) (fun i _ => R.length - (intOf i).toNat)
        case atStart => exact ⟨0, Nat.zero_le _, rfl, HR.out⟩
        case round =>
          clear HR
          obtain ⟨m, hm, rfl, HR⟩ := hrel
          by_cases hlm : m < R.length
          · obtain ⟨gr, rfl, _⟩ := HR.out.2.1.form_ (by omega)
            have c1 := HR.out.2.1.cell hlm
            obtain ⟨j, hj, hjl, hp⟩ := HKM.out _ (getD_mem hlm)
            rw [hj] at c1
            rcases (show IsNd wr b xs from HR.out.1) with rfl | ⟨g, o, rfl, hc⟩
            · simp at l1
            have c2 := (hc j hjl).1
            rw [hp] at c2
            have b0 : (0 : Int) ≤ (j : Int) := by omega
            have b1 : (j : Int) < (xs.length : Int) := by omega
            have b2 : (m : Int) < (R.length : Int) := by omega
            have b3 : (0 : Int) ≤ (m : Int) := by omega
            clear hc hj hp
            go_wp2_with fail
            go_roundw
            case rel => exact ⟨m + 1, by omega, by go_num, HR.out⟩
            case measure => simp [intOf]; omega
          · have CA := lasc _ cO R wr HR.out.2.1.at_ nR HA.out
            have HB := Lib.hid HR.out.2.2
            go_wp2_with fail
            refine CA.mono ?_
            rintro e u ⟨rfl, C⟩
            have HB2 := Lib.hid (bel_tr HB.out C)
            clear CA C HR
            go_wp2_with fail
            go_ret
            exact ⟨rfl, HB2.out⟩

set_option maxRecDepth 100000 in
theorem lifted (os : Os) (started : os.Started) (H : Type) (enc : TypeId × Value → H) :
    ReturnsInHanded {} Try.checked os 4 .any (Rows.fnKidsOfSpec.pre6 enc Try.prog Try.f4 Rows.fnKidsOfRow.domain false) (Rows.fnKidsOfSpec.post enc Try.prog Try.f4 false true false false) := by
  refine returnsInHanded_of_change (C := Try.checked) own started (by kernel_rfl) Try.func4
    (ChangeSpec.witness6 (enc := enc) (C := Try.checked) false ⟨#[], #[.slice none 0 0], []⟩ 8 (by kernel_rfl) (by kernel_rfl) (by kernel_rfl) (by kernel_rfl)) ?_
  intro W base args ds gs before hval0 hW hcnd _
  have hval : ∀ (j : Nat) t v, Try.f4.params[j]? = some t → args[j]? = some v → Value.okWide Try.prog W .any base t v := hval0
  have hW' := hW
  obtain ⟨p, q, hA0, hV, rfl, hfz, hnd⟩ := hW
  have hA : DataW.TrodAll enc Try.prog W 0 (fun _ => true) true Try.f4.params.toList args.toList ds p := hA0
  rw [Try.params4] at hA hval
  obtain ⟨v0, vs0, e0, es0, p0, q0, hargs, rfl, rfl, h0, r0⟩ := trodAll_cons hA
  obtain ⟨rfl, rfl, rfl⟩ := trodAll_nil r0
  obtain rfl : args = #[v0] := by cases args; simp_all
  obtain ⟨rfl, rfl⟩ := trodVars_none hV
  have k0 := h0
  have lt0 : ∀ x ∈ p0, x.block < W.heap.size := by obtain ⟨m, hm⟩ := k0; exact DataW.trod_lt m _ _ _ hm
  obtain ⟨a0, len0, cap0, rfl⟩ := okWide_slice Try.underlying22 (hval 0 22 v0 rfl rfl)
  obtain ⟨z0, w0⟩ : ∃ zs, IsRow .u8 W a0 len0 cap0 zs := by
    obtain ⟨fuel, hf⟩ := h0
    rcases open_ints Try.underlying22 Try.underlying5 (by kernel_rfl) hf with ⟨hcs, _⟩ | ⟨x, l, c, zs, hcs, _, hl, hm, hz, _, hcell, hwz⟩
    · simp [Value.cells] at hcs
      obtain ⟨rfl, rfl, rfl⟩ := hcs
      exact ⟨[], .inl ⟨rfl, rfl, rfl, rfl⟩⟩
    · simp [Value.cells] at hcs
      obtain ⟨rfl, rfl, rfl⟩ := hcs
      exact ⟨zs, .inr ⟨_, rfl, hl, hm, by simpa using hz, hcell, hwz⟩⟩
  clear hA0 hval0
  refine (walk a0 len0 cap0 z0 W w0).mono fun e W' ⟨he, bel⟩ => ?_
  subst he
  exact ⟨_, rfl, _, _, _, [], _, [], hW', trodAll_mk1 (shut_bool Try.underlying4 _), (trodAll_cons_mk (Below.trod laidOut (by kernel_rfl) (of_decide_eq_true (by kernel_rfl)) k0 bel lt0) trodAll_mk0), rfl, bel.frame _, fun h => by cases h⟩

theorem over : Rows.fnKidsOfRow.holds Try.pinned (OpenSpec.ofChange Rows.fnKidsOfSpec) :=
  OpenClaim.holds_of_wide 4 Try.f4 rfl rfl rfl rfl rfl rfl rfl ⟨rfl, rfl, rfl, rfl, rfl⟩ rfl rfl rfl rfl rfl (by kernel_rfl) Try.func4 (by kernel_rfl)
    (of_decide_eq_true (by kernel_rfl)) (by unfold Func.isWrapper; first | (rw [if_pos (by decide +kernel)]; kernel_rfl) | (rw [if_neg (by decide +kernel)]; exact ⟨rfl, rfl⟩))
    (fun os started H enc _ => lifted os started H enc)

end Go.Proofs.Ytbmpcggdkeakeaa.fnKidsOf
namespace Go.Proofs.Ytbmpcggdkeakeaa
/-- the statement -/
theorem fnKidsOf_holds : Rows.FnKidsOfSaid := fnKidsOf.over
end Go.Proofs.Ytbmpcggdkeakeaa
