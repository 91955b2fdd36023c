/- For every input the law answers true, and its argument reads afterwards as before: leaves have no kids. No condition. -/
import Derived.Test.YtbmpcggdkeakeaaRows
import Derived.Test.YtbmpcggdkeakeaaDrawNb
import Derived.Test.YtbmpcggdkeakeaaNodQ
import Derived.Test.YtbmpcggdkeakeaaLawIn
import Derived.Test.YtbmpcggdkeakeaaEqI
import Derived.Test.YtbmpcggdkeakeaaOwnM
import Derived.Test.YtbmpcggdkeakeaaNodL
import Derived.WalkKit
import Derived.Deep.RegionHeld3
import Derived.Deep.QuietTactic
import Derived.BigQuiet
import Derived.ProofKit
import Derived.OpenShut
import Derived.ShutString
import Derived.ChangeOld
import Derived.Below
import Derived.Lib.SmallJoins
namespace Go.Proofs.Ytbmpcggdkeakeaa.fnLeavesOf
open Go.ChangeShapes Go.WideShapes Go.ChangeAt Go.RowKit Go.Joins
open Go.ChangeMaps (open_string shut_string)
set_option linter.unusedVariables false
set_option linter.unusedSimpArgs false

theorem own : ownKnob Try.prog.godebug = none := by kernel_rfl
theorem laidOut : laidOutB Try.prog = true := by kernel_rfl

set_option maxRecDepth 100000 in
set_option maxHeartbeats 8000000 in
theorem walk (a0 : Option Addr) (len0 cap0 : Nat) (z0 : List Int) (w : World) (w0 : IsRow .u8 w a0 len0 cap0 z0) :
    Calls Try.prog 7 #[.slice a0 len0 cap0] w fun e w' => e = .returned (.bool true) ∧ Below w.heap.size w w' := by
  by_cases big : (1048576 : Int) < (len0 : Int)
  · go_enter Try.func7, Try.ntmps7
    go_wp2
    go_ret
    exact ⟨rfl, Below.refl _ _⟩
  go_enter Try.func7, Try.ntmps7
  go_wp2_with fail
  refine (drawLeavesOf a0 len0 cap0 z0 _ w0).mono ?_
  rintro e u1 ⟨b, cp, xs, rfl, l1, l10, hlc, I, B⟩
  clear w0 big
  have n1 : xs.length ≤ 1048576 := by omega
  have VI := Lib.hid (fun (W : World) (h : IsNd W b xs)  => iVN b cp xs W h n1 hlc)
  have LI := Lib.hid (fun (W : World) (h : IsNd W b xs)  => iLeaves b cp xs W h n1 hlc)
  have LS := Lib.hid (fun (W : World) (h : IsNd W b xs)  => sLeaves b cp xs W h n1)
  have KI := Lib.hid (fun (W : World) (h : IsNd W b xs) (i : Int) => iKids b cp xs i W h n1 hlc)
  have nR : (leavesV xs).length ≤ 1048576 := by unfold leavesV; split; exact Nat.le_trans (leavesTo_len _ _) n1; simp
  cases hv : vnB xs with
  | false =>
    rw [hv] at VI
    clear hv
    go_wp2_with fail
    refine (LI.out _ I).mono ?_
    rintro e u2 ⟨vO, rfl, O, C⟩
    obtain ⟨bO, cO, rfl, _⟩ := O.ints
    replace B := bel_tr B C
    replace I := nd_below I C
    clear C
    go_wp2_with fail
    refine (LS.out _ I).mono ?_
    rintro e u3 ⟨vP, rfl, P, C⟩
    obtain ⟨bP, cP, rfl, _⟩ := P.ints
    replace B := bel_tr B C
    replace I := nd_below I C
    replace O := O.of_block C
    clear C
    go_wp2_with fail
    refine (eqInts _ _ _ _ (leavesV xs) _ O.at_ P.at_ nR).mono ?_
    rintro e u4 ⟨rfl, C⟩
    replace B := bel_tr B C
    replace I := nd_below I C
    replace O := O.of_block C
    replace P := P.of_block C
    clear C
    go_wp2_with fail
    refine (VI.out _ I).mono ?_
    rintro e u5 ⟨rfl, C⟩
    replace B := bel_tr B C
    replace I := nd_below I C
    replace O := O.of_block C
    replace P := P.of_block C
    clear C
    go_wp2_with fail
    clear P
    refine (LS.out _ I).mono ?_
    rintro e u6 ⟨vQ, rfl, Q, C⟩
    obtain ⟨bQ, cQ, rfl, _⟩ := Q.ints
    replace B := bel_tr B C
    replace I := nd_below I C
    replace O := O.of_block C
    clear C
    go_wp2_with fail
    refine (eqInts _ _ _ _ (leavesV xs) _ O.at_ Q.at_ nR).mono ?_
    rintro e u7 ⟨rfl, C⟩
    replace B := bel_tr B C
    replace I := nd_below I C
    replace O := O.of_block C
    replace Q := Q.of_block C
    clear C
    go_wp2_with fail
    go_ret
    exact ⟨rfl, B⟩
  | true =>
    rw [hv] at VI
    have HK := Lib.hid (fun (W : World) (h : IsNd W b xs) (k : Nat) (hk : k < xs.length) => (by have := KI.out W h (k : Int); rw [kids_yes hv (inN_is hk)] at this; exact this : Calls Try.prog 22 #[.slice b xs.length cp, .int .i64 (k : Int)] W (OutI W (kidsF xs (k : Int)))))
    have hlv : leavesV xs = leavesTo xs xs.length := by unfold leavesV; rw [if_pos hv]
    have HM : Hid (∀ k : Nat, k < xs.length → decide ((k : Int) ∈ leavesV xs) = decide ((kidsF xs (k : Int)).length = 0)) := fun k hk => by
      rw [hlv]
      by_cases c : (kidsF xs (k : Int)).length = 0
      · rw [decide_eq_true c, decide_eq_true ((leavesTo_mem xs _ _).2 ⟨k, rfl, hk, c⟩)]
      · rw [decide_eq_false c]
        refine decide_eq_false (fun e => c ?_)
        obtain ⟨j, hj, _, hz⟩ := (leavesTo_mem xs _ _).1 e
        obtain rfl : j = k := by omega
        exact hz
    have HA : Hid (∀ i j, i < j → j < (leavesV xs).length → (leavesV xs).getD i 0 < (leavesV xs).getD j 0) := fun i j hij hj => by
      rw [hlv] at hj ⊢; exact leavesTo_asc xs xs.length i j hij hj
    have HL : Hid (0 < (leavesV xs).length) := by rw [hlv]; exact leaf_last hv
    clear hv hlv
    generalize leavesV xs = R at *
    go_wp2_with fail
    refine (LI.out _ I).mono ?_
    rintro e u2 ⟨vO, rfl, O, C⟩
    obtain ⟨bO, cO, rfl, _⟩ := O.ints
    replace B := bel_tr B C
    replace I := nd_below I C
    clear C
    go_wp2_with fail
    refine (LS.out _ I).mono ?_
    rintro e u3 ⟨vP, rfl, P, C⟩
    obtain ⟨bP, cP, rfl, _⟩ := P.ints
    replace B := bel_tr B C
    replace I := nd_below I C
    replace O := O.of_block C
    clear C
    go_wp2_with fail
    refine (eqInts _ _ _ _ R _ O.at_ P.at_ nR).mono ?_
    rintro e u4 ⟨rfl, C⟩
    replace B := bel_tr B C
    replace I := nd_below I C
    replace O := O.of_block C
    replace P := P.of_block C
    clear C
    go_wp2_with fail
    refine (VI.out _ I).mono ?_
    rintro e u5 ⟨rfl, C⟩
    replace B := bel_tr B C
    replace I := nd_below I C
    replace O := O.of_block C
    replace P := P.of_block C
    clear C
    go_wp2_with fail
    clear P
    go_loopw [5] (fun i wr => ∃ k : Nat, k ≤ xs.length ∧ i = .int .i64 k ∧ Hid (IsNd wr b xs ∧ OwnI wr _ (.slice bO R.length cO) R ∧ Below w.heap.size w wr)) (fun i _ => xs.length - (intOf i).toNat)
    case atStart => exact ⟨0, Nat.zero_le _, rfl, I, O, B⟩
    case round =>
      clear I O B
      obtain ⟨k, hk, rfl, HR⟩ := hrel
      by_cases hlt : k < xs.length
      · have CN := lisIn _ cO R (k : Int) wr HR.out.2.1.at_ nR
        have CK := HK.out wr HR.out.1 k hlt
        rw [HM.out k hlt] at CN
        by_cases hz : (kidsF xs (k : Int)).length = 0
        · rw [decide_eq_true hz] at CN
          go_wp2_with fail
          refine CN.mono ?_
          rintro e w' ⟨rfl, rfl⟩
          clear CN
          go_wp2_with fail
          refine CK.mono ?_
          rintro e u ⟨v, rfl, Q, C⟩
          obtain ⟨bq, cq, rfl, _⟩ := Q.ints
          have HF : Hid (IsNd u b xs ∧ OwnI u _ (.slice bO R.length cO) R ∧ Below w.heap.size w u) := ⟨nd_below HR.out.1 C, HR.out.2.1.of_block C, bel_tr HR.out.2.2 C⟩
          obtain ⟨q, hq⟩ : ∃ q, (kidsF xs (k : Int)).length = q := ⟨_, rfl⟩
          rw [hq] at hz ⊢
          clear CK C Q HR hq
          subst hz
          go_wp2_with fail
          go_roundw
          case rel => exact ⟨k + 1, by omega, by go_num, HF.out⟩
          case measure => simp [intOf]; omega
        · rw [decide_eq_false hz] at CN
          go_wp2_with fail
          refine CN.mono ?_
          rintro e w' ⟨rfl, rfl⟩
          clear CN
          go_wp2_with fail
          refine CK.mono ?_
          rintro e u ⟨v, rfl, Q, C⟩
          obtain ⟨bq, cq, rfl, _⟩ := Q.ints
          have HF : Hid (IsNd u b xs ∧ OwnI u _ (.slice bO R.length cO) R ∧ Below w.heap.size w u) := ⟨nd_below HR.out.1 C, HR.out.2.1.of_block C, bel_tr HR.out.2.2 C⟩
          obtain ⟨q, hq⟩ : ∃ q, (kidsF xs (k : Int)).length = q := ⟨_, rfl⟩
          rw [hq] at hz ⊢
          clear CK C Q HR hq
          have e1 : ((q : Int) == 0) = false := beq_eq_false_iff_ne.2 (by omega)
          have e2 : (q == 0) = false := beq_eq_false_iff_ne.2 hz
          go_wp2_with fail
          go_roundw
          case rel => exact ⟨k + 1, by omega, by go_num, HF.out⟩
          case measure => simp [intOf]; omega
      · have CA := lasc _ cO R wr HR.out.2.1.at_ nR HA.out
        have HB := Lib.hid HR.out.2.2
        have hl := HL.out
        have e1 : decide (0 < (R.length : Int)) = true := decide_eq_true (by omega)
        have e2 : decide (0 < R.length) = true := decide_eq_true hl
        go_wp2_with fail
        refine CA.mono ?_
        rintro e u ⟨rfl, C⟩
        have HB2 := Lib.hid (bel_tr HB.out C)
        clear CA C HR
        go_wp2_with fail
        go_ret
        exact ⟨rfl, HB2.out⟩

set_option maxRecDepth 100000 in
theorem lifted (os : Os) (started : os.Started) (H : Type) (enc : TypeId × Value → H) :
    ReturnsInHanded {} Try.checked os 7 .any (Rows.fnLeavesOfSpec.pre6 enc Try.prog Try.f7 Rows.fnLeavesOfRow.domain false) (Rows.fnLeavesOfSpec.post enc Try.prog Try.f7 false true false false) := by
  refine returnsInHanded_of_change (C := Try.checked) own started (by kernel_rfl) Try.func7
    (ChangeSpec.witness6 (enc := enc) (C := Try.checked) false ⟨#[], #[.slice none 0 0], []⟩ 8 (by kernel_rfl) (by kernel_rfl) (by kernel_rfl) (by kernel_rfl)) ?_
  intro W base args ds gs before hval0 hW hcnd _
  have hval : ∀ (j : Nat) t v, Try.f7.params[j]? = some t → args[j]? = some v → Value.okWide Try.prog W .any base t v := hval0
  have hW' := hW
  obtain ⟨p, q, hA0, hV, rfl, hfz, hnd⟩ := hW
  have hA : DataW.TrodAll enc Try.prog W 0 (fun _ => true) true Try.f7.params.toList args.toList ds p := hA0
  rw [Try.params7] at hA hval
  obtain ⟨v0, vs0, e0, es0, p0, q0, hargs, rfl, rfl, h0, r0⟩ := trodAll_cons hA
  obtain ⟨rfl, rfl, rfl⟩ := trodAll_nil r0
  obtain rfl : args = #[v0] := by cases args; simp_all
  obtain ⟨rfl, rfl⟩ := trodVars_none hV
  have k0 := h0
  have lt0 : ∀ x ∈ p0, x.block < W.heap.size := by obtain ⟨m, hm⟩ := k0; exact DataW.trod_lt m _ _ _ hm
  obtain ⟨a0, len0, cap0, rfl⟩ := okWide_slice Try.underlying22 (hval 0 22 v0 rfl rfl)
  obtain ⟨z0, w0⟩ : ∃ zs, IsRow .u8 W a0 len0 cap0 zs := by
    obtain ⟨fuel, hf⟩ := h0
    rcases open_ints Try.underlying22 Try.underlying5 (by kernel_rfl) hf with ⟨hcs, _⟩ | ⟨x, l, c, zs, hcs, _, hl, hm, hz, _, hcell, hwz⟩
    · simp [Value.cells] at hcs
      obtain ⟨rfl, rfl, rfl⟩ := hcs
      exact ⟨[], .inl ⟨rfl, rfl, rfl, rfl⟩⟩
    · simp [Value.cells] at hcs
      obtain ⟨rfl, rfl, rfl⟩ := hcs
      exact ⟨zs, .inr ⟨_, rfl, hl, hm, by simpa using hz, hcell, hwz⟩⟩
  clear hA0 hval0
  refine (walk a0 len0 cap0 z0 W w0).mono fun e W' ⟨he, bel⟩ => ?_
  subst he
  exact ⟨_, rfl, _, _, _, [], _, [], hW', trodAll_mk1 (shut_bool Try.underlying4 _), (trodAll_cons_mk (Below.trod laidOut (by kernel_rfl) (of_decide_eq_true (by kernel_rfl)) k0 bel lt0) trodAll_mk0), rfl, bel.frame _, fun h => by cases h⟩

theorem over : Rows.fnLeavesOfRow.holds Try.pinned (OpenSpec.ofChange Rows.fnLeavesOfSpec) :=
  OpenClaim.holds_of_wide 7 Try.f7 rfl rfl rfl rfl rfl rfl rfl ⟨rfl, rfl, rfl, rfl, rfl⟩ rfl rfl rfl rfl rfl (by kernel_rfl) Try.func7 (by kernel_rfl)
    (of_decide_eq_true (by kernel_rfl)) (by unfold Func.isWrapper; first | (rw [if_pos (by decide +kernel)]; kernel_rfl) | (rw [if_neg (by decide +kernel)]; exact ⟨rfl, rfl⟩))
    (fun os started H enc _ => lifted os started H enc)

end Go.Proofs.Ytbmpcggdkeakeaa.fnLeavesOf
namespace Go.Proofs.Ytbmpcggdkeakeaa
/-- the statement -/
theorem fnLeavesOf_holds : Rows.FnLeavesOfSaid := fnLeavesOf.over
end Go.Proofs.Ytbmpcggdkeakeaa
