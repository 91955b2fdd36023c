/- For every input the law answers true, and its argument reads afterwards as before: what the spring cannot give is not needed. No condition. -/
import Derived.Test.YtlpmeljneogpiabRows
import Derived.Test.YtlpmeljneogpiabDrawNb
import Derived.Test.YtlpmeljneogpiabNodQ
import Derived.Test.YtlpmeljneogpiabLawIn
import Derived.Test.YtlpmeljneogpiabEqI
import Derived.Test.YtlpmeljneogpiabGrA
import Derived.Test.YtlpmeljneogpiabNodR
import Derived.Test.YtlpmeljneogpiabFlowN
import Derived.Test.YtlpmeljneogpiabFlowV
import Derived.WalkKit
import Derived.Deep.RegionHeld3
import Derived.Deep.QuietTactic
import Derived.BigQuiet
import Derived.ProofKit
import Derived.OpenShut
import Derived.ShutString
import Derived.ChangeOld
import Derived.Below
import Derived.Lib.SmallJoins
namespace Go.Proofs.Ytlpmeljneogpiab.fnNeedForNone
open Go.ChangeShapes Go.WideShapes Go.ChangeAt Go.RowKit Go.Joins
open Go.ChangeMaps (open_string shut_string)
set_option linter.unusedVariables false
set_option linter.unusedSimpArgs false

theorem own : ownKnob Try.prog.godebug = none := by kernel_rfl
theorem laidOut : laidOutB Try.prog = true := by kernel_rfl

set_option maxRecDepth 100000 in
set_option maxHeartbeats 8000000 in
theorem walk (a0 : Option Addr) (len0 cap0 : Nat) (z0 : List Int) (w : World) (w0 : IsRow .u8 w a0 len0 cap0 z0) :
    Calls Try.prog 4 #[.slice a0 len0 cap0] w fun e w' => e = .returned (.bool true) ∧ Below w.heap.size w w' := by
  by_cases big : (1048576 : Int) < (len0 : Int)
  · go_enter Try.func4, Try.ntmps4
    go_wp2
    go_ret
    exact ⟨rfl, Below.refl _ _⟩
  go_enter Try.func4, Try.ntmps4
  go_wp2_with fail
  refine (drawNeedFor a0 len0 cap0 z0 _ w0).mono ?_
  rintro e u1 ⟨b, cp, xs, at_, am, rfl, l1, l10, hlc, I, i0, i1, j0, j1, B⟩
  clear w0 big
  have n1 : xs.length ≤ 1048576 := by omega
  have NI := Lib.hid (fun (W : World) (h : IsNd W b xs) (i j : Int) => iNeed b cp xs i j W h n1 hlc)
  have NS := Lib.hid (fun (W : World) (h : IsNd W b xs) (i j : Int) => sNeed b cp xs i j W h n1)
  have QI := Lib.hid (fun (W : World) (h : IsNd W b xs) (i : Int) => iPassed b cp xs i W h n1 hlc)
  have VI := Lib.hid (fun (W : World) (h : IsNd W b xs)  => iVN b cp xs W h n1 hlc)
  have NA := Lib.hid (fun W h => NI.out W h at_ am)
  have NB := Lib.hid (fun W h => NS.out W h at_ am)
  cases hv : vnB xs with
  | false =>
    rw [hv] at VI
    clear hv NI NS QI
    generalize needV xs at_ am = v at *
    go_wp2_with fail
    refine (NA.out _ I).mono ?_
    rintro e u2 ⟨rfl, C⟩
    replace B := bel_tr B C
    replace I := nd_below I C
    clear C
    go_wp2_with fail
    refine (NB.out _ I).mono ?_
    rintro e u3 ⟨rfl, C⟩
    replace B := bel_tr B C
    replace I := nd_below I C
    clear C
    go_wp2_with fail
    refine (VI.out _ I).mono ?_
    rintro e u4 ⟨rfl, C⟩
    replace B := bel_tr B C
    replace I := nd_below I C
    clear C
    go_wp2_with fail
    refine (NB.out _ I).mono ?_
    rintro e u5 ⟨rfl, C⟩
    replace B := bel_tr B C
    replace I := nd_below I C
    clear C
    go_wp2_with fail
    go_ret
    exact ⟨rfl, B⟩
  | true =>
    rw [hv] at VI
    by_cases ha : at_ < 0
    · have e0 : decide (at_ < 0) = true := decide_eq_true ha
      clear hv NI NS QI
      generalize needV xs at_ am = v at *
      go_wp2_with fail
      refine (NA.out _ I).mono ?_
      rintro e u2 ⟨rfl, C⟩
      replace B := bel_tr B C
      replace I := nd_below I C
      clear C
      go_wp2_with fail
      refine (NB.out _ I).mono ?_
      rintro e u3 ⟨rfl, C⟩
      replace B := bel_tr B C
      replace I := nd_below I C
      clear C
      go_wp2_with fail
      refine (VI.out _ I).mono ?_
      rintro e u4 ⟨rfl, C⟩
      replace B := bel_tr B C
      replace I := nd_below I C
      clear C
      go_wp2_with fail
      refine (NB.out _ I).mono ?_
      rintro e u5 ⟨rfl, C⟩
      replace B := bel_tr B C
      replace I := nd_below I C
      clear C
      go_wp2_with fail
      go_ret
      exact ⟨rfl, B⟩
    have e0 : decide (at_ < 0) = false := decide_eq_false ha
    obtain ⟨k, rfl⟩ : ∃ k : Nat, at_ = (k : Int) := ⟨at_.toNat, by omega⟩
    by_cases hk : k < xs.length
    rotate_left
    · have e1 : decide ((xs.length : Int) ≤ (k : Int)) = true := decide_eq_true (by omega)
      have e2 : decide (xs.length ≤ k) = true := decide_eq_true (by omega)
      clear hv NI NS QI
      generalize needV xs (k : Int) am = v at *
      go_wp2_with fail
      refine (NA.out _ I).mono ?_
      rintro e u2 ⟨rfl, C⟩
      replace B := bel_tr B C
      replace I := nd_below I C
      clear C
      go_wp2_with fail
      refine (NB.out _ I).mono ?_
      rintro e u3 ⟨rfl, C⟩
      replace B := bel_tr B C
      replace I := nd_below I C
      clear C
      go_wp2_with fail
      refine (VI.out _ I).mono ?_
      rintro e u4 ⟨rfl, C⟩
      replace B := bel_tr B C
      replace I := nd_below I C
      clear C
      go_wp2_with fail
      refine (NB.out _ I).mono ?_
      rintro e u5 ⟨rfl, C⟩
      replace B := bel_tr B C
      replace I := nd_below I C
      clear C
      go_wp2_with fail
      go_ret
      exact ⟨rfl, B⟩
    have e1 : decide ((xs.length : Int) ≤ (k : Int)) = false := decide_eq_false (by omega)
    have e2 : decide (xs.length ≤ k) = false := decide_eq_false (by omega)
    have QA : Hid (∀ (W : World), IsNd W b xs → Calls Try.prog 15 #[.slice b xs.length cp, .int .i64 500] W (OutI W (passF xs 500))) := fun W h => by
      have := QI.out W h 500
      rw [passed_yes (by unfold flB; rw [hv]; rfl)] at this; exact this
    have PL := Lib.hid (passF_len xs 500)
    have HN := need_iff (am := am) hv hk
    have k0 : (0 : Int) ≤ (k : Int) := by omega
    have k1 : (k : Int) < (xs.length : Int) := by omega
    clear hv NI NS QI ha
    generalize needV xs (k : Int) am = v at *
    by_cases hp : (passF xs 500).getD k 0 < am
    · have e3 : decide ((passF xs 500).getD k 0 < am) = true := decide_eq_true hp
      have e4 : decide (v < 0) = true := decide_eq_true (HN.2 hp)
      clear HN hp
      go_wp2_with fail
      refine (NA.out _ I).mono ?_
      rintro e u2 ⟨rfl, C⟩
      replace B := bel_tr B C
      replace I := nd_below I C
      clear C
      go_wp2_with fail
      refine (NB.out _ I).mono ?_
      rintro e u3 ⟨rfl, C⟩
      replace B := bel_tr B C
      replace I := nd_below I C
      clear C
      go_wp2_with fail
      refine (VI.out _ I).mono ?_
      rintro e u4 ⟨rfl, C⟩
      replace B := bel_tr B C
      replace I := nd_below I C
      clear C
      go_wp2_with fail
      refine (QA.out _ I).mono ?_
      rintro e u5 ⟨vQ, rfl, Q, C⟩
      obtain ⟨bQ, cQ, rfl, _⟩ := Q.ints
      replace B := bel_tr B C
      replace I := nd_below I C
      clear C
      rw [PL.out] at Q ⊢
      obtain ⟨gQ, rfl, _⟩ := Q.form_ (by rw [PL.out]; omega)
      have cQ := Q.cell (j := k) (by rw [PL.out]; exact hk)
      generalize (passF xs 500).getD k 0 = y at cQ e3
      go_wp2_with fail
      go_ret
      exact ⟨rfl, B⟩
    · have e3 : decide ((passF xs 500).getD k 0 < am) = false := decide_eq_false hp
      have e4 : decide (v < 0) = false := decide_eq_false (fun c => hp (HN.1 c))
      clear HN hp
      go_wp2_with fail
      refine (NA.out _ I).mono ?_
      rintro e u2 ⟨rfl, C⟩
      replace B := bel_tr B C
      replace I := nd_below I C
      clear C
      go_wp2_with fail
      refine (NB.out _ I).mono ?_
      rintro e u3 ⟨rfl, C⟩
      replace B := bel_tr B C
      replace I := nd_below I C
      clear C
      go_wp2_with fail
      refine (VI.out _ I).mono ?_
      rintro e u4 ⟨rfl, C⟩
      replace B := bel_tr B C
      replace I := nd_below I C
      clear C
      go_wp2_with fail
      refine (QA.out _ I).mono ?_
      rintro e u5 ⟨vQ, rfl, Q, C⟩
      obtain ⟨bQ, cQ, rfl, _⟩ := Q.ints
      replace B := bel_tr B C
      replace I := nd_below I C
      clear C
      rw [PL.out] at Q ⊢
      obtain ⟨gQ, rfl, _⟩ := Q.form_ (by rw [PL.out]; omega)
      have cQ := Q.cell (j := k) (by rw [PL.out]; exact hk)
      generalize (passF xs 500).getD k 0 = y at cQ e3
      go_wp2_with fail
      go_ret
      exact ⟨rfl, B⟩

set_option maxRecDepth 100000 in
theorem lifted (os : Os) (started : os.Started) (H : Type) (enc : TypeId × Value → H) :
    ReturnsInHanded {} Try.checked os 4 .any (Rows.fnNeedForNoneSpec.pre6 enc Try.prog Try.f4 Rows.fnNeedForNoneRow.domain false) (Rows.fnNeedForNoneSpec.post enc Try.prog Try.f4 false true false false) := by
  refine returnsInHanded_of_change (C := Try.checked) own started (by kernel_rfl) Try.func4
    (ChangeSpec.witness6 (enc := enc) (C := Try.checked) false ⟨#[], #[.slice none 0 0], []⟩ 8 (by kernel_rfl) (by kernel_rfl) (by kernel_rfl) (by kernel_rfl)) ?_
  intro W base args ds gs before hval0 hW hcnd _
  have hval : ∀ (j : Nat) t v, Try.f4.params[j]? = some t → args[j]? = some v → Value.okWide Try.prog W .any base t v := hval0
  have hW' := hW
  obtain ⟨p, q, hA0, hV, rfl, hfz, hnd⟩ := hW
  have hA : DataW.TrodAll enc Try.prog W 0 (fun _ => true) true Try.f4.params.toList args.toList ds p := hA0
  rw [Try.params4] at hA hval
  obtain ⟨v0, vs0, e0, es0, p0, q0, hargs, rfl, rfl, h0, r0⟩ := trodAll_cons hA
  obtain ⟨rfl, rfl, rfl⟩ := trodAll_nil r0
  obtain rfl : args = #[v0] := by cases args; simp_all
  obtain ⟨rfl, rfl⟩ := trodVars_none hV
  have k0 := h0
  have lt0 : ∀ x ∈ p0, x.block < W.heap.size := by obtain ⟨m, hm⟩ := k0; exact DataW.trod_lt m _ _ _ hm
  obtain ⟨a0, len0, cap0, rfl⟩ := okWide_slice Try.underlying22 (hval 0 22 v0 rfl rfl)
  obtain ⟨z0, w0⟩ : ∃ zs, IsRow .u8 W a0 len0 cap0 zs := by
    obtain ⟨fuel, hf⟩ := h0
    rcases open_ints Try.underlying22 Try.underlying5 (by kernel_rfl) hf with ⟨hcs, _⟩ | ⟨x, l, c, zs, hcs, _, hl, hm, hz, _, hcell, hwz⟩
    · simp [Value.cells] at hcs
      obtain ⟨rfl, rfl, rfl⟩ := hcs
      exact ⟨[], .inl ⟨rfl, rfl, rfl, rfl⟩⟩
    · simp [Value.cells] at hcs
      obtain ⟨rfl, rfl, rfl⟩ := hcs
      exact ⟨zs, .inr ⟨_, rfl, hl, hm, by simpa using hz, hcell, hwz⟩⟩
  clear hA0 hval0
  refine (walk a0 len0 cap0 z0 W w0).mono fun e W' ⟨he, bel⟩ => ?_
  subst he
  exact ⟨_, rfl, _, _, _, [], _, [], hW', trodAll_mk1 (shut_bool Try.underlying4 _), (trodAll_cons_mk (Below.trod laidOut (by kernel_rfl) (of_decide_eq_true (by kernel_rfl)) k0 bel lt0) trodAll_mk0), rfl, bel.frame _, fun h => by cases h⟩

theorem over : Rows.fnNeedForNoneRow.holds Try.pinned (OpenSpec.ofChange Rows.fnNeedForNoneSpec) :=
  OpenClaim.holds_of_wide 4 Try.f4 rfl rfl rfl rfl rfl rfl rfl ⟨rfl, rfl, rfl, rfl, rfl⟩ rfl rfl rfl rfl rfl (by kernel_rfl) Try.func4 (by kernel_rfl)
    (of_decide_eq_true (by kernel_rfl)) (by unfold Func.isWrapper; first | (rw [if_pos (by decide +kernel)]; kernel_rfl) | (rw [if_neg (by decide +kernel)]; exact ⟨rfl, rfl⟩))
    (fun os started H enc _ => lifted os started H enc)

end Go.Proofs.Ytlpmeljneogpiab.fnNeedForNone
namespace Go.Proofs.Ytlpmeljneogpiab
/-- the statement -/
theorem fnNeedForNone_holds : Rows.FnNeedForNoneSaid := fnNeedForNone.over
end Go.Proofs.Ytlpmeljneogpiab
