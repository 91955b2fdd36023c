/- For every input the law answers true, and its argument reads afterwards as before: channels can be shortened. No condition. -/
import Derived.Test.YtbmpcggdkeakeaaRows
import Derived.Test.YtbmpcggdkeakeaaDrawNb
import Derived.Test.YtbmpcggdkeakeaaNodQ
import Derived.Test.YtbmpcggdkeakeaaLawIn
import Derived.Test.YtbmpcggdkeakeaaEqI
import Derived.Test.YtbmpcggdkeakeaaOwnM
import Derived.WalkKit
import Derived.Deep.RegionHeld3
import Derived.Deep.QuietTactic
import Derived.BigQuiet
import Derived.ProofKit
import Derived.OpenShut
import Derived.ShutString
import Derived.ChangeOld
import Derived.Below
import Derived.Lib.SmallJoins
namespace Go.Proofs.Ytbmpcggdkeakeaa.fnValidNodes
open Go.ChangeShapes Go.WideShapes Go.ChangeAt Go.RowKit Go.Joins
open Go.ChangeMaps (open_string shut_string)
set_option linter.unusedVariables false
set_option linter.unusedSimpArgs false

theorem own : ownKnob Try.prog.godebug = none := by kernel_rfl
theorem laidOut : laidOutB Try.prog = true := by kernel_rfl

set_option maxRecDepth 100000 in
set_option maxHeartbeats 8000000 in
theorem walk (a0 : Option Addr) (len0 cap0 : Nat) (z0 : List Int) (w : World) (w0 : IsRow .u8 w a0 len0 cap0 z0) :
    Calls Try.prog 3 #[.slice a0 len0 cap0] w fun e w' => e = .returned (.bool true) ∧ Below w.heap.size w w' := by
  by_cases big : (1048576 : Int) < (len0 : Int)
  · go_enter Try.func3, Try.ntmps3
    go_wp2
    go_ret
    exact ⟨rfl, Below.refl _ _⟩
  go_enter Try.func3, Try.ntmps3
  go_wp2_with fail
  refine (drawValidNodes a0 len0 cap0 z0 _ w0).mono ?_
  rintro e u1 ⟨b, cp, xs, rfl, l1, l10, hlc, I, B⟩
  clear w0 big
  have n1 : xs.length ≤ 1048576 := by omega
  rcases (show IsNd u1 b xs from I) with rfl | ⟨g, o, rfl, _⟩
  · simp at l1
  have VI := Lib.hid (fun (W : World) (h : IsNd W (some ⟨g, o, none⟩) xs) => iVN (some ⟨g, o, none⟩) cp xs W h n1 hlc)
  have VS := Lib.hid (fun (W : World) (h : IsNd W (some ⟨g, o, none⟩) xs) => sVN (some ⟨g, o, none⟩) cp xs W h n1)
  have VT := Lib.hid (fun (W : World) (h : IsNd W (some ⟨g, o, none⟩) xs) (k : Nat) (h1 : 1 ≤ k) (hk : k ≤ xs.length) (hv : vnB xs = true) => (by
    have hl : (xs.take k).length = k := by rw [List.length_take]; omega
    have hi : IsNd W (some ⟨g, o, none⟩) (xs.take k) := by
      rcases h with rfl | ⟨g', o', e, hc⟩
      · simp at l1
      · exact .inr ⟨g', o', e, fun i hi => by rw [take_getD (by omega)]; exact hc i (by omega)⟩
    have := iVN (some ⟨g, o, none⟩) cp (xs.take k) W hi (by omega) (by omega)
    rw [hl, vn_take hv h1 hk] at this
    exact this : Calls Try.prog 19 #[.slice (some ⟨g, o, none⟩) k cp] W fun e w' => e = .returned (.bool true) ∧ Below W.heap.size W w'))
  cases hv : vnB xs with
  | false =>
    rw [hv] at VI VS
    clear VT hv
    go_wp2_with fail
    refine (VI.out _ I).mono ?_
    rintro e u2 ⟨rfl, C⟩
    replace B := bel_tr B C
    replace I := nd_below I C
    clear C
    go_wp2_with fail
    refine (VS.out _ I).mono ?_
    rintro e u3 ⟨rfl, C⟩
    replace B := bel_tr B C
    replace I := nd_below I C
    clear C
    go_wp2_with fail
    refine (VS.out _ I).mono ?_
    rintro e u4 ⟨rfl, C⟩
    replace B := bel_tr B C
    replace I := nd_below I C
    clear C
    go_wp2_with fail
    go_ret
    exact ⟨rfl, B⟩
  | true =>
    rw [hv] at VI VS
    have HV := Lib.hid hv
    clear hv
    go_wp2_with fail
    refine (VI.out _ I).mono ?_
    rintro e u2 ⟨rfl, C⟩
    replace B := bel_tr B C
    replace I := nd_below I C
    clear C
    go_wp2_with fail
    refine (VS.out _ I).mono ?_
    rintro e u3 ⟨rfl, C⟩
    replace B := bel_tr B C
    replace I := nd_below I C
    clear C
    go_wp2_with fail
    go_loopw [5] (fun i wr => ∃ k : Nat, 1 ≤ k ∧ k ≤ xs.length + 1 ∧ i = .int .i64 k ∧ Hid (IsNd wr (some ⟨g, o, none⟩) xs ∧ Below w.heap.size w wr)) (fun i _ => xs.length + 1 - (intOf i).toNat)
    case atStart => exact ⟨1, Nat.le_refl _, by omega, rfl, I, B⟩
    case round =>
      clear I B
      obtain ⟨k, k1, k2, rfl, HB⟩ := hrel
      by_cases hlt : k ≤ xs.length
      · have CT := VT.out wr HB.out.1 k k1 hlt HV.out
        have e1 : decide ((k : Int) ≤ (xs.length : Int)) = true := decide_eq_true (by omega)
        have e2 : decide (k ≤ xs.length) = true := decide_eq_true hlt
        have b0 : (0 : Int) ≤ (k : Int) := by omega
        have b1 : (k : Int) ≤ (cp : Int) := by omega
        go_wp2_with fail
        refine CT.mono ?_
        rintro e u ⟨rfl, C⟩
        have HF : Hid (IsNd u (some ⟨g, o, none⟩) xs ∧ Below w.heap.size w u) := ⟨nd_below HB.out.1 C, bel_tr HB.out.2 C⟩
        clear HB C CT
        go_wp2_with fail
        go_roundw
        case rel => exact ⟨k + 1, by omega, by omega, by go_num, HF.out⟩
        case measure => simp [intOf]; omega
      · have e1 : decide ((k : Int) ≤ (xs.length : Int)) = false := decide_eq_false (by omega)
        have e2 : decide (k ≤ xs.length) = false := decide_eq_false hlt
        have CN := iVN none 0 [] wr (.inl rfl) (by simp) (by simp)
        rw [vn_no0 (by simp)] at CN
        have HF := Lib.hid HB.out.2
        go_wp2_with fail
        refine CN.mono ?_
        rintro e u ⟨rfl, C⟩
        have HF2 := Lib.hid (bel_tr HF.out C)
        clear C CN HB
        go_wp2_with fail
        go_ret
        exact ⟨rfl, HF2.out⟩

set_option maxRecDepth 100000 in
theorem lifted (os : Os) (started : os.Started) (H : Type) (enc : TypeId × Value → H) :
    ReturnsInHanded {} Try.checked os 3 .any (Rows.fnValidNodesSpec.pre6 enc Try.prog Try.f3 Rows.fnValidNodesRow.domain false) (Rows.fnValidNodesSpec.post enc Try.prog Try.f3 false true false false) := by
  refine returnsInHanded_of_change (C := Try.checked) own started (by kernel_rfl) Try.func3
    (ChangeSpec.witness6 (enc := enc) (C := Try.checked) false ⟨#[], #[.slice none 0 0], []⟩ 8 (by kernel_rfl) (by kernel_rfl) (by kernel_rfl) (by kernel_rfl)) ?_
  intro W base args ds gs before hval0 hW hcnd _
  have hval : ∀ (j : Nat) t v, Try.f3.params[j]? = some t → args[j]? = some v → Value.okWide Try.prog W .any base t v := hval0
  have hW' := hW
  obtain ⟨p, q, hA0, hV, rfl, hfz, hnd⟩ := hW
  have hA : DataW.TrodAll enc Try.prog W 0 (fun _ => true) true Try.f3.params.toList args.toList ds p := hA0
  rw [Try.params3] at hA hval
  obtain ⟨v0, vs0, e0, es0, p0, q0, hargs, rfl, rfl, h0, r0⟩ := trodAll_cons hA
  obtain ⟨rfl, rfl, rfl⟩ := trodAll_nil r0
  obtain rfl : args = #[v0] := by cases args; simp_all
  obtain ⟨rfl, rfl⟩ := trodVars_none hV
  have k0 := h0
  have lt0 : ∀ x ∈ p0, x.block < W.heap.size := by obtain ⟨m, hm⟩ := k0; exact DataW.trod_lt m _ _ _ hm
  obtain ⟨a0, len0, cap0, rfl⟩ := okWide_slice Try.underlying22 (hval 0 22 v0 rfl rfl)
  obtain ⟨z0, w0⟩ : ∃ zs, IsRow .u8 W a0 len0 cap0 zs := by
    obtain ⟨fuel, hf⟩ := h0
    rcases open_ints Try.underlying22 Try.underlying5 (by kernel_rfl) hf with ⟨hcs, _⟩ | ⟨x, l, c, zs, hcs, _, hl, hm, hz, _, hcell, hwz⟩
    · simp [Value.cells] at hcs
      obtain ⟨rfl, rfl, rfl⟩ := hcs
      exact ⟨[], .inl ⟨rfl, rfl, rfl, rfl⟩⟩
    · simp [Value.cells] at hcs
      obtain ⟨rfl, rfl, rfl⟩ := hcs
      exact ⟨zs, .inr ⟨_, rfl, hl, hm, by simpa using hz, hcell, hwz⟩⟩
  clear hA0 hval0
  refine (walk a0 len0 cap0 z0 W w0).mono fun e W' ⟨he, bel⟩ => ?_
  subst he
  exact ⟨_, rfl, _, _, _, [], _, [], hW', trodAll_mk1 (shut_bool Try.underlying4 _), (trodAll_cons_mk (Below.trod laidOut (by kernel_rfl) (of_decide_eq_true (by kernel_rfl)) k0 bel lt0) trodAll_mk0), rfl, bel.frame _, fun h => by cases h⟩

theorem over : Rows.fnValidNodesRow.holds Try.pinned (OpenSpec.ofChange Rows.fnValidNodesSpec) :=
  OpenClaim.holds_of_wide 3 Try.f3 rfl rfl rfl rfl rfl rfl rfl ⟨rfl, rfl, rfl, rfl, rfl⟩ rfl rfl rfl rfl rfl (by kernel_rfl) Try.func3 (by kernel_rfl)
    (of_decide_eq_true (by kernel_rfl)) (by unfold Func.isWrapper; first | (rw [if_pos (by decide +kernel)]; kernel_rfl) | (rw [if_neg (by decide +kernel)]; exact ⟨rfl, rfl⟩))
    (fun os started H enc _ => lifted os started H enc)

end Go.Proofs.Ytbmpcggdkeakeaa.fnValidNodes
namespace Go.Proofs.Ytbmpcggdkeakeaa
/-- the statement -/
theorem fnValidNodes_holds : Rows.FnValidNodesSaid := fnValidNodes.over
end Go.Proofs.Ytbmpcggdkeakeaa
