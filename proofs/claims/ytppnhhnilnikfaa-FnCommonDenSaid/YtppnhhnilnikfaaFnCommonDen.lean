/- For every input the law answers true, and its argument reads afterwards as before: units are whole. No condition. -/
import Derived.Test.YtppnhhnilnikfaaRows
import Derived.Test.YtppnhhnilnikfaaDrawHf
import Derived.Test.YtppnhhnilnikfaaLedL
import Derived.Test.YtppnhhnilnikfaaEqH
import Derived.Test.YtppnhhnilnikfaaOwnInts
import Derived.WalkKit
import Derived.ProofKit
import Derived.OpenShut
import Derived.ShutString
import Derived.ChangeOld
import Derived.Below
import Derived.Lib.SmallJoins
namespace Go.Proofs.Ytppnhhnilnikfaa.fnCommonDen
open Go.ChangeShapes Go.WideShapes Go.ChangeAt Go.RowKit Go.Joins
open Go.ChangeMaps (open_string shut_string)
set_option linter.unusedVariables false
set_option linter.unusedSimpArgs false

theorem own : ownKnob Try.prog.godebug = none := by kernel_rfl
theorem laidOut : laidOutB Try.prog = true := by kernel_rfl

set_option maxRecDepth 100000 in
set_option maxHeartbeats 6000000 in
theorem walk (a0 : Option Addr) (len0 cap0 : Nat) (z0 : List Int) (w : World) (w0 : IsRow .u8 w a0 len0 cap0 z0) :
    Calls Try.prog 9 #[.slice a0 len0 cap0] w fun e w' => e = .returned (.bool true) ∧ Below w.heap.size w w' := by
  by_cases big : (1048576 : Int) < (len0 : Int)
  · go_enter Try.func9, Try.ntmps9
    go_wp2
    go_ret
    exact ⟨rfl, Below.refl _ _⟩
  go_enter Try.func9, Try.ntmps9
  go_wp2_with fail
  refine (drawCommonDen a0 len0 cap0 z0 _ w0).mono ?_
  rintro e u1 ⟨b, cp, hs, rfl, hl6, hlc, hi, B⟩
  clear w0 big
  have n1 : hs.length ≤ 1048576 := by omega
  have HI := Lib.hid hi
  have D := Below.refl u1.heap.size u1
  clear hi
  by_cases hv : cdR hs = -1
  · have HVV := Lib.hid hv
    have CI : ∀ W, Below u1.heap.size u1 W → Calls Try.prog 31 #[.slice b hs.length cp] W fun e w' => e = .returned (.int .i64 (-1)) ∧ Below W.heap.size W w' := fun W hW => by
      have := iCD b cp hs W (hs_below HI.out hW) n1
      rw [HVV.out] at this; exact this
    have CS : ∀ W, Below u1.heap.size u1 W → Calls Try.prog 32 #[.slice b hs.length cp] W fun e w' => e = .returned (.int .i64 (-1)) ∧ Below W.heap.size W w' := fun W hW => by
      have := sCD b cp hs W (hs_below HI.out hW) n1
      rw [HVV.out] at this; exact this
    clear hv
    go_wp2_with fail
    refine (CI _ D).mono ?_
    rintro e u ⟨rfl, C⟩
    replace B := bel_tr B C
    replace D := bel_tr D C
    clear C
    go_wp2_with fail
    refine (CS _ D).mono ?_
    rintro e u ⟨rfl, C⟩
    replace B := bel_tr B C
    replace D := bel_tr D C
    clear C
    go_wp2_with fail
    refine (CS _ D).mono ?_
    rintro e u ⟨rfl, C⟩
    replace B := bel_tr B C
    replace D := bel_tr D C
    clear C
    go_wp2_with fail
    go_ret
    exact ⟨rfl, B⟩
  · obtain ⟨ok, hle, hcd⟩ := cd_pos hv
    obtain ⟨us, ub⟩ := un_sum ok
    have hrem := fun k (hk : k < hs.length) => cd_rem ok hk
    have hlp := lcm_pos (ledOf hs) hs.length
    have hv2 := hv
    generalize hnn : lcmTo (ledOf hs) hs.length = n at hle hcd us ub hrem hlp
    clear hnn
    have HVV := Lib.hid hcd
    have CI : ∀ W, Below u1.heap.size u1 W → Calls Try.prog 31 #[.slice b hs.length cp] W fun e w' => e = .returned (.int .i64 (n : Int)) ∧ Below W.heap.size W w' := fun W hW => by
      have := iCD b cp hs W (hs_below HI.out hW) n1
      rw [HVV.out] at this; exact this
    have CS : ∀ W, Below u1.heap.size u1 W → Calls Try.prog 32 #[.slice b hs.length cp] W fun e w' => e = .returned (.int .i64 (n : Int)) ∧ Below W.heap.size W w' := fun W hW => by
      have := sCD b cp hs W (hs_below HI.out hW) n1
      rw [HVV.out] at this; exact this
    have HV2 := Lib.hid hv2
    have CU : ∀ W, Below u1.heap.size u1 W → Calls Try.prog 34 #[.slice b hs.length cp] W (UnitsI W hs) := fun W hW => iUnits b cp hs W (hs_below HI.out hW) n1 HV2.out
    have HU := Lib.hid ub
    have HUS := Lib.hid us
    have HR := Lib.hid hrem
    have vf : decide ((n : Int) < 0) = false := decide_eq_false (by omega)
    have hcl : IsHs u1 b hs := HI.out
    clear hv hv2 hcd us ub hrem
    go_wp2_with fail
    refine (CI _ D).mono ?_
    rintro e u ⟨rfl, C⟩
    replace B := bel_tr B C
    replace D := bel_tr D C
    clear C
    go_wp2_with fail
    refine (CS _ D).mono ?_
    rintro e u ⟨rfl, C⟩
    replace B := bel_tr B C
    replace D := bel_tr D C
    clear C
    go_wp2_with fail
    clear CI CS
    go_loopw [5] (fun x wr => ∃ k : Nat, k ≤ hs.length ∧ x = .int .i64 k ∧ Below w.heap.size w wr ∧ Below u1.heap.size u1 wr) (fun x _ => hs.length - (intOf x).toNat)
    case atStart => exact ⟨0, Nat.zero_le _, rfl, B, D⟩
    case round =>
      clear B D
      obtain ⟨k, hk, rfl, B, D⟩ := hrel
      by_cases hlt : k < hs.length
      · rcases hcl with rfl | ⟨g, oo, rfl, hc⟩
        · simp at hlt
        obtain ⟨_, _, c2⟩ := hs_at hc D hlt
        obtain ⟨r0, d0, d1⟩ := HR.out k hlt
        generalize (hs.getD k hd0).2.2 = d at c2 r0 d0 d1
        have dn : (d == 0) = false := by simpa using (show d ≠ 0 by omega)
        have dn1 : d ≠ 0 := by omega
        clear hc CU
        go_wp2_with fail
        go_roundw
        case rel => exact ⟨k + 1, by omega, by go_num, B, D⟩
        case measure => simp [intOf]; omega
      · obtain rfl : k = hs.length := by omega
        clear hcl hlt
        go_wp2_with fail
        refine (CU _ D).mono ?_
        rintro e u ⟨g3, rfl, _, hrow, C⟩
        have hin := row_ints hrow
        replace B := bel_tr B C
        clear C hrow
        go_wp2_with fail
        have hT := ltotal _ hs.length (unR hs) u hin (by rw [un_len]; exact n1) (fun z hz => by have := HU.out z hz; omega)
        rw [un_len, HUS.out] at hT
        refine hT.mono ?_
        rintro e u' ⟨rfl, rfl⟩
        clear hT hin
        go_wp2_with fail
        go_ret
        exact ⟨rfl, B⟩

set_option maxRecDepth 100000 in
theorem lifted (os : Os) (started : os.Started) (H : Type) (enc : TypeId × Value → H) :
    ReturnsInHanded {} Try.checked os 9 .any (Rows.fnCommonDenSpec.pre6 enc Try.prog Try.f9 Rows.fnCommonDenRow.domain false) (Rows.fnCommonDenSpec.post enc Try.prog Try.f9 false true false false) := by
  refine returnsInHanded_of_change (C := Try.checked) own started (by kernel_rfl) Try.func9
    (ChangeSpec.witness6 (enc := enc) (C := Try.checked) false ⟨#[], #[.slice none 0 0], []⟩ 8 (by kernel_rfl) (by kernel_rfl) (by kernel_rfl) (by kernel_rfl)) ?_
  intro W base args ds gs before hval0 hW hcnd _
  have hval : ∀ (j : Nat) t v, Try.f9.params[j]? = some t → args[j]? = some v → Value.okWide Try.prog W .any base t v := hval0
  have hW' := hW
  obtain ⟨p, q, hA0, hV, rfl, hfz, hnd⟩ := hW
  have hA : DataW.TrodAll enc Try.prog W 0 (fun _ => true) true Try.f9.params.toList args.toList ds p := hA0
  rw [Try.params9] at hA hval
  obtain ⟨v0, vs0, e0, es0, p0, q0, hargs, rfl, rfl, h0, r0⟩ := trodAll_cons hA
  obtain ⟨rfl, rfl, rfl⟩ := trodAll_nil r0
  obtain rfl : args = #[v0] := by cases args; simp_all
  obtain ⟨rfl, rfl⟩ := trodVars_none hV
  have k0 := h0
  have lt0 : ∀ x ∈ p0, x.block < W.heap.size := by obtain ⟨m, hm⟩ := k0; exact DataW.trod_lt m _ _ _ hm
  obtain ⟨a0, len0, cap0, rfl⟩ := okWide_slice Try.underlying22 (hval 0 22 v0 rfl rfl)
  obtain ⟨z0, w0⟩ : ∃ zs, IsRow .u8 W a0 len0 cap0 zs := by
    obtain ⟨fuel, hf⟩ := h0
    rcases open_ints Try.underlying22 Try.underlying5 (by kernel_rfl) hf with ⟨hcs, _⟩ | ⟨x, l, c, zs, hcs, _, hl, hm, hz, _, hcell, hwz⟩
    · simp [Value.cells] at hcs
      obtain ⟨rfl, rfl, rfl⟩ := hcs
      exact ⟨[], .inl ⟨rfl, rfl, rfl, rfl⟩⟩
    · simp [Value.cells] at hcs
      obtain ⟨rfl, rfl, rfl⟩ := hcs
      exact ⟨zs, .inr ⟨_, rfl, hl, hm, by simpa using hz, hcell, hwz⟩⟩
  clear hA0 hval0
  refine (walk a0 len0 cap0 z0 W w0).mono fun e W' ⟨he, bel⟩ => ?_
  subst he
  exact ⟨_, rfl, _, _, _, [], _, [], hW', trodAll_mk1 (shut_bool Try.underlying4 _), (trodAll_cons_mk (Below.trod laidOut (by kernel_rfl) (of_decide_eq_true (by kernel_rfl)) k0 bel lt0) trodAll_mk0), rfl, bel.frame _, fun h => by cases h⟩

theorem over : Rows.fnCommonDenRow.holds Try.pinned (OpenSpec.ofChange Rows.fnCommonDenSpec) :=
  OpenClaim.holds_of_wide 9 Try.f9 rfl rfl rfl rfl rfl rfl rfl ⟨rfl, rfl, rfl, rfl, rfl⟩ rfl rfl rfl rfl rfl (by kernel_rfl) Try.func9 (by kernel_rfl)
    (of_decide_eq_true (by kernel_rfl)) (by unfold Func.isWrapper; first | (rw [if_pos (by decide +kernel)]; kernel_rfl) | (rw [if_neg (by decide +kernel)]; exact ⟨rfl, rfl⟩))
    (fun os started H enc _ => lifted os started H enc)

end Go.Proofs.Ytppnhhnilnikfaa.fnCommonDen
namespace Go.Proofs.Ytppnhhnilnikfaa
/-- the statement -/
theorem fnCommonDen_holds : Rows.FnCommonDenSaid := fnCommonDen.over
end Go.Proofs.Ytppnhhnilnikfaa
