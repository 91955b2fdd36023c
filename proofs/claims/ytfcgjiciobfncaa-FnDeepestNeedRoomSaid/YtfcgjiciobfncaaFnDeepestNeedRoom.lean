/- For every input the law answers true, and its argument reads afterwards as before: two ways to the least room agree. No condition. -/
import Derived.Test.YtfcgjiciobfncaaRows
import Derived.Test.YtfcgjiciobfncaaDrawBb
import Derived.Test.YtfcgjiciobfncaaEqI
import Derived.Test.YtfcgjiciobfncaaRunV
import Derived.Test.YtfcgjiciobfncaaRunX
import Derived.Test.YtfcgjiciobfncaaBasQ
import Derived.WalkKit
import Derived.Deep.RegionHeld3
import Derived.Deep.DeepCutAuto
import Derived.Deep.QuietTactic
import Derived.BigQuiet
import Derived.ProofKit
import Derived.OpenShut
import Derived.ShutString
import Derived.ChangeOld
import Derived.Below
import Derived.Lib.SmallJoins
namespace Go.Proofs.Ytfcgjiciobfncaa.fnDeepestNeedRoom
open Go.ChangeShapes Go.WideShapes Go.ChangeAt Go.RowKit Go.Joins
open Go.ChangeMaps (open_string shut_string)
set_option linter.unusedVariables false
set_option linter.unusedSimpArgs false

theorem own : ownKnob Try.prog.godebug = none := by kernel_rfl
theorem laidOut : laidOutB Try.prog = true := by kernel_rfl

set_option maxRecDepth 100000 in
set_option maxHeartbeats 8000000 in
theorem walk (a0 : Option Addr) (len0 cap0 : Nat) (z0 : List Int) (w : World) (w0 : IsRow .u8 w a0 len0 cap0 z0) :
    Calls Try.prog 12 #[.slice a0 len0 cap0] w fun e w' => e = .returned (.bool true) ∧ Below w.heap.size w w' := by
  by_cases big : (1048576 : Int) < (len0 : Int)
  · go_enter Try.func12, Try.ntmps12
    go_wp2
    go_ret
    exact ⟨rfl, Below.refl _ _⟩
  go_enter Try.func12, Try.ntmps12
  go_wp2_with fail
  refine (drawDay a0 len0 cap0 z0 _ w0).mono ?_
  rintro e u1 ⟨b1, c1, cs, b2, c2, ws, rfl, ⟨lc, hcs, I1, p1⟩, ⟨lw, hws, I2, p2⟩, B⟩
  clear w0 big
  have nc : cs.length ≤ 1048576 := by omega
  have nw : ws.length ≤ 1048576 := by omega
  have CI : Hid (∀ (W : World), IsInts W b1 cs → IsInts W b2 ws → Calls Try.prog 41 #[.slice b1 cs.length c1, .slice b2 ws.length c2] W fun e w' => e = .returned (.int .i64 (deepV cs ws)) ∧ Below W.heap.size W w') := fun W h1 h2 => iDeep b1 b2 c1 c2 cs ws W h1 h2 nc nw
  have CS : Hid (∀ (W : World), IsInts W b1 cs → IsInts W b2 ws → Calls Try.prog 43 #[.slice b1 cs.length c1, .slice b2 ws.length c2] W fun e w' => e = .returned (.int .i64 (deepV cs ws)) ∧ Below W.heap.size W w') := fun W h1 h2 => sDeep b1 b2 c1 c2 cs ws W h1 h2 nc nw
  have LI : Hid (∀ (x : Int) (W : World), IsInts W b1 cs → IsInts W b2 ws → Calls Try.prog 39 #[.int .i64 x, .slice b1 cs.length c1, .slice b2 ws.length c2] W fun e w' => e = .returned (.int .i64 (lheldV x cs ws)) ∧ Below W.heap.size W w') := fun x W h1 h2 => iLheld x b1 b2 c1 c2 cs ws W h1 h2 nc nw
  clear hcs hws
  have C1 := fun W h1 h2 => CI.out W h1 h2
  have C2 := fun W h1 h2 => CS.out W h1 h2
  clear CI CS
  cases hd : vdB cs ws with
  | false =>
    rw [deep_no hd] at C1 C2
    have HC1 := Lib.hid C1
    have HC2 := Lib.hid C2
    clear C1 C2 LI hd
    go_wp2_with fail
    refine (HC1.out _ I1 I2).mono ?_
    rintro e u2_ ⟨rfl, C⟩
    replace B := bel_tr B C
    replace I1 := ints_below I1 C
    replace I2 := ints_below I2 C
    clear C
    go_wp2_with fail
    refine (HC2.out _ I1 I2).mono ?_
    rintro e u3_ ⟨rfl, C⟩
    replace B := bel_tr B C
    replace I1 := ints_below I1 C
    replace I2 := ints_below I2 C
    clear C
    go_wp2_with fail
    refine (HC2.out _ I1 I2).mono ?_
    rintro e u4_ ⟨rfl, C⟩
    replace B := bel_tr B C
    replace I1 := ints_below I1 C
    replace I2 := ints_below I2 C
    clear C
    go_wp2_with fail
    go_ret
    exact ⟨rfl, B⟩
  | true =>
  rw [deep_yes hd] at C1 C2
  have dg := deep_ge (hrs cs ws) 0
  by_cases hs : deepB 0 (hrs cs ws) < 1
  · have e0 : decide (deepB 0 (hrs cs ws) < 1) = true := decide_eq_true hs
    generalize deepB 0 (hrs cs ws) = v at *
    have HC1 := Lib.hid C1
    have HC2 := Lib.hid C2
    clear C1 C2 LI hd hs
    go_wp2_with fail
    refine (HC1.out _ I1 I2).mono ?_
    rintro e u2_ ⟨rfl, C⟩
    replace B := bel_tr B C
    replace I1 := ints_below I1 C
    replace I2 := ints_below I2 C
    clear C
    go_wp2_with fail
    refine (HC2.out _ I1 I2).mono ?_
    rintro e u3_ ⟨rfl, C⟩
    replace B := bel_tr B C
    replace I1 := ints_below I1 C
    replace I2 := ints_below I2 C
    clear C
    go_wp2_with fail
    refine (HC2.out _ I1 I2).mono ?_
    rintro e u4_ ⟨rfl, C⟩
    replace B := bel_tr B C
    replace I1 := ints_below I1 C
    replace I2 := ints_below I2 C
    clear C
    go_wp2_with fail
    go_ret
    exact ⟨rfl, B⟩
  have e0 : decide (deepB 0 (hrs cs ws) < 1) = false := decide_eq_false hs
  by_cases hb : 20000 < deepB 0 (hrs cs ws)
  · have e1 : decide (20000 < deepB 0 (hrs cs ws)) = true := decide_eq_true hb
    generalize deepB 0 (hrs cs ws) = v at *
    have HC1 := Lib.hid C1
    have HC2 := Lib.hid C2
    clear C1 C2 LI hd hb
    go_wp2_with fail
    refine (HC1.out _ I1 I2).mono ?_
    rintro e u2_ ⟨rfl, C⟩
    replace B := bel_tr B C
    replace I1 := ints_below I1 C
    replace I2 := ints_below I2 C
    clear C
    go_wp2_with fail
    refine (HC2.out _ I1 I2).mono ?_
    rintro e u3_ ⟨rfl, C⟩
    replace B := bel_tr B C
    replace I1 := ints_below I1 C
    replace I2 := ints_below I2 C
    clear C
    go_wp2_with fail
    refine (HC2.out _ I1 I2).mono ?_
    rintro e u4_ ⟨rfl, C⟩
    replace B := bel_tr B C
    replace I1 := ints_below I1 C
    replace I2 := ints_below I2 C
    clear C
    go_wp2_with fail
    go_ret
    exact ⟨rfl, B⟩
  have e1 : decide (20000 < deepB 0 (hrs cs ws)) = false := decide_eq_false hb
  obtain ⟨q1, q2⟩ := deep_room hd (by omega) (by omega)
  have L1 := fun W h1 h2 => LI.out (deepB 0 (hrs cs ws)) W h1 h2
  have L2 := fun W h1 h2 => LI.out (deepB 0 (hrs cs ws) - 1) W h1 h2
  rw [q2] at L2
  generalize deepB 0 (hrs cs ws) = v at *
  generalize lheldV v cs ws = t at *
  have g1 : decide (0 ≤ t) = true := decide_eq_true q1
  have wz : IntKind.i64.wrap (v - 1) = v - 1 := by rw [IntKind.wrap_i64]; omega
  have HC1 := Lib.hid C1
  have HC2 := Lib.hid C2
  have HL1 := Lib.hid L1
  have HL2 := Lib.hid L2
  clear C1 C2 L1 L2 LI hd hb hs q2
  go_wp2_with fail
  refine (HC1.out _ I1 I2).mono ?_
  rintro e u2_ ⟨rfl, C⟩
  replace B := bel_tr B C
  replace I1 := ints_below I1 C
  replace I2 := ints_below I2 C
  clear C
  go_wp2_with fail
  refine (HC2.out _ I1 I2).mono ?_
  rintro e u3_ ⟨rfl, C⟩
  replace B := bel_tr B C
  replace I1 := ints_below I1 C
  replace I2 := ints_below I2 C
  clear C
  go_wp2_with fail
  refine (HL1.out _ I1 I2).mono ?_
  rintro e u4_ ⟨rfl, C⟩
  replace B := bel_tr B C
  replace I1 := ints_below I1 C
  replace I2 := ints_below I2 C
  clear C
  go_wp2_with fail
  refine (HL2.out _ I1 I2).mono ?_
  rintro e u5_ ⟨rfl, C⟩
  replace B := bel_tr B C
  replace I1 := ints_below I1 C
  replace I2 := ints_below I2 C
  clear C
  go_wp2_with fail
  go_ret
  exact ⟨rfl, B⟩

set_option maxRecDepth 100000 in
theorem lifted (os : Os) (started : os.Started) (H : Type) (enc : TypeId × Value → H) :
    ReturnsInHanded {} Try.checked os 12 .any (Rows.fnDeepestNeedRoomSpec.pre6 enc Try.prog Try.f12 Rows.fnDeepestNeedRoomRow.domain false) (Rows.fnDeepestNeedRoomSpec.post enc Try.prog Try.f12 false true false false) := by
  refine returnsInHanded_of_change (C := Try.checked) own started (by kernel_rfl) Try.func12
    (ChangeSpec.witness6 (enc := enc) (C := Try.checked) false ⟨#[], #[.slice none 0 0], []⟩ 8 (by kernel_rfl) (by kernel_rfl) (by kernel_rfl) (by kernel_rfl)) ?_
  intro W base args ds gs before hval0 hW hcnd _
  have hval : ∀ (j : Nat) t v, Try.f12.params[j]? = some t → args[j]? = some v → Value.okWide Try.prog W .any base t v := hval0
  have hW' := hW
  obtain ⟨p, q, hA0, hV, rfl, hfz, hnd⟩ := hW
  have hA : DataW.TrodAll enc Try.prog W 0 (fun _ => true) true Try.f12.params.toList args.toList ds p := hA0
  rw [Try.params12] at hA hval
  obtain ⟨v0, vs0, e0, es0, p0, q0, hargs, rfl, rfl, h0, r0⟩ := trodAll_cons hA
  obtain ⟨rfl, rfl, rfl⟩ := trodAll_nil r0
  obtain rfl : args = #[v0] := by cases args; simp_all
  obtain ⟨rfl, rfl⟩ := trodVars_none hV
  have k0 := h0
  have lt0 : ∀ x ∈ p0, x.block < W.heap.size := by obtain ⟨m, hm⟩ := k0; exact DataW.trod_lt m _ _ _ hm
  obtain ⟨a0, len0, cap0, rfl⟩ := okWide_slice Try.underlying22 (hval 0 22 v0 rfl rfl)
  obtain ⟨z0, w0⟩ : ∃ zs, IsRow .u8 W a0 len0 cap0 zs := by
    obtain ⟨fuel, hf⟩ := h0
    rcases open_ints Try.underlying22 Try.underlying5 (by kernel_rfl) hf with ⟨hcs, _⟩ | ⟨x, l, c, zs, hcs, _, hl, hm, hz, _, hcell, hwz⟩
    · simp [Value.cells] at hcs
      obtain ⟨rfl, rfl, rfl⟩ := hcs
      exact ⟨[], .inl ⟨rfl, rfl, rfl, rfl⟩⟩
    · simp [Value.cells] at hcs
      obtain ⟨rfl, rfl, rfl⟩ := hcs
      exact ⟨zs, .inr ⟨_, rfl, hl, hm, by simpa using hz, hcell, hwz⟩⟩
  clear hA0 hval0
  refine (walk a0 len0 cap0 z0 W w0).mono fun e W' ⟨he, bel⟩ => ?_
  subst he
  exact ⟨_, rfl, _, _, _, [], _, [], hW', trodAll_mk1 (shut_bool Try.underlying4 _), (trodAll_cons_mk (Below.trod laidOut (by kernel_rfl) (of_decide_eq_true (by kernel_rfl)) k0 bel lt0) trodAll_mk0), rfl, bel.frame _, fun h => by cases h⟩

theorem over : Rows.fnDeepestNeedRoomRow.holds Try.pinned (OpenSpec.ofChange Rows.fnDeepestNeedRoomSpec) :=
  OpenClaim.holds_of_wide 12 Try.f12 rfl rfl rfl rfl rfl rfl rfl ⟨rfl, rfl, rfl, rfl, rfl⟩ rfl rfl rfl rfl rfl (by kernel_rfl) Try.func12 (by kernel_rfl)
    (of_decide_eq_true (by kernel_rfl)) (by unfold Func.isWrapper; first | (rw [if_pos (by decide +kernel)]; kernel_rfl) | (rw [if_neg (by decide +kernel)]; exact ⟨rfl, rfl⟩))
    (fun os started H enc _ => lifted os started H enc)

end Go.Proofs.Ytfcgjiciobfncaa.fnDeepestNeedRoom
namespace Go.Proofs.Ytfcgjiciobfncaa
/-- the statement -/
theorem fnDeepestNeedRoom_holds : Rows.FnDeepestNeedRoomSaid := fnDeepestNeedRoom.over
end Go.Proofs.Ytfcgjiciobfncaa
