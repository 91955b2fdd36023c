/- For every input the law answers true, and its argument read afterwards as before: impl.ParseEvent answers as its model. No condition. -/
import Derived.Test.YthagafkjlecagaaRows
import Derived.Test.YthagafkjlecagaaGrJ
import Derived.Test.YthagafkjlecagaaGrE
import Derived.Test.YthagafkjlecagaaGrD
import Derived.WalkKit
import Derived.Deep.RegionHeld3
import Derived.Deep.RegionWith
import Derived.Deep.QuietTactic
import Derived.BigQuiet
import Derived.RegionTactic
import Derived.BigRegion
import Derived.ProofKit
import Derived.OpenShut
import Derived.ShutString
import Derived.ChangeOld
import Derived.Below
import Derived.Lib.SmallJoins
namespace Go.Proofs.Ythagafkjlecagaa.fnExactParseEvent
open Go.ChangeShapes Go.WideShapes Go.ChangeAt Go.RowKit Go.Joins
open Go.ChangeMaps (open_string shut_string)
set_option linter.unusedVariables false
set_option linter.unusedSimpArgs false

theorem own : ownKnob Try.prog.godebug = none := by kernel_rfl
theorem laidOut : laidOutB Try.prog = true := by kernel_rfl

set_option maxRecDepth 100000 in
set_option maxHeartbeats 8000000 in
theorem walk (s0 : ByteArray) (w : World) (w0 : s0.size ≤ maxLen) :
    Calls Try.prog 5 #[.string s0] w fun e w' => e = .returned (.bool true) ∧ Below w.heap.size w w' := by
  by_cases big : (1048576 : Int) < (s0.size : Int)
  · go_enter Try.func5, Try.ntmps5
    go_wp2
    go_ret
    exact ⟨rfl, Below.refl _ _⟩
  have n1 : s0.size ≤ 1048576 := by omega
  have B := Below.refl w.heap.size w
  have CS := Lib.hid (fun W => sParE s0 W n1)
  have CI := Lib.hid (fun W => iParE s0 W n1)
  obtain ⟨r, hr⟩ : ∃ r, parM s0 = r := ⟨_, rfl⟩
  rw [hr] at CS CI
  clear hr
  obtain ⟨x, hx⟩ : ∃ x, x = r.getD ev0 := ⟨_, rfl⟩
  obtain ⟨ok, hok⟩ : ∃ ok, r.isSome = ok := ⟨_, rfl⟩
  have HX := Lib.hid hx
  have HOK := Lib.hid hok
  obtain ⟨k, ⟨dk, o, t, n, d, zs⟩, at_, nu⟩ := x
  clear hx hok
  go_enter Try.func5, Try.ntmps5
  go_wp2_with fail
  refine (CS.out _).mono ?_
  rintro e u1 ⟨A1, c1, x1, hx1, rfl, I1, _, _, hxl, C⟩
  obtain rfl := hx1.trans HX.out.symm
  rw [HOK.out]
  dsimp only at I1 hxl
  replace B := bel_tr B C
  clear C hx1
  obtain ⟨u2, hu2⟩ : ∃ y, y = u1.alloc (.cells #[.int .i64 k, .int .i64 dk, .int .i64 o, .int .i64 t, .int .i64 n, .int .i64 d, .slice A1 zs.length c1, .int .i64 at_, .int .i64 nu] 35) := ⟨_, rfl⟩
  replace I1 : IsInts u2 A1 zs := by subst hu2; exact ints_below I1 ((Below.refl _ _).alloc (Nat.le_refl _) _)
  have Kw : Blk u2 u1.heap.size 35 #[.int .i64 k, .int .i64 dk, .int .i64 o, .int .i64 t, .int .i64 n, .int .i64 d, .slice A1 zs.length c1, .int .i64 at_, .int .i64 nu] := by subst hu2; exact Blk.new u1 35 _
  replace B : Below w.heap.size w u2 := by subst hu2; exact B.alloc B.size _
  have HU2 := Lib.hid hu2
  have D := Below.refl u2.heap.size u2
  have hwU := B.size
  have Kw0 := Kw
  have ltw := Kw.lt
  clear hu2
  go_wp2_with (first | (show wpList _ _ _ ({ dst := some _, op := _, type := _, pos := _, after := _, guard := _ } :: _) _ (World.alloc _ _); rw [← HU2.out]))
  refine (CI.out _).mono ?_
  rintro e u3 ⟨v, x1, hx1, rfl, O, C⟩
  obtain rfl := hx1.trans HX.out.symm
  rw [HOK.out]
  dsimp only at O
  replace B := bel_tr B C
  replace D := bel_tr D C
  have hs3 := C.size
  clear C hx1
  obtain ⟨b, c, rfl, _⟩ := O.ints
  have ltO : ∀ q, (Value.slice b zs.length c).ownBlock = some q → q < u3.heap.size := fun q hq => (World.ownsRow.lt O q hq).2
  obtain ⟨u4, hu4⟩ : ∃ y, y = u3.alloc (.cells #[.int .i64 k, .int .i64 dk, .int .i64 o, .int .i64 t, .int .i64 n, .int .i64 d, .slice b zs.length c, .int .i64 at_, .int .i64 nu] 35) := ⟨_, rfl⟩
  replace O : OwnI u4 u2.heap.size (.slice b zs.length c) zs := by subst hu4; exact O.of_block ((Below.refl _ _).alloc (Nat.le_refl _) _)
  have Kg : Blk u4 u3.heap.size 35 #[.int .i64 k, .int .i64 dk, .int .i64 o, .int .i64 t, .int .i64 n, .int .i64 d, .slice b zs.length c, .int .i64 at_, .int .i64 nu] := by subst hu4; exact Blk.new u3 35 _
  replace B : Below w.heap.size w u4 := by subst hu4; exact B.alloc B.size _
  replace D : Below u2.heap.size u2 u4 := by subst hu4; exact D.alloc hs3 _
  have HU4 := Lib.hid hu4
  replace Kw := Kw0.below D ltw
  have HLT := Lib.hid ltO
  clear hu4 ltO
  obtain ⟨q0, q1, q2, q3, q4, q5, q6, q7, q8⟩ := cells9 Kw
  obtain ⟨r0, r1, r2, r3, r4, r5, r6, r7, r8⟩ := cells9 Kg
  have I2 : IsInts u4 b zs := O.at_
  have CE1 := leqEv b A1 c c1 ⟨k, ⟨dk, o, t, n, d, zs⟩, at_, nu⟩ u4 I2 (ints_below I1 D) hxl
  dsimp only at CE1
  go_wp2_with (first | (show wpList _ _ _ ({ dst := some _, op := _, type := _, pos := _, after := _, guard := _ } :: _) _ (World.alloc _ _); rw [← HU4.out]))
  refine CE1.mono ?_
  rintro e u5 ⟨rfl, C⟩
  clear q0 q1 q2 q3 q4 q5 q6 q7 q8 r0 r1 r2 r3 r4 r5 r6 r7 r8 CE1 I2 Kw
  replace Kg := Kg.next C
  replace O := O.of_block C
  replace B := bel_tr B C
  replace D := bel_tr D C
  clear C
  obtain ⟨r0, r1, r2, r3, r4, r5, r6, r7, r8⟩ := cells9 Kg
  have bb : (ok != ok) = false := by simp
  have CM := mkEvO b c u2.heap.size k dk o t n d at_ nu zs u5 O hxl
  go_wp2_with fail
  refine CM.mono ?_
  rintro e u6 ⟨rfl, M, G⟩
  clear r0 r1 r2 r3 r4 r5 r6 r7 r8 CM
  have hne : some u3.heap.size ≠ (Value.slice b zs.length c).ownBlock := fun e => Nat.lt_irrefl _ (HLT.out _ e.symm)
  have hge := fun q (hq : (Value.slice b zs.length c).ownBlock = some q) => O.grow q hq
  replace Kg := Kg.grown G hne
  replace D := below_gv D G hge
  replace B := below_gv B G (fun q hq => Nat.le_trans hwU (hge q hq))
  clear G hne hge O
  obtain ⟨r0, r1, r2, r3, r4, r5, r6, r7, r8⟩ := cells9 Kg
  have CH := hkEvO b c zs.length u2.heap.size k dk o t n d at_ nu u6 M hxl
  have e1 : decide (1 + (zs.length : Int) < 0) = false := decide_eq_false (by omega)
  have e2 : ¬ 1 + (zs.length : Int) < 0 := by omega
  have e3 : ((1 : Int) + (zs.length : Int) != 1 + (zs.length : Int)) = false := by simp
  go_wp2_with fail
  refine CH.mono ?_
  rintro e u7 ⟨rfl, C⟩
  clear r0 r1 r2 r3 r4 r5 r6 r7 r8 CH
  replace Kg := Kg.next C
  replace M := M.of_block C
  replace D := bel_tr D C
  replace B := bel_tr B C
  clear C
  go_wp2_with fail
  refine (CI.out _).mono ?_
  rintro e u8 ⟨v2, x1, hx1, rfl, O, C⟩
  obtain rfl := hx1.trans HX.out.symm
  rw [HOK.out]
  dsimp only at O
  replace Kg := Kg.next C
  replace M := M.of_block C
  replace D := bel_tr D C
  replace B := bel_tr B C
  clear C hx1
  obtain ⟨b2, cc2, rfl, I2⟩ := O.ints
  obtain ⟨u9, hu9⟩ : ∃ y, y = u8.alloc (.cells #[.int .i64 k, .int .i64 dk, .int .i64 o, .int .i64 t, .int .i64 n, .int .i64 d, .slice b2 zs.length cc2, .int .i64 at_, .int .i64 nu] 35) := ⟨_, rfl⟩
  have Kh : Blk u9 u8.heap.size 35 #[.int .i64 k, .int .i64 dk, .int .i64 o, .int .i64 t, .int .i64 n, .int .i64 d, .slice b2 zs.length cc2, .int .i64 at_, .int .i64 nu] := by subst hu9; exact Blk.new u8 35 _
  replace I2 : IsInts u9 b2 zs := by subst hu9; exact ints_below I2 ((Below.refl _ _).alloc (Nat.le_refl _) _)
  replace Kg : Blk u9 u3.heap.size 35 #[.int .i64 k, .int .i64 dk, .int .i64 o, .int .i64 t, .int .i64 n, .int .i64 d, .slice b zs.length c, .int .i64 at_, .int .i64 nu] := by subst hu9; exact Kg.alloc _
  replace M : OwnI u9 u2.heap.size (.slice b zs.length c) (marksF zs.length) := by subst hu9; exact M.of_block ((Below.refl _ _).alloc (Nat.le_refl _) _)
  replace D : Below u2.heap.size u2 u9 := by subst hu9; exact D.alloc D.size _
  replace B : Below w.heap.size w u9 := by subst hu9; exact B.alloc B.size _
  have HU9 := Lib.hid hu9
  clear hu9 O
  replace Kw := Kw0.below D ltw
  obtain ⟨q0, q1, q2, q3, q4, q5, q6, q7, q8⟩ := cells9 Kw
  obtain ⟨r0, r1, r2, r3, r4, r5, r6, r7, r8⟩ := cells9 Kh
  have CE2 := leqEv b2 A1 cc2 c1 ⟨k, ⟨dk, o, t, n, d, zs⟩, at_, nu⟩ u9 I2 (ints_below I1 D) hxl
  dsimp only at CE2
  go_wp2_with (first | (show wpList _ _ _ ({ dst := some _, op := _, type := _, pos := _, after := _, guard := _ } :: _) _ (World.alloc _ _); rw [← HU9.out]))
  refine CE2.mono ?_
  rintro e u10 ⟨rfl, C⟩
  clear q0 q1 q2 q3 q4 q5 q6 q7 q8 r0 r1 r2 r3 r4 r5 r6 r7 r8 CE2 I2 Kw Kh
  replace Kg := Kg.next C
  replace M := M.of_block C
  replace B := bel_tr B C
  clear C D
  obtain ⟨r0, r1, r2, r3, r4, r5, r6, r7, r8⟩ := cells9 Kg
  have CH := hkEvO b c zs.length u2.heap.size k dk o t n d at_ nu u10 M hxl
  go_wp2_with fail
  refine CH.mono ?_
  rintro e u11 ⟨rfl, C⟩
  clear r0 r1 r2 r3 r4 r5 r6 r7 r8 CH
  replace B := bel_tr B C
  clear C M Kg
  go_wp2_with fail
  go_ret
  exact ⟨rfl, B⟩

set_option maxRecDepth 100000 in
theorem lifted (os : Os) (started : os.Started) (H : Type) (enc : TypeId × Value → H) :
    ReturnsInHanded {} Try.checked os 5 .any (Rows.fnExactParseEventSpec.pre6 enc Try.prog Try.f5 Rows.fnExactParseEventRow.domain false) (Rows.fnExactParseEventSpec.post enc Try.prog Try.f5 false true false false) := by
  refine returnsInHanded_of_change (C := Try.checked) own started (by kernel_rfl) Try.func5
    (ChangeSpec.witness6 (enc := enc) (C := Try.checked) false ⟨#[], #[.string ByteArray.empty], []⟩ 8 (by kernel_rfl) (by kernel_rfl) (by kernel_rfl) (by kernel_rfl)) ?_
  intro W base args ds gs before hval0 hW hcnd _
  have hval : ∀ (j : Nat) t v, Try.f5.params[j]? = some t → args[j]? = some v → Value.okWide Try.prog W .any base t v := hval0
  have hW' := hW
  obtain ⟨p, q, hA0, hV, rfl, hfz, hnd⟩ := hW
  have hA : DataW.TrodAll enc Try.prog W 0 (fun _ => true) true Try.f5.params.toList args.toList ds p := hA0
  rw [Try.params5] at hA hval
  obtain ⟨v0, vs0, e0, es0, p0, q0, hargs, rfl, rfl, h0, r0⟩ := trodAll_cons hA
  obtain ⟨rfl, rfl, rfl⟩ := trodAll_nil r0
  obtain rfl : args = #[v0] := by cases args; simp_all
  obtain ⟨rfl, rfl⟩ := trodVars_none hV
  have k0 := h0
  have lt0 : ∀ x ∈ p0, x.block < W.heap.size := by obtain ⟨m, hm⟩ := k0; exact DataW.trod_lt m _ _ _ hm
  obtain ⟨s0, rfl, _, _, w0⟩ := open_string Try.underlying9 (hval 0 9 v0 rfl rfl) h0
  clear hA0 hval0
  refine (walk s0 W w0).mono fun e W' ⟨he, bel⟩ => ?_
  subst he
  exact ⟨_, rfl, _, _, _, [], _, [], hW', trodAll_mk1 (shut_bool Try.underlying4 _), (trodAll_cons_mk (Below.trod laidOut (by kernel_rfl) (of_decide_eq_true (by kernel_rfl)) k0 bel lt0) trodAll_mk0), rfl, bel.frame _, fun h => by cases h⟩

theorem over : Rows.fnExactParseEventRow.holds Try.pinned (OpenSpec.ofChange Rows.fnExactParseEventSpec) :=
  OpenClaim.holds_of_wide 5 Try.f5 rfl rfl rfl rfl rfl rfl rfl ⟨rfl, rfl, rfl, rfl, rfl⟩ rfl rfl rfl rfl rfl (by kernel_rfl) Try.func5 (by kernel_rfl)
    (of_decide_eq_true (by kernel_rfl)) (by unfold Func.isWrapper; first | (rw [if_pos (by decide +kernel)]; kernel_rfl) | (rw [if_neg (by decide +kernel)]; exact ⟨rfl, rfl⟩))
    (fun os started H enc _ => lifted os started H enc)

end Go.Proofs.Ythagafkjlecagaa.fnExactParseEvent
namespace Go.Proofs.Ythagafkjlecagaa
/-- the statement -/
theorem fnExactParseEvent_holds : Rows.FnExactParseEventSaid := fnExactParseEvent.over
end Go.Proofs.Ythagafkjlecagaa
