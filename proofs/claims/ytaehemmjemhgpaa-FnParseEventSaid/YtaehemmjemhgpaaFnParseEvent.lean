/- For every input the law answers true, and its argument reads afterwards as before: events are written back. No condition. -/
import Derived.Test.YtaehemmjemhgpaaRows
import Derived.Test.YtaehemmjemhgpaaPCDrawTg
import Derived.Test.YtaehemmjemhgpaaPCG4
import Derived.Test.YtaehemmjemhgpaaPCEvF
import Derived.Test.YtaehemmjemhgpaaPCG2
import Derived.WalkKit
import Derived.ProofKit
import Derived.OpenShut
import Derived.ShutString
import Derived.ChangeOld
import Derived.Below
import Derived.Lib.SmallJoins
set_option maxRecDepth 100000
set_option maxHeartbeats 16000000
namespace Go.Proofs.Ytaehemmjemhgpaa.fnParseEvent
open Go.ChangeShapes Go.WideShapes Go.ChangeAt Go.RowKit Go.Joins
open Go.ChangeMaps (open_string shut_string)
set_option linter.unusedVariables false
set_option linter.unusedSimpArgs false

theorem own : ownKnob Try.prog.godebug = none := by kernel_rfl
theorem laidOut : laidOutB Try.prog = true := by kernel_rfl

theorem walk (a0 : Option Addr) (len0 cap0 : Nat) (z0 : List Int) (w : World) (w0 : IsRow .u8 w a0 len0 cap0 z0) :
    Calls Try.prog 9 #[.slice a0 len0 cap0] w fun e w' => e = .returned (.bool true) ∧ Below w.heap.size w w' := by
  by_cases big : (1048576 : Int) < (len0 : Int)
  · go_enter Try.func9, Try.ntmps9
    go_wp2
    go_ret; exact ⟨rfl, Below.refl _ _⟩
  go_enter Try.func9, Try.ntmps9; go_wp2_with fail; refine (drawPE a0 len0 cap0 z0 _ w0).mono ?_; rintro e u1 ⟨s, rfl, hs, B⟩; clear w0 big; have CI := Lib.hid (fun W => iParE s W (by omega)); have CS := Lib.hid (fun W => sParE s W (by omega))
  have HP : Hid (∀ x, parM s = some x → fmE x = s) := fun x h => (par_is h).2.1
  obtain ⟨r, hr⟩ : ∃ r, parM s = r := ⟨_, rfl⟩
  rw [hr] at CI CS HP; clear hr hs
  have hss : (s.toList == s.toList) = true := by simp
  go_wp2_with fail; refine (CI.out _).mono ?_; rintro e u2 ⟨v, x, hx, rfl, O, C⟩; have HX := Lib.hid hx; obtain ⟨b1, c1, rfl, I1⟩ := OwnI.ints O; replace B := jq2 B C; clear C O CI hx
  obtain ⟨U2, hU2⟩ : ∃ Y_, Y_ = u2.alloc (.cells #[.int .i64 x.k, .int .i64 x.dd.k, .int .i64 x.dd.o, .int .i64 x.dd.t, .int .i64 x.dd.n, .int .i64 x.dd.d, (.slice b1 x.dd.zs.length c1), .int .i64 x.at_, .int .i64 x.nu] 63) := ⟨_, rfl⟩
  have D4 : Below u2.heap.size u2 U2 := by subst hU2; exact (Below.refl _ _).alloc (Nat.le_refl _) _
  have K4 : Blk U2 u2.heap.size 63 #[.int .i64 x.k, .int .i64 x.dd.k, .int .i64 x.dd.o, .int .i64 x.dd.t, .int .i64 x.dd.n, .int .i64 x.dd.d, (.slice b1 x.dd.zs.length c1), .int .i64 x.at_, .int .i64 x.nu] := by subst hU2; exact Blk.new _ _ _
  replace B := jq2 B D4; replace I1 := jq9 I1 D4; have HU2 := Lib.hid hU2; clear hU2 D4
  go_wp2_with (first | (show wpList _ _ _ ({ dst := some _, op := _, type := _, pos := _, after := _, guard := _ } :: _) _ (World.alloc _ _); rw [← HU2.out]))
  refine (CS.out _).mono ?_; rintro e u3 ⟨b2, c2, x2, hx2, rfl, I2, _, _, hn2, C⟩; obtain rfl : x2 = x := hx2.trans HX.out.symm; replace B := jq2 B C; replace K4 := K4.next C; replace I1 := jq9 I1 C; clear C CS hx2 HU2; have lK := K4.lt
  obtain ⟨U3, hU3⟩ : ∃ Y_, Y_ = u3.alloc (.cells #[.int .i64 x2.k, .int .i64 x2.dd.k, .int .i64 x2.dd.o, .int .i64 x2.dd.t, .int .i64 x2.dd.n, .int .i64 x2.dd.d, (.slice b2 x2.dd.zs.length c2), .int .i64 x2.at_, .int .i64 x2.nu] 63) := ⟨_, rfl⟩
  have D4 : Below u3.heap.size u3 U3 := by subst hU3; exact (Below.refl _ _).alloc (Nat.le_refl _) _
  have K6 : Blk U3 u3.heap.size 63 #[.int .i64 x2.k, .int .i64 x2.dd.k, .int .i64 x2.dd.o, .int .i64 x2.dd.t, .int .i64 x2.dd.n, .int .i64 x2.dd.d, (.slice b2 x2.dd.zs.length c2), .int .i64 x2.at_, .int .i64 x2.nu] := by subst hU3; exact Blk.new _ _ _
  replace B := jq2 B D4; replace K4 := K4.next D4; replace I1 := jq9 I1 D4; replace I2 := jq9 I2 D4; have HU3 := Lib.hid hU3; clear hU3 D4; obtain ⟨f0_, f1_, f2_, f3_, f4_, f5_, f6_, f7_, f8_⟩ := jq4 K4; obtain ⟨g0_, g1_, g2_, g3_, g4_, g5_, g6_, g7_, g8_⟩ := jq4 K6
  cases r with
  | none =>
    have e0 : (none : Option Ev).isSome = false := rfl; clear HX HP
    go_wp2_with (first | (show wpList _ _ _ ({ dst := some _, op := _, type := _, pos := _, after := _, guard := _ } :: _) _ (World.alloc _ _); rw [← HU3.out]))
    refine (eqEvL b1 b2 c1 c2 x2 _ I1 I2 hn2).mono ?_; rintro e u4 ⟨rfl, C⟩; replace B := jq2 B C; replace K4 := K4.next C; replace K6 := K6.next C; replace I1 := jq9 I1 C; replace I2 := jq9 I2 C; clear C; clear f0_ f1_ f2_ f3_ f4_ f5_ f6_ f7_ f8_; clear g0_ g1_ g2_ g3_ g4_ g5_ g6_ g7_ g8_; obtain ⟨f0_, f1_, f2_, f3_, f4_, f5_, f6_, f7_, f8_⟩ := jq4 K4; obtain ⟨g0_, g1_, g2_, g3_, g4_, g5_, g6_, g7_, g8_⟩ := jq4 K6; go_wp2_with fail; refine (eqEvL b1 b2 c1 c2 x2 _ I1 I2 hn2).mono ?_; rintro e u5 ⟨rfl, C⟩; replace B := jq2 B C; replace K4 := K4.next C; replace K6 := K6.next C; replace I1 := jq9 I1 C; replace I2 := jq9 I2 C; clear C; clear f0_ f1_ f2_ f3_ f4_ f5_ f6_ f7_ f8_; clear g0_ g1_ g2_ g3_ g4_ g5_ g6_ g7_ g8_; obtain ⟨f0_, f1_, f2_, f3_, f4_, f5_, f6_, f7_, f8_⟩ := jq4 K4; obtain ⟨g0_, g1_, g2_, g3_, g4_, g5_, g6_, g7_, g8_⟩ := jq4 K6; go_wp2_with fail; go_ret; exact ⟨rfl, B⟩
  | some x3 =>
    obtain rfl : x2 = x3 := HX.out; have e0 : (some x2).isSome = true := rfl; have HF := Lib.hid (HP.out x2 rfl); clear HX HP
    go_wp2_with (first | (show wpList _ _ _ ({ dst := some _, op := _, type := _, pos := _, after := _, guard := _ } :: _) _ (World.alloc _ _); rw [← HU3.out]))
    refine (eqEvL b1 b2 c1 c2 x2 _ I1 I2 hn2).mono ?_; rintro e u4 ⟨rfl, C⟩; replace B := jq2 B C; replace K4 := K4.next C; replace K6 := K6.next C; replace I1 := jq9 I1 C; replace I2 := jq9 I2 C; clear C; clear f0_ f1_ f2_ f3_ f4_ f5_ f6_ f7_ f8_; clear g0_ g1_ g2_ g3_ g4_ g5_ g6_ g7_ g8_; obtain ⟨f0_, f1_, f2_, f3_, f4_, f5_, f6_, f7_, f8_⟩ := jq4 K4; obtain ⟨g0_, g1_, g2_, g3_, g4_, g5_, g6_, g7_, g8_⟩ := jq4 K6; go_wp2_with fail; refine (iFmtE b1 c1 x2 _ I1).mono ?_; rintro e u6 ⟨rfl, C⟩; rw [HF.out]; replace B := jq2 B C; clear C; go_wp2_with fail; go_ret; exact ⟨rfl, B⟩

theorem lifted (os : Os) (started : os.Started) (H : Type) (enc : TypeId × Value → H) :
  ReturnsInHanded {} Try.checked os 9 .any (Rows.fnParseEventSpec.pre6 enc Try.prog Try.f9 Rows.fnParseEventRow.domain false) (Rows.fnParseEventSpec.post enc Try.prog Try.f9 false true false false) := by
 refine returnsInHanded_of_change (C := Try.checked) own started (by kernel_rfl) Try.func9
  (ChangeSpec.witness6 (enc := enc) (C := Try.checked) false ⟨#[], #[.slice none 0 0], []⟩ 8 (by kernel_rfl) (by kernel_rfl) (by kernel_rfl) (by kernel_rfl)) ?_
 intro W base args ds gs before hval0 hW hcnd _; have hval : ∀ (j : Nat) t v, Try.f9.params[j]? = some t → args[j]? = some v → Value.okWide Try.prog W .any base t v := hval0; have hW' := hW; obtain ⟨p, q, hA0, hV, rfl, hfz, hnd⟩ := hW; have hA : DataW.TrodAll enc Try.prog W 0 (fun _ => true) true Try.f9.params.toList args.toList ds p := hA0; rw [Try.params9] at hA hval; obtain ⟨v0, vs0, e0, es0, p0, q0, hargs, rfl, rfl, h0, r0⟩ := trodAll_cons hA; obtain ⟨rfl, rfl, rfl⟩ := trodAll_nil r0
 obtain rfl : args = #[v0] := by cases args; simp_all
 obtain ⟨rfl, rfl⟩ := trodVars_none hV; have k0 := h0
 have lt0 : ∀ x ∈ p0, x.block < W.heap.size := by obtain ⟨m, hm⟩ := k0; exact DataW.trod_lt m _ _ _ hm
 obtain ⟨a0, len0, cap0, rfl⟩ := okWide_slice Try.underlying22 (hval 0 22 v0 rfl rfl)
 obtain ⟨z0, w0⟩ : ∃ zs, IsRow .u8 W a0 len0 cap0 zs := by
  obtain ⟨fuel, hf⟩ := h0
  rcases open_ints Try.underlying22 Try.underlying5 (by kernel_rfl) hf with ⟨hcs, _⟩ | ⟨x, l, c, zs, hcs, _, hl, hm, hz, _, hcell, hwz⟩
  ·simp [Value.cells] at hcs
   obtain ⟨rfl, rfl, rfl⟩ := hcs; exact ⟨[], .inl ⟨rfl, rfl, rfl, rfl⟩⟩
  ·simp [Value.cells] at hcs
   obtain ⟨rfl, rfl, rfl⟩ := hcs; exact ⟨zs, .inr ⟨_, rfl, hl, hm, by simpa using hz, hcell, hwz⟩⟩
 clear hA0 hval0
 refine (walk a0 len0 cap0 z0 W w0).mono fun e W' ⟨he, bel⟩ => ?_
 subst he; exact ⟨_, rfl, _, _, _, [], _, [], hW', trodAll_mk1 (shut_bool Try.underlying4 _), (trodAll_cons_mk (Below.trod laidOut (by kernel_rfl) (of_decide_eq_true (by kernel_rfl)) k0 bel lt0) trodAll_mk0), rfl, bel.frame _, fun h => by cases h⟩

theorem over : Rows.fnParseEventRow.holds Try.pinned (OpenSpec.ofChange Rows.fnParseEventSpec) :=
 OpenClaim.holds_of_wide 9 Try.f9 rfl rfl rfl rfl rfl rfl rfl ⟨rfl, rfl, rfl, rfl, rfl⟩ rfl rfl rfl rfl rfl (by kernel_rfl) Try.func9 (by kernel_rfl)
  (of_decide_eq_true (by kernel_rfl)) (by unfold Func.isWrapper; first | (rw [if_pos (by decide +kernel)]; kernel_rfl) | (rw [if_neg (by decide +kernel)]; exact ⟨rfl, rfl⟩))
  (fun os started H enc _ => lifted os started H enc)

end Go.Proofs.Ytaehemmjemhgpaa.fnParseEvent
namespace Go.Proofs.Ytaehemmjemhgpaa
theorem fnParseEvent_holds : Rows.FnParseEventSaid := fnParseEvent.over
end Go.Proofs.Ytaehemmjemhgpaa
