/- For every input the law answers true, and its argument reads afterwards as before: events are read back. No condition. -/
import Derived.Test.YtaehemmjemhgpaaRows
import Derived.Test.YtaehemmjemhgpaaPCDrawTf
import Derived.Test.YtaehemmjemhgpaaPCDrawTg
import Derived.Test.YtaehemmjemhgpaaPCG4
import Derived.Test.YtaehemmjemhgpaaPCG5
import Derived.Test.YtaehemmjemhgpaaPCG6
import Derived.WalkKit
import Derived.ProofKit
import Derived.OpenShut
import Derived.ShutString
import Derived.ChangeOld
import Derived.Below
import Derived.Lib.SmallJoins
set_option maxRecDepth 100000
set_option maxHeartbeats 16000000
namespace Go.Proofs.Ytaehemmjemhgpaa.fnFormatEvent
open Go.ChangeShapes Go.WideShapes Go.ChangeAt Go.RowKit Go.Joins
open Go.ChangeMaps (open_string shut_string)
set_option linter.unusedVariables false
set_option linter.unusedSimpArgs false

theorem own : ownKnob Try.prog.godebug = none := by kernel_rfl
theorem laidOut : laidOutB Try.prog = true := by kernel_rfl

theorem walk (a0 : Option Addr) (len0 cap0 : Nat) (z0 : List Int) (w : World) (w0 : IsRow .u8 w a0 len0 cap0 z0) :
  Calls Try.prog 8 #[.slice a0 len0 cap0] w fun e w' => e = .returned (.bool true) ∧ Below w.heap.size w w' := by
 by_cases big : (1048576 : Int) < (len0 : Int)
 ·go_enter Try.func8, Try.ntmps8
  go_wp2
  go_ret; exact ⟨rfl, Below.refl _ _⟩
 go_enter Try.func8, Try.ntmps8; go_wp2_with fail; refine (drawFE a0 len0 cap0 z0 _ w0).mono ?_; rintro e u1 ⟨A, cz, x, rfl, z4, zc, zI, B⟩; clear w0 big
 obtain ⟨U, hU⟩ : ∃ y, y = u1.alloc (.cells #[.int .i64 x.k, .int .i64 x.dd.k, .int .i64 x.dd.o, .int .i64 x.dd.t, .int .i64 x.dd.n, .int .i64 x.dd.d, .slice A x.dd.zs.length cz, .int .i64 x.at_, .int .i64 x.nu] 63) := ⟨_, rfl⟩
 have D : Below u1.heap.size u1 U := by subst hU; exact (Below.refl _ _).alloc (Nat.le_refl _) _
 have KE : Blk U u1.heap.size 63 #[.int .i64 x.k, .int .i64 x.dd.k, .int .i64 x.dd.o, .int .i64 x.dd.t, .int .i64 x.dd.n, .int .i64 x.dd.d, .slice A x.dd.zs.length cz, .int .i64 x.at_, .int .i64 x.nu] := by subst hU; exact Blk.new _ _ _
 replace B := B.trans (D.mono B.size); have HU := Lib.hid hU; clear hU
 go_upto_region 4 with fail
 rw [← HU.out]; clear HU; generalize u1.heap.size = gE at KE ⊢; have CI := Lib.hid (fun W (hW : Below u1.heap.size u1 W) => iFmtE A cz x W (jq9 zI hW)); have CS := Lib.hid (fun W (hW : Below u1.heap.size u1 W) => sFmtE A cz x W (jq9 zI hW)); clear zI z4 zc
 by_cases hw : evW x = []
 ·have he := fm_empty hw
  have hz := Lib.hid hw; generalize fmE x = s at CI CS he
  have hss : (s.toList == s.toList) = true := by simp
  clear hw; obtain ⟨f0_, f1_, f2_, f3_, f4_, f5_, f6_, f7_, f8_⟩ := jq4 KE; go_wp2_with fail; refine (CI.out _ D).mono ?_; rintro e u2 ⟨rfl, C⟩; clear f0_ f1_ f2_ f3_ f4_ f5_ f6_ f7_ f8_; replace B := jq2 B C; replace D := jq2 D C; replace KE := KE.next C; clear C; obtain ⟨f0_, f1_, f2_, f3_, f4_, f5_, f6_, f7_, f8_⟩ := jq4 KE; go_wp2_with fail; refine (CS.out _ D).mono ?_; rintro e u2 ⟨rfl, C⟩; clear f0_ f1_ f2_ f3_ f4_ f5_ f6_ f7_ f8_; replace B := jq2 B C; replace D := jq2 D C; replace KE := KE.next C; clear C; obtain ⟨f0_, f1_, f2_, f3_, f4_, f5_, f6_, f7_, f8_⟩ := jq4 KE; go_wp2_with fail; refine (CS.out _ D).mono ?_; rintro e u2 ⟨rfl, C⟩; clear f0_ f1_ f2_ f3_ f4_ f5_ f6_ f7_ f8_; replace B := jq2 B C; replace D := jq2 D C; replace KE := KE.next C; clear C; obtain ⟨f0_, f1_, f2_, f3_, f4_, f5_, f6_, f7_, f8_⟩ := jq4 KE; go_wp2_with fail; go_ret; exact ⟨rfl, B⟩
 ·have he := fm_full hw
  have HP := Lib.hid (par_of hw (L := cutS 32 (fmE x)) (fun _ => rfl)).2; have HC := Lib.hid (fm_can hw); have HK := Lib.hid (can_k hw); have hsz : (fmE x).size ≤ 1048576 := Nat.le_trans (fm_600 x) (by decide); have CP := Lib.hid (fun W => iParE (fmE x) W hsz); rw [HP.out] at CP; generalize fmE x = s at *; generalize canE x = y at *
  have hss : (s.toList == s.toList) = true := by simp
  clear hw hsz HP; obtain ⟨f0_, f1_, f2_, f3_, f4_, f5_, f6_, f7_, f8_⟩ := jq4 KE; go_wp2_with fail; refine (CI.out _ D).mono ?_; rintro e u2 ⟨rfl, C⟩; clear f0_ f1_ f2_ f3_ f4_ f5_ f6_ f7_ f8_; replace B := jq2 B C; replace D := jq2 D C; replace KE := KE.next C; clear C; obtain ⟨f0_, f1_, f2_, f3_, f4_, f5_, f6_, f7_, f8_⟩ := jq4 KE; go_wp2_with fail; refine (CS.out _ D).mono ?_; rintro e u2 ⟨rfl, C⟩; clear f0_ f1_ f2_ f3_ f4_ f5_ f6_ f7_ f8_; replace B := jq2 B C; replace D := jq2 D C; replace KE := KE.next C; clear C; obtain ⟨f0_, f1_, f2_, f3_, f4_, f5_, f6_, f7_, f8_⟩ := jq4 KE; go_wp2_with fail; refine (CP.out _).mono ?_; rintro e u3 ⟨v, y', hy', he', O, C⟩; obtain rfl : y' = y := hy'; change e = .returned (.tuple #[.agg #[.int .i64 y'.k, .int .i64 y'.dd.k, .int .i64 y'.dd.o, .int .i64 y'.dd.t, .int .i64 y'.dd.n, .int .i64 y'.dd.d, v, .int .i64 y'.at_, .int .i64 y'.nu], .bool true]) at he'; subst he'; obtain ⟨bz, cz2, rfl, I⟩ := OwnI.ints O; clear f0_ f1_ f2_ f3_ f4_ f5_ f6_ f7_ f8_; replace B := jq2 B C; replace D := jq2 D C; replace KE := KE.next C; clear C O CI CS CP
  obtain ⟨U4, hU4⟩ : ∃ Y_, Y_ = u3.alloc (.cells #[.int .i64 y'.k, .int .i64 y'.dd.k, .int .i64 y'.dd.o, .int .i64 y'.dd.t, .int .i64 y'.dd.n, .int .i64 y'.dd.d, (.slice bz y'.dd.zs.length cz2), .int .i64 y'.at_, .int .i64 y'.nu] 63) := ⟨_, rfl⟩
  have D4 : Below u3.heap.size u3 U4 := by subst hU4; exact (Below.refl _ _).alloc (Nat.le_refl _) _
  have K5 : Blk U4 u3.heap.size 63 #[.int .i64 y'.k, .int .i64 y'.dd.k, .int .i64 y'.dd.o, .int .i64 y'.dd.t, .int .i64 y'.dd.n, .int .i64 y'.dd.d, (.slice bz y'.dd.zs.length cz2), .int .i64 y'.at_, .int .i64 y'.nu] := by subst hU4; exact Blk.new _ _ _
  replace B := jq2 B D4; replace KE := KE.next D4; replace I := jq9 I D4; have HU4 := Lib.hid hU4; clear hU4 D4 D; obtain ⟨f0_, f1_, f2_, f3_, f4_, f5_, f6_, f7_, f8_⟩ := jq4 KE; obtain ⟨g0_, g1_, g2_, g3_, g4_, g5_, g6_, g7_, g8_⟩ := jq4 K5
  go_wp2_with (first | (show wpList _ _ _ ({ dst := some _, op := _, type := _, pos := _, after := _, guard := _ } :: _) _ (World.alloc _ _); rw [← HU4.out]))
  refine (iFmtE bz cz2 y' U4 I).mono ?_; rintro e u5 ⟨rfl, C⟩; rw [HC.out]; replace B := jq2 B C; replace KE := KE.next C; replace K5 := K5.next C; clear f0_ f1_ f2_ f3_ f4_ f5_ f6_ f7_ f8_; clear g0_ g1_ g2_ g3_ g4_ g5_ g6_ g7_ g8_; obtain ⟨f0_, f1_, f2_, f3_, f4_, f5_, f6_, f7_, f8_⟩ := jq4 KE; obtain ⟨g0_, g1_, g2_, g3_, g4_, g5_, g6_, g7_, g8_⟩ := jq4 K5
  have hk : (y'.k == x.k) = true := by rw [HK.out]; simp
  clear C KE K5 I; go_wp2_with fail; go_ret; exact ⟨rfl, B⟩

theorem lifted (os : Os) (started : os.Started) (H : Type) (enc : TypeId × Value → H) :
  ReturnsInHanded {} Try.checked os 8 .any (Rows.fnFormatEventSpec.pre6 enc Try.prog Try.f8 Rows.fnFormatEventRow.domain false) (Rows.fnFormatEventSpec.post enc Try.prog Try.f8 false true false false) := by
 refine returnsInHanded_of_change (C := Try.checked) own started (by kernel_rfl) Try.func8
  (ChangeSpec.witness6 (enc := enc) (C := Try.checked) false ⟨#[], #[.slice none 0 0], []⟩ 8 (by kernel_rfl) (by kernel_rfl) (by kernel_rfl) (by kernel_rfl)) ?_
 intro W base args ds gs before hval0 hW hcnd _; have hval : ∀ (j : Nat) t v, Try.f8.params[j]? = some t → args[j]? = some v → Value.okWide Try.prog W .any base t v := hval0; have hW' := hW; obtain ⟨p, q, hA0, hV, rfl, hfz, hnd⟩ := hW; have hA : DataW.TrodAll enc Try.prog W 0 (fun _ => true) true Try.f8.params.toList args.toList ds p := hA0; rw [Try.params8] at hA hval; obtain ⟨v0, vs0, e0, es0, p0, q0, hargs, rfl, rfl, h0, r0⟩ := trodAll_cons hA; obtain ⟨rfl, rfl, rfl⟩ := trodAll_nil r0
 obtain rfl : args = #[v0] := by cases args; simp_all
 obtain ⟨rfl, rfl⟩ := trodVars_none hV; have k0 := h0
 have lt0 : ∀ x ∈ p0, x.block < W.heap.size := by obtain ⟨m, hm⟩ := k0; exact DataW.trod_lt m _ _ _ hm
 obtain ⟨a0, len0, cap0, rfl⟩ := okWide_slice Try.underlying22 (hval 0 22 v0 rfl rfl)
 obtain ⟨z0, w0⟩ : ∃ zs, IsRow .u8 W a0 len0 cap0 zs := by
  obtain ⟨fuel, hf⟩ := h0
  rcases open_ints Try.underlying22 Try.underlying5 (by kernel_rfl) hf with ⟨hcs, _⟩ | ⟨x, l, c, zs, hcs, _, hl, hm, hz, _, hcell, hwz⟩
  ·simp [Value.cells] at hcs
   obtain ⟨rfl, rfl, rfl⟩ := hcs; exact ⟨[], .inl ⟨rfl, rfl, rfl, rfl⟩⟩
  ·simp [Value.cells] at hcs
   obtain ⟨rfl, rfl, rfl⟩ := hcs; exact ⟨zs, .inr ⟨_, rfl, hl, hm, by simpa using hz, hcell, hwz⟩⟩
 clear hA0 hval0
 refine (walk a0 len0 cap0 z0 W w0).mono fun e W' ⟨he, bel⟩ => ?_
 subst he; exact ⟨_, rfl, _, _, _, [], _, [], hW', trodAll_mk1 (shut_bool Try.underlying4 _), (trodAll_cons_mk (Below.trod laidOut (by kernel_rfl) (of_decide_eq_true (by kernel_rfl)) k0 bel lt0) trodAll_mk0), rfl, bel.frame _, fun h => by cases h⟩

theorem over : Rows.fnFormatEventRow.holds Try.pinned (OpenSpec.ofChange Rows.fnFormatEventSpec) :=
 OpenClaim.holds_of_wide 8 Try.f8 rfl rfl rfl rfl rfl rfl rfl ⟨rfl, rfl, rfl, rfl, rfl⟩ rfl rfl rfl rfl rfl (by kernel_rfl) Try.func8 (by kernel_rfl)
  (of_decide_eq_true (by kernel_rfl)) (by unfold Func.isWrapper; first | (rw [if_pos (by decide +kernel)]; kernel_rfl) | (rw [if_neg (by decide +kernel)]; exact ⟨rfl, rfl⟩))
  (fun os started H enc _ => lifted os started H enc)

end Go.Proofs.Ytaehemmjemhgpaa.fnFormatEvent
namespace Go.Proofs.Ytaehemmjemhgpaa
theorem fnFormatEvent_holds : Rows.FnFormatEventSaid := fnFormatEvent.over
end Go.Proofs.Ytaehemmjemhgpaa
