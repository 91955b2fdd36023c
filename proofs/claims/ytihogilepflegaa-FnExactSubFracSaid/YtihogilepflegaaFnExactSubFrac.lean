/- For every input the law answers true, and its arguments read afterwards as before: impl.SubFrac answers as its model. No condition. -/
import Derived.Test.YtihogilepflegaaRows
import Derived.Test.YtihogilepflegaaMake
import Derived.Test.YtihogilepflegaaHeld
import Derived.WalkKit
import Derived.Deep.RegionHeld3
import Derived.Deep.DeepCutAuto
import Derived.ProofKit
import Derived.OpenShut
import Derived.ShutString
import Derived.ChangeOld
import Derived.Below
import Derived.Lib.SmallJoins
namespace Go.Proofs.Ytihogilepflegaa.fnExactSubFrac
open Go.ChangeShapes Go.WideShapes Go.ChangeAt Go.RowKit Go.Joins
open Go.ChangeMaps (open_string shut_string)
set_option linter.unusedVariables false

theorem own : ownKnob Try.prog.godebug = none := by kernel_rfl
theorem laidOut : laidOutB Try.prog = true := by kernel_rfl

set_option maxHeartbeats 2000000 in
theorem walk (n0 d0 : Int) (n1 d1 : Int) (w : World) (w0 : (Lit.int .i64 n0).wf = true) (x0 : (Lit.int .i64 d0).wf = true) (w1 : (Lit.int .i64 n1).wf = true) (x1 : (Lit.int .i64 d1).wf = true) :
    Calls Try.prog 7 #[.agg #[.int .i64 n0, .int .i64 d0], .agg #[.int .i64 n1, .int .i64 d1]] w fun e w' => e = .returned (.bool true) ∧ Below w.heap.size w w' := by
  go_enter Try.func7, Try.ntmps7
  go_upto_region 1 with fail
  go_cut [5, 6] (fun s5 s6 wx => (∃ g : Nat, s5 = .pointer (some ⟨g, 0, none⟩) ∧ s6 = .bool (Wsh.vfB n0 d0 && Wsh.vfB n1 d1 && Wsh.redB (n0 * d1 - n1 * d0) (d0 * d1)) ∧ wx.cell? ⟨g, 0, none⟩ = some (.int .i64 (Wsh.qn (Wsh.vfB n0 d0 && Wsh.vfB n1 d1 && Wsh.redB (n0 * d1 - n1 * d0) (d0 * d1)) (Wsh.rn (n0 * d1 - n1 * d0) (d0 * d1)))) ∧ wx.cell? ⟨g, 1, none⟩ = some (.int .i64 (Wsh.qn (Wsh.vfB n0 d0 && Wsh.vfB n1 d1 && Wsh.redB (n0 * d1 - n1 * d0) (d0 * d1)) (Wsh.rd (n0 * d1 - n1 * d0) (d0 * d1)))) ∧ g < wx.heap.size) ∧ (wx.cell? ⟨w.heap.size, 0, none⟩ = some (.int .i64 n0) ∧ wx.cell? ⟨w.heap.size, 1, none⟩ = some (.int .i64 d0) ∧ wx.cell? ⟨w.heap.size + 1, 0, none⟩ = some (.int .i64 n1) ∧ wx.cell? ⟨w.heap.size + 1, 1, none⟩ = some (.int .i64 d1) ∧ w.heap.size + 1 < wx.heap.size ∧ Below w.heap.size w wx ∧ Below w.heap.size w wx))
  case first =>
    go_region_held3 (fun w' => w'.cell? ⟨w.heap.size, 0, none⟩ = some (.int .i64 n0) ∧ w'.cell? ⟨w.heap.size, 1, none⟩ = some (.int .i64 d0) ∧ w'.cell? ⟨w.heap.size + 1, 0, none⟩ = some (.int .i64 n1) ∧ w'.cell? ⟨w.heap.size + 1, 1, none⟩ = some (.int .i64 d1) ∧ w.heap.size + 1 < w'.heap.size ∧ Below w.heap.size w w' ∧ Below w.heap.size w w') (first | (exact keepT (by assumption) (by assumption)) | (exact keepS ((Below.refl _ _).alloc (Nat.le_refl _) _) (by assumption)) | (exact keepS ((Below.refl _ _).drew) (by assumption)) | (exact keepR (by assumption) hsz hB hV) | (exact keepW (by assumption) (by simp <;> omega) (by simp <;> omega) (by simp <;> omega) (by simp <;> omega)) | (refine ⟨?_, ?_, ?_, ?_, ?_, ?_, ?_⟩ <;> first | (go_keep; done) | (go_grown; done)))
      (first | (go_at_call 11; refine (ltoFrac _ _ _).mono ?_; rintro e wq ⟨rfl, hb⟩; have hsz := (keepS hb (by assumption)).2.2.2.2.1; have hB := (keepS hb (by assumption)).2.2.2.2.2.1; have hV := (keepS hb (by assumption)).2.2.2.2.2.2; obtain ⟨hc, hf⟩ := bcell hb; have hzz := hb.size; (try simp only [World.size_alloc] at hzz); (try simp only [World.size_drew] at hzz); (try simp only [World.size_alloc] at hzz); (try simp only [Nat.add_one_le_iff] at hzz); (try have hq : w.heap.size + 1 + 1 < wq.heap.size := by omega); (try have hq2 : w.heap.size + 2 < wq.heap.size := by omega); (try have hq3 : w.heap.size < wq.heap.size := by omega)) | (go_at_call 20; refine (sSub _ _ _ _ _).mono ?_; rintro e wq ⟨rfl, hb⟩; have hsz := (keepS hb (by assumption)).2.2.2.2.1; have hB := (keepS hb (by assumption)).2.2.2.2.2.1; have hV := (keepS hb (by assumption)).2.2.2.2.2.2; obtain ⟨hc, hf⟩ := bcell hb; have hzz := hb.size; (try simp only [World.size_alloc] at hzz); (try simp only [World.size_drew] at hzz); (try simp only [World.size_alloc] at hzz); (try simp only [Nat.add_one_le_iff] at hzz); (try have hq : w.heap.size + 1 + 1 < wq.heap.size := by omega); (try have hq2 : w.heap.size + 2 < wq.heap.size := by omega); (try have hq3 : w.heap.size < wq.heap.size := by omega)))
    all_goals
      have hS := ‹_ ∧ _›
      go_wp2_with fail
      go_meet
      first
      | (refine ⟨⟨_, rfl, rfl, ?_⟩, hS⟩; exact ⟨by simp [go_sem], by simp [go_sem], by simp⟩)
      | (refine ⟨⟨_, rfl, rfl, ?_⟩, hS⟩; exact stored (by assumption) (by first | rfl | simp))
      | (refine ⟨⟨_, rfl, rfl, ?_⟩, hS⟩; exact stored (bel_tr (by assumption) (by assumption)) (by first | rfl | simp))
      | (refine ⟨⟨_, rfl, rfl, ?_⟩, hS⟩; exact stored (bel_tr (bel_tr (by assumption) (by assumption)) (by assumption)) (by first | rfl | simp))
      | (refine ⟨⟨_, rfl, rfl, ?_⟩, hS⟩; exact stored (bel_tr ((Below.refl _ _).drew) (bel_tr (bel_tr (by assumption) (by assumption)) (by assumption))) (by first | rfl | simp))
  case rest =>
    obtain ⟨⟨g, rfl, rfl, c0, c1, hg⟩, s0, s1, s2, s3, s4, s5, s6⟩ := hcut
    clear s6
    go_upto_region 2 with fail
    go_cut [7, 8] (fun s7 s8 wx => (∃ h : Nat, s7 = .pointer (some ⟨h, 0, none⟩) ∧ s8 = .bool (Wsh.vfB n0 d0 && Wsh.vfB n1 d1 && Wsh.redB (n0 * d1 - n1 * d0) (d0 * d1)) ∧ wx.cell? ⟨h, 0, none⟩ = some (.int .i64 (Wsh.qn (Wsh.vfB n0 d0 && Wsh.vfB n1 d1 && Wsh.redB (n0 * d1 - n1 * d0) (d0 * d1)) (Wsh.rn (n0 * d1 - n1 * d0) (d0 * d1)))) ∧ wx.cell? ⟨h, 1, none⟩ = some (.int .i64 (Wsh.qn (Wsh.vfB n0 d0 && Wsh.vfB n1 d1 && Wsh.redB (n0 * d1 - n1 * d0) (d0 * d1)) (Wsh.rd (n0 * d1 - n1 * d0) (d0 * d1)))) ∧ h < wx.heap.size) ∧ wx.cell? ⟨g, 0, none⟩ = some (.int .i64 (Wsh.qn (Wsh.vfB n0 d0 && Wsh.vfB n1 d1 && Wsh.redB (n0 * d1 - n1 * d0) (d0 * d1)) (Wsh.rn (n0 * d1 - n1 * d0) (d0 * d1)))) ∧ wx.cell? ⟨g, 1, none⟩ = some (.int .i64 (Wsh.qn (Wsh.vfB n0 d0 && Wsh.vfB n1 d1 && Wsh.redB (n0 * d1 - n1 * d0) (d0 * d1)) (Wsh.rd (n0 * d1 - n1 * d0) (d0 * d1)))) ∧ Below w.heap.size w wx)
    case first =>
      go_region_held3 (fun w' => w'.cell? ⟨w.heap.size, 0, none⟩ = some (.int .i64 n0) ∧ w'.cell? ⟨w.heap.size, 1, none⟩ = some (.int .i64 d0) ∧ w'.cell? ⟨w.heap.size + 1, 0, none⟩ = some (.int .i64 n1) ∧ w'.cell? ⟨w.heap.size + 1, 1, none⟩ = some (.int .i64 d1) ∧ w.heap.size + 1 < w'.heap.size ∧ Below w.heap.size w w' ∧ Below wc.heap.size wc w') (first | (exact keepT (by assumption) (by assumption)) | (exact keepS ((Below.refl _ _).alloc (Nat.le_refl _) _) (by assumption)) | (exact keepS ((Below.refl _ _).drew) (by assumption)) | (exact keepR (by assumption) hsz hB hV) | (exact keepW (by assumption) (by simp <;> omega) (by simp <;> omega) (by simp <;> omega) (by simp <;> omega)) | (refine ⟨?_, ?_, ?_, ?_, ?_, ?_, ?_⟩ <;> first | (go_keep; done) | (go_grown; done)))
      (first | (go_at_call 11; refine (ltoFrac _ _ _).mono ?_; rintro e wq ⟨rfl, hb⟩; have hsz := (keepS hb (by assumption)).2.2.2.2.1; have hB := (keepS hb (by assumption)).2.2.2.2.2.1; have hV := (keepS hb (by assumption)).2.2.2.2.2.2; obtain ⟨hc, hf⟩ := bcell hb; have hzz := hb.size; (try simp only [World.size_alloc] at hzz); (try simp only [World.size_drew] at hzz); (try simp only [World.size_alloc] at hzz); (try simp only [Nat.add_one_le_iff] at hzz); (try have hq : w.heap.size + 1 + 1 < wq.heap.size := by omega); (try have hq2 : w.heap.size + 2 < wq.heap.size := by omega); (try have hq3 : wc.heap.size < wq.heap.size := by omega)) | (go_at_call 21; refine (iSub _ _ _ _ _).mono ?_; rintro e wq ⟨rfl, hb⟩; have hsz := (keepS hb (by assumption)).2.2.2.2.1; have hB := (keepS hb (by assumption)).2.2.2.2.2.1; have hV := (keepS hb (by assumption)).2.2.2.2.2.2; obtain ⟨hc, hf⟩ := bcell hb; have hzz := hb.size; (try simp only [World.size_alloc] at hzz); (try simp only [World.size_drew] at hzz); (try simp only [World.size_alloc] at hzz); (try simp only [Nat.add_one_le_iff] at hzz); (try have hq : w.heap.size + 1 + 1 < wq.heap.size := by omega); (try have hq2 : w.heap.size + 2 < wq.heap.size := by omega); (try have hq3 : wc.heap.size < wq.heap.size := by omega)))
      all_goals
        have hS := ‹_ ∧ _›
        go_wp2_with fail
        go_meet
        first
        | (refine ⟨⟨_, rfl, rfl, ?_⟩, ((hS.2.2.2.2.2.2).cell (p := ⟨g, 0, none⟩) hg).trans c0, ((hS.2.2.2.2.2.2).cell (p := ⟨g, 1, none⟩) hg).trans c1, hS.2.2.2.2.2.1⟩; exact ⟨by simp [go_sem], by simp [go_sem], by simp⟩)
        | (refine ⟨⟨_, rfl, rfl, ?_⟩, ((hS.2.2.2.2.2.2).cell (p := ⟨g, 0, none⟩) hg).trans c0, ((hS.2.2.2.2.2.2).cell (p := ⟨g, 1, none⟩) hg).trans c1, hS.2.2.2.2.2.1⟩; exact stored (by assumption) (by first | rfl | simp))
        | (refine ⟨⟨_, rfl, rfl, ?_⟩, ((hS.2.2.2.2.2.2).cell (p := ⟨g, 0, none⟩) hg).trans c0, ((hS.2.2.2.2.2.2).cell (p := ⟨g, 1, none⟩) hg).trans c1, hS.2.2.2.2.2.1⟩; exact stored (bel_tr (by assumption) (by assumption)) (by first | rfl | simp))
        | (refine ⟨⟨_, rfl, rfl, ?_⟩, ((hS.2.2.2.2.2.2).cell (p := ⟨g, 0, none⟩) hg).trans c0, ((hS.2.2.2.2.2.2).cell (p := ⟨g, 1, none⟩) hg).trans c1, hS.2.2.2.2.2.1⟩; exact stored (bel_tr (bel_tr (by assumption) (by assumption)) (by assumption)) (by first | rfl | simp))
        | (refine ⟨⟨_, rfl, rfl, ?_⟩, ((hS.2.2.2.2.2.2).cell (p := ⟨g, 0, none⟩) hg).trans c0, ((hS.2.2.2.2.2.2).cell (p := ⟨g, 1, none⟩) hg).trans c1, hS.2.2.2.2.2.1⟩; exact stored (bel_tr ((Below.refl _ _).drew) (bel_tr (bel_tr (by assumption) (by assumption)) (by assumption))) (by first | rfl | simp))
    case rest =>
      obtain ⟨⟨h, rfl, rfl, e0, e1, hh⟩, d0, d1, hB⟩ := hcut
      go_wp2_with fail
      refine (leqFrac _ _ _).mono ?_
      rintro e wl ⟨rfl, hb⟩
      have hB3 := bel_tr hB hb
      clear hb
      go_wp2_with fail
      go_ret
      exact ⟨rfl, hB3⟩

set_option maxRecDepth 100000 in
theorem lifted (os : Os) (started : os.Started) (H : Type) (enc : TypeId × Value → H) :
    ReturnsInHanded {} Try.checked os 7 .any (Rows.fnExactSubFracSpec.pre6 enc Try.prog Try.f7 Rows.fnExactSubFracRow.domain false) (Rows.fnExactSubFracSpec.post enc Try.prog Try.f7 false true false false) := by
  refine returnsInHanded_of_change (C := Try.checked) own started (by kernel_rfl) Try.func7
    (ChangeSpec.witness6 (enc := enc) (C := Try.checked) false ⟨#[], #[.agg #[.int .i64 0, .int .i64 0], .agg #[.int .i64 0, .int .i64 0]], []⟩ 8 (by kernel_rfl) (by kernel_rfl) (by kernel_rfl) (by kernel_rfl)) ?_
  intro W base args ds gs before hval0 hW hcnd _
  have hval : ∀ (j : Nat) t v, Try.f7.params[j]? = some t → args[j]? = some v → Value.okWide Try.prog W .any base t v := hval0
  have hW' := hW
  obtain ⟨p, q, hA0, hV, rfl, hfz, hnd⟩ := hW
  have hA : DataW.TrodAll enc Try.prog W 0 (fun _ => true) true Try.f7.params.toList args.toList ds p := hA0
  rw [Try.params7] at hA hval
  obtain ⟨v0, vs0, e0, es0, p0, q0, hargs, rfl, rfl, h0, r0⟩ := trodAll_cons hA
  obtain ⟨v1, vs1, e1, es1, p1, q1, rfl, rfl, rfl, h1, r1⟩ := trodAll_cons r0
  obtain ⟨rfl, rfl, rfl⟩ := trodAll_nil r1
  obtain rfl : args = #[v0, v1] := by cases args; simp_all
  obtain ⟨rfl, rfl⟩ := trodVars_none hV
  have k0 := h0
  have lt0 : ∀ x ∈ p0, x.block < W.heap.size := by obtain ⟨m, hm⟩ := k0; exact DataW.trod_lt m _ _ _ hm
  obtain ⟨c0, b0, y0, u0, m0, rfl, _, _, hy0, hu0⟩ := open_agg2 Try.underlying23 (by kernel_rfl) (by kernel_rfl) (hval 0 23 v0 rfl rfl) h0
  obtain ⟨n0, g0, _, w0⟩ := DataW.trod_int Try.underlying3 hy0
  obtain ⟨d0, j0, _, x0⟩ := DataW.trod_int Try.underlying3 hu0
  simp only [List.cons.injEq, and_true] at g0 j0
  subst g0 j0
  have k1 := h1
  have lt1 : ∀ x ∈ p1, x.block < W.heap.size := by obtain ⟨m, hm⟩ := k1; exact DataW.trod_lt m _ _ _ hm
  obtain ⟨c1, b1, y1, u1, m1, rfl, _, _, hy1, hu1⟩ := open_agg2 Try.underlying23 (by kernel_rfl) (by kernel_rfl) (hval 1 23 v1 rfl rfl) h1
  obtain ⟨n1, g1, _, w1⟩ := DataW.trod_int Try.underlying3 hy1
  obtain ⟨d1, j1, _, x1⟩ := DataW.trod_int Try.underlying3 hu1
  simp only [List.cons.injEq, and_true] at g1 j1
  subst g1 j1
  clear hA0 hval0
  refine (walk n0 d0 n1 d1 W w0 x0 w1 x1).mono fun e W' ⟨he, bel⟩ => ?_
  subst he
  exact ⟨_, rfl, _, _, _, [], _, [], hW', trodAll_mk1 (shut_bool Try.underlying4 _), (trodAll_cons_mk (Below.trod laidOut (by kernel_rfl) (of_decide_eq_true (by kernel_rfl)) k0 bel lt0) (trodAll_cons_mk (Below.trod laidOut (by kernel_rfl) (of_decide_eq_true (by kernel_rfl)) k1 bel lt1) trodAll_mk0)), rfl, bel.frame _, fun h => by cases h⟩

theorem over : Rows.fnExactSubFracRow.holds Try.pinned (OpenSpec.ofChange Rows.fnExactSubFracSpec) :=
  OpenClaim.holds_of_wide 7 Try.f7 rfl rfl rfl rfl rfl rfl rfl ⟨rfl, rfl, rfl, rfl, rfl⟩ rfl rfl rfl rfl rfl (by kernel_rfl) Try.func7 (by kernel_rfl)
    (of_decide_eq_true (by kernel_rfl)) (by unfold Func.isWrapper; first | (rw [if_pos (by decide +kernel)]; kernel_rfl) | (rw [if_neg (by decide +kernel)]; exact ⟨rfl, rfl⟩))
    (fun os started H enc _ => lifted os started H enc)

end Go.Proofs.Ytihogilepflegaa.fnExactSubFrac
namespace Go.Proofs.Ytihogilepflegaa
/-- the statement -/
theorem fnExactSubFrac_holds : Rows.FnExactSubFracSaid := fnExactSubFrac.over
end Go.Proofs.Ytihogilepflegaa
