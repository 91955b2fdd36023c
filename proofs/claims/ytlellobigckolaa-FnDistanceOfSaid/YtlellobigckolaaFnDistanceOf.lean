/- For every input the law answers true, and its argument reads afterwards as before: exact divisions have no distance, and a distance is the same backwards. No condition. -/
import Derived.Test.YtlellobigckolaaRows
import Derived.Test.YtlellobigckolaaHigh
import Derived.Test.YtlellobigckolaaMathD
import Derived.WalkKit
import Derived.ProofKit
import Derived.OpenShut
import Derived.ShutString
import Derived.ChangeOld
import Derived.Below
import Derived.Lib.SmallJoins
namespace Go.Proofs.Ytlellobigckolaa.fnDistanceOf
open Go.ChangeShapes Go.WideShapes Go.ChangeAt Go.RowKit Go.Joins
open Go.ChangeMaps (open_string shut_string)
set_option linter.unusedVariables false

theorem own : ownKnob Try.prog.godebug = none := by kernel_rfl
theorem laidOut : laidOutB Try.prog = true := by kernel_rfl
theorem idistN (m : Nat) (a b : Option Addr) (ca cb : Nat) (gs ws : List Int) (w : World) (hg : gs.length = m) (hw : ws.length = m) (ha : IsInts w a gs) (hb : IsInts w b ws) (hn : m ≤ 1048576) :
    Calls Try.prog 32 #[.slice a m ca, .slice b m cb] w fun e w' => e = .returned (.int .i64 (distI gs ws)) ∧ w = w' := by
  have := idist a b ca cb gs ws w ha hb (by omega) (by omega)
  rw [hg, hw] at this; exact this
theorem sdistN (m : Nat) (a b : Option Addr) (ca cb : Nat) (gs ws : List Int) (w : World) (hg : gs.length = m) (hw : ws.length = m) (ha : IsInts w a gs) (hb : IsInts w b ws) (hn : m ≤ 1048576) :
    Calls Try.prog 31 #[.slice a m ca, .slice b m cb] w fun e w' => e = .returned (.int .i64 (distI gs ws)) ∧ Below w.heap.size w w' := by
  have := sdistOf a b ca cb gs ws w ha hb (by omega) (by omega)
  rw [hg, hw] at this; exact this
theorem dist_div {gs ws : List Int} (h : ¬ distI gs ws < 0) : Div gs ws ∧ distI gs ws = distTo gs ws gs.length ∧ vwB ws = true := by
  by_cases h1 : vwB ws = true
  · by_cases h2 : gs.length = ws.length
    · by_cases h3 : allB gs 500 = true
      · by_cases h4 : gs.sum ≤ 500
        · exact ⟨div_of h1 h2 h3 h4, dist_yes h1 h2 h3 h4, h1⟩
        · rw [dist_no4 (by omega)] at h; omega
      · rw [dist_no3 (by simpa using h3)] at h; omega
    · rw [dist_no2 h2] at h; omega
  · rw [dist_no1 (by simpa using h1)] at h; omega
theorem beq_self (z : Int) : (z == z) = true := by simp

set_option maxHeartbeats 1000000 in
theorem walk (a0 : Option Addr) (len0 cap0 : Nat) (z0 : List Int) (w : World) (w0 : IsRow .u8 w a0 len0 cap0 z0) :
    Calls Try.prog 16 #[.slice a0 len0 cap0] w fun e w' => e = .returned (.bool true) ∧ Below w.heap.size w w' := by
  by_cases big : (1048576 : Int) < (len0 : Int)
  · go_enter Try.func16, Try.ntmps16
    go_wp2
    go_ret
    exact ⟨rfl, Below.refl _ _⟩
  go_enter Try.func16, Try.ntmps16
  go_wp2_with fail
  refine (drawD a0 len0 cap0 z0 _ w0).mono ?_
  rintro e u1 ⟨b, cb, gs, a, ca, ws, rfl, hgl, hw12, hbi, hai, hgz, hwz, B1⟩
  clear w0 big
  obtain ⟨m, hm⟩ : ∃ m, ws.length = m := ⟨_, rfl⟩
  rw [hm] at hgl hw12
  rw [hm]
  have hmn : m ≤ 1048576 := by omega
  have HG := Lib.hid hgl
  have HW := Lib.hid hm
  have HB := Lib.hid hbi
  have HA := Lib.hid hai
  clear hgl hm hbi hai hgz hwz
  go_wp2_with fail
  refine (idistN m _ _ _ _ gs ws _ HG.out HW.out HB.out HA.out hmn).mono ?_
  rintro e w' ⟨rfl, rfl⟩
  go_wp2_with fail
  refine (sdistN m _ _ _ _ gs ws _ HG.out HW.out HB.out HA.out hmn).mono ?_
  rintro e u2 ⟨rfl, C2⟩
  have B2 := bel_tr B1 C2
  have HB2 := Lib.hid (ints_below HB.out C2)
  have HA2 := Lib.hid (ints_below HA.out C2)
  clear C2 B1 HB HA
  by_cases hneg : distI gs ws < 0
  · have HN := Lib.hid (show ∃ D, distI gs ws = D ∧ D < 0 from ⟨_, rfl, hneg⟩)
    obtain ⟨D, hD, hneg⟩ := HN.out
    have HD := Lib.hid hD
    clear HN
    rw [hD]
    clear hD
    go_wp2_with fail
    refine (sdistN m _ _ _ _ gs ws _ HG.out HW.out HB2.out HA2.out hmn).mono ?_
    rintro e u3 ⟨rfl, C3⟩
    rw [HD.out]
    go_wp2_with fail
    go_ret
    exact ⟨ret_bool (by simp), bel_tr B2 C3⟩
  · obtain ⟨dv, hdt, hv⟩ := dist_div hneg
    have HN := Lib.hid (show ∃ D, distI gs ws = D ∧ ¬ D < 0 from ⟨_, rfl, hneg⟩)
    obtain ⟨D, hD, hneg⟩ := HN.out
    have hD0 := dist_zero dv gs.length (Nat.le_refl _)
    rw [← hdt, hD, HG.out] at hD0
    have hm0 : 0 < m := by rw [← HW.out]; exact ws_ne hv
    have HD := Lib.hid hD
    have HD0 := Lib.hid hD0
    have HV := Lib.hid dv
    have HTG := Lib.hid (fun z (hz : z ∈ gs) => all_of_get (a := -1000000) (b := 1000000) (fun i hi => by have := prod_bd dv (k := i) hi; omega) (m := 1000000) (by omega) z hz)
    have HTW := Lib.hid (all_bd dv.w (by omega))
    rw [hD]
    clear HN hD hdt hD0 dv hv
    rcases HB2.out with e | ⟨gg, og, hbg, hcg⟩
    · exact absurd hm0 (by have := HG.out; rw [e] at this; simp at this; omega)
    rcases HA2.out with e | ⟨gw, ow, hbw, hcw⟩
    · exact absurd hm0 (by have := HW.out; rw [e] at this; simp at this; omega)
    have HCG := Lib.hid hcg
    have HCW := Lib.hid hcw
    subst hbg hbw
    clear hcg hcw
    go_wp2_with fail
    go_loopw [6, 7] (fun x i wr => ∃ k : Nat, k ≤ m ∧ i = .int .i64 k ∧ x = .bool (exTo gs ws k) ∧ Below u2.heap.size u2 wr) (fun _ i _ => m - (intOf i).toNat)
    case atStart => exact ⟨0, Nat.zero_le _, rfl, rfl, Below.refl _ _⟩
    case round =>
      obtain ⟨k, hk, rfl, hx, hB⟩ := hrel
      by_cases hlt : k < m
      · have hs := exTo_succ gs ws k
        have HJB := Lib.hid (ints_below HB2.out hB)
        have HJA := Lib.hid (ints_below HA2.out hB)
        cases hex : exTo gs ws k with
        | false =>
          rw [hex] at hs hx
          have HS := Lib.hid hs
          subst hx
          clear hs hex
          go_wp2_with fail
          go_quiet (fail)
          go_wp2
          go_roundw
          case rel => exact ⟨k + 1, by omega, by go_num, by rw [HS.out]; rfl, below_drewN hB _⟩
          case measure => simp [intOf]; omega
        | true =>
          rw [hex] at hs hx
          subst hx
          clear hex
          have c1 := (hB.cell (p := ⟨gg, og + k, none⟩) (World.block_lt_of_cell? u2 _ (HCG.out k (by rw [HG.out]; exact hlt)))).trans (HCG.out k (by rw [HG.out]; exact hlt))
          have c2 := (hB.cell (p := ⟨gw, ow + k, none⟩) (World.block_lt_of_cell? u2 _ (HCW.out k (by rw [HW.out]; exact hlt)))).trans (HCW.out k (by rw [HW.out]; exact hlt))
          obtain ⟨p1, p2, p3, p4, p5, p6, p7, p8⟩ := prod_bd HV.out (k := k) (by rw [HG.out]; exact hlt)
          generalize gs.getD k 0 = x at *
          generalize ws.getD k 0 = z at *
          have t1 : IntKind.i64.wrap (x * ws.sum) = x * ws.sum := wrap_of (by omega)
          have t2 : IntKind.i64.wrap (z * gs.sum) = z * gs.sum := wrap_of (by omega)
          have i0 : (0 : Int) ≤ (k : Int) := by omega
          have i1 : (k : Int) < (m : Int) := by omega
          have HS := Lib.hid hs
          clear hs
          have KW := Lib.hid (fun n : Nat => Calls.quiet_of_same (w := wr) (n := n) ((ltotalN m _ ca ws _ HW.out (ints_below HJA.out (below_drewN (Below.refl _ _) n)) hmn HTW.out).mono (fun _ _ h => ⟨h.1, h.2.symm⟩)))
          have KG := Lib.hid (fun n : Nat => Calls.quiet_of_same (w := wr) (n := n) ((ltotalN m _ cb gs _ HG.out (ints_below HJB.out (below_drewN (Below.refl _ _) n)) hmn HTG.out).mono (fun _ _ h => ⟨h.1, h.2.symm⟩)))
          go_wp2_with fail
          go_quiet (first | (go_at_call_of 35 (Value.slice (some ⟨gw, ow, none⟩) m ca); exact KW.out _) | (go_at_call_of 35 (Value.slice (some ⟨gg, og, none⟩) m cb); exact KG.out _))
          go_wp2
          go_roundw
          case rel => exact ⟨k + 1, by omega, by go_num, by rw [HS.out]; simp, below_drewN hB _⟩
          case measure => simp [intOf]; omega
      · have ek : k = m := by omega
        subst ek
        rw [← HD0.out] at hx
        subst hx
        have HJB := Lib.hid (ints_below HB2.out hB)
        have HJA := Lib.hid (ints_below HA2.out hB)
        have B3 := bel_tr B2 hB
        clear hB
        have bb : ((D == 0) == (D == 0)) = true := by simp
        go_wp2_with fail
        refine (lback k _ _ gs _ HG.out HJB.out hm0 hmn).mono ?_
        rintro e u4 ⟨b4, c4, rfl, J4, C4⟩
        have B4 := bel_tr B3 C4
        go_wp2_with fail
        refine (lback k _ _ ws _ HW.out (ints_below HJA.out C4) hm0 hmn).mono ?_
        rintro e u5 ⟨b5, c5, rfl, J5, C5⟩
        have B5 := bel_tr B4 C5
        go_wp2_with fail
        refine (idistN k _ _ _ _ gs.reverse ws.reverse _ (by rw [List.length_reverse]; exact HG.out) (by rw [List.length_reverse]; exact HW.out) (ints_below J4 C5) J5 hmn).mono ?_
        rintro e w' ⟨rfl, rfl⟩
        rw [dist_rev (by rw [HG.out, HW.out]), HD.out]
        go_wp2_with fail
        go_ret
        exact ⟨ret_bool (by simp), B5⟩

set_option maxRecDepth 100000 in
theorem lifted (os : Os) (started : os.Started) (H : Type) (enc : TypeId × Value → H) :
    ReturnsInHanded {} Try.checked os 16 .any (Rows.fnDistanceOfSpec.pre6 enc Try.prog Try.f16 Rows.fnDistanceOfRow.domain false) (Rows.fnDistanceOfSpec.post enc Try.prog Try.f16 false true false false) := by
  refine returnsInHanded_of_change (C := Try.checked) own started (by kernel_rfl) Try.func16
    (ChangeSpec.witness6 (enc := enc) (C := Try.checked) false ⟨#[], #[.slice none 0 0], []⟩ 8 (by kernel_rfl) (by kernel_rfl) (by kernel_rfl) (by kernel_rfl)) ?_
  intro W base args ds gs before hval0 hW hcnd _
  have hval : ∀ (j : Nat) t v, Try.f16.params[j]? = some t → args[j]? = some v → Value.okWide Try.prog W .any base t v := hval0
  have hW' := hW
  obtain ⟨p, q, hA0, hV, rfl, hfz, hnd⟩ := hW
  have hA : DataW.TrodAll enc Try.prog W 0 (fun _ => true) true Try.f16.params.toList args.toList ds p := hA0
  rw [Try.params16] at hA hval
  obtain ⟨v0, vs0, e0, es0, p0, q0, hargs, rfl, rfl, h0, r0⟩ := trodAll_cons hA
  obtain ⟨rfl, rfl, rfl⟩ := trodAll_nil r0
  obtain rfl : args = #[v0] := by cases args; simp_all
  obtain ⟨rfl, rfl⟩ := trodVars_none hV
  have k0 := h0
  have lt0 : ∀ x ∈ p0, x.block < W.heap.size := by obtain ⟨m, hm⟩ := k0; exact DataW.trod_lt m _ _ _ hm
  obtain ⟨a0, len0, cap0, rfl⟩ := okWide_slice Try.underlying30 (hval 0 30 v0 rfl rfl)
  obtain ⟨z0, w0⟩ : ∃ zs, IsRow .u8 W a0 len0 cap0 zs := by
    obtain ⟨fuel, hf⟩ := h0
    rcases open_ints Try.underlying30 Try.underlying5 (by kernel_rfl) hf with ⟨hcs, _⟩ | ⟨x, l, c, zs, hcs, _, hl, hm, hz, _, hcell, hwz⟩
    · simp [Value.cells] at hcs
      obtain ⟨rfl, rfl, rfl⟩ := hcs
      exact ⟨[], .inl ⟨rfl, rfl, rfl, rfl⟩⟩
    · simp [Value.cells] at hcs
      obtain ⟨rfl, rfl, rfl⟩ := hcs
      exact ⟨zs, .inr ⟨_, rfl, hl, hm, by simpa using hz, hcell, hwz⟩⟩
  clear hA0 hval0
  refine (walk a0 len0 cap0 z0 W w0).mono fun e W' ⟨he, bel⟩ => ?_
  subst he
  exact ⟨_, rfl, _, _, _, [], _, [], hW', trodAll_mk1 (shut_bool Try.underlying4 _), (trodAll_cons_mk (Below.trod laidOut (by kernel_rfl) (of_decide_eq_true (by kernel_rfl)) k0 bel lt0) trodAll_mk0), rfl, bel.frame _, fun h => by cases h⟩

theorem over : Rows.fnDistanceOfRow.holds Try.pinned (OpenSpec.ofChange Rows.fnDistanceOfSpec) :=
  OpenClaim.holds_of_wide 16 Try.f16 rfl rfl rfl rfl rfl rfl rfl ⟨rfl, rfl, rfl, rfl, rfl⟩ rfl rfl rfl rfl rfl (by kernel_rfl) Try.func16 (by kernel_rfl)
    (of_decide_eq_true (by kernel_rfl)) (by unfold Func.isWrapper; first | (rw [if_pos (by decide +kernel)]; kernel_rfl) | (rw [if_neg (by decide +kernel)]; exact ⟨rfl, rfl⟩))
    (fun os started H enc _ => lifted os started H enc)

end Go.Proofs.Ytlellobigckolaa.fnDistanceOf
namespace Go.Proofs.Ytlellobigckolaa
/-- the statement -/
theorem fnDistanceOf_holds : Rows.FnDistanceOfSaid := fnDistanceOf.over
end Go.Proofs.Ytlellobigckolaa
