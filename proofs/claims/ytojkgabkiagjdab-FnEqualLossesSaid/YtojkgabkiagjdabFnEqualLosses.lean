/- For every input the law answers true, and its argument reads afterwards as before: losses are gains of what is lacking. No condition. -/
import Derived.Test.YtojkgabkiagjdabRows
import Derived.Test.YtojkgabkiagjdabDrawCl
import Derived.Test.YtojkgabkiagjdabLawCl
import Derived.Test.YtojkgabkiagjdabClmS
import Derived.Test.YtojkgabkiagjdabClmF
import Derived.WalkKit
import Derived.Deep.RegionHeld3
import Derived.Deep.QuietTactic
import Derived.BigQuiet
import Derived.RegionTactic
import Derived.ChangeAlike
import Derived.BigRegion
import Derived.ProofKit
import Derived.OpenShut
import Derived.ShutString
import Derived.ChangeOld
import Derived.Below
import Derived.Lib.SmallJoins
namespace Go.Proofs.Ytojkgabkiagjdab.fnEqualLosses
open Go.ChangeShapes Go.WideShapes Go.ChangeAt Go.RowKit Go.Joins
open Go.ChangeMaps (open_string shut_string)
set_option linter.unusedVariables false
set_option linter.unusedSimpArgs false

theorem own : ownKnob Try.prog.godebug = none := by kernel_rfl
theorem laidOut : laidOutB Try.prog = true := by kernel_rfl

set_option maxRecDepth 100000 in
set_option maxHeartbeats 8000000 in
theorem walk (a0 : Option Addr) (len0 cap0 : Nat) (z0 : List Int) (w : World) (w0 : IsRow .u8 w a0 len0 cap0 z0) :
    Calls Try.prog 7 #[.slice a0 len0 cap0] w fun e w' => e = .returned (.bool true) ∧ Below w.heap.size w w' := by
  by_cases big : (1048576 : Int) < (len0 : Int)
  · go_enter Try.func7, Try.ntmps7
    go_wp2
    go_ret
    exact ⟨rfl, Below.refl _ _⟩
  go_enter Try.func7, Try.ntmps7
  go_wp2_with fail
  refine (drawEqualLosses a0 len0 cap0 z0 _ w0).mono ?_
  rintro e u1 ⟨n, b1, c1, cs, rfl, n0, n1, hl, hz, I1, B⟩
  clear w0 big
  have hn : cs.length ≤ 1048576 := by omega
  have HZ := Lib.hid hz
  clear hz
  obtain ⟨V, hV⟩ : ∃ V, lossV n cs = V := ⟨_, rfl⟩
  have hVl : V.length ≤ 1048576 := by rw [← hV]; exact (by cases hb : vcB n cs with | false => (rw [loss_no hb]; simp) | true => (rw [loss_len hb]; exact hn))
  have HF : Hid (∀  (W : World), (h1 : IsInts W b1 cs) → Calls Try.prog 24 #[.int .i64 n, .slice b1 cs.length c1] W (OutI W V)) := fun  W h1 => by rw [← hV]; exact iLosses n b1 c1 cs W h1 hn
  have HS : Hid (∀  (W : World), (h1 : IsInts W b1 cs) → Calls Try.prog 29 #[.int .i64 n, .slice b1 cs.length c1] W (OutI W V)) := fun  W h1 => by rw [← hV]; exact sLosses n b1 c1 cs W h1 hn
  have HQ : Hid (∀ (b : Option Addr) (b' : Option Addr) (c : Nat) (c' : Nat) (W : World), (h1 : IsInts W b V) → (h2 : IsInts W b' V) → Calls Try.prog 19 #[.slice b V.length c, .slice b' V.length c'] W (fun e w' => e = .returned (.bool true) ∧ Below W.heap.size W w')) := fun b b' c c' W h1 h2 => eqInts b b' c c' V W h1 h2 hVl
  have CV := fun (W : World) (h : IsInts W b1 cs) => iVC n b1 c1 cs W h hn
  cases hv : vcB n cs with
  | false =>
    rw [hv] at CV
    have HC := Lib.hid CV
    clear CV hv hV
    go_wp2_with fail
    refine (HF.out _ I1).mono ?_
    rintro e u2_ ⟨v2, rfl, O2, C_⟩
    obtain ⟨b2, c2, rfl, I2⟩ := O2.ints
    clear O2
    replace B := bel_tr B C_
    replace I1 := ints_below I1 C_
    clear C_
    go_wp2_with fail
    refine (HS.out _ I1).mono ?_
    rintro e u3_ ⟨v3, rfl, O3, C_⟩
    obtain ⟨b3, c3, rfl, I3⟩ := O3.ints
    clear O3
    replace B := bel_tr B C_
    replace I1 := ints_below I1 C_
    replace I2 := ints_below I2 C_
    clear C_
    go_wp2_with fail
    refine (HQ.out _ _ _ _ _ I2 I3).mono ?_
    rintro e u4_ ⟨rfl, C_⟩
    replace B := bel_tr B C_
    replace I1 := ints_below I1 C_
    replace I2 := ints_below I2 C_
    replace I3 := ints_below I3 C_
    clear C_
    go_wp2_with fail
    clear I3
    refine (HC.out _ I1).mono ?_
    rintro e w' ⟨rfl, rfl⟩
    go_wp2_with fail
    refine (HS.out _ I1).mono ?_
    rintro e u5_ ⟨v4, rfl, O4, C_⟩
    obtain ⟨b4, c4, rfl, I4⟩ := O4.ints
    clear O4
    replace B := bel_tr B C_
    replace I1 := ints_below I1 C_
    replace I2 := ints_below I2 C_
    clear C_
    go_wp2_with fail
    refine (HQ.out _ _ _ _ _ I2 I4).mono ?_
    rintro e u6_ ⟨rfl, C_⟩
    replace B := bel_tr B C_
    replace I1 := ints_below I1 C_
    replace I2 := ints_below I2 C_
    replace I4 := ints_below I4 C_
    clear C_
    go_wp2_with fail
    go_ret
    exact ⟨rfl, B⟩
  | true =>
  rw [hv] at CV
  have HC := Lib.hid CV
  clear CV
  have F := loss_good hv
  have hg := loss_gain hv
  rw [hV] at F hg
  have hlv : V.length = cs.length := F.1
  have hcb := fun i (hi : i < cs.length) => allB_get (vc_iff.1 hv).1 hi
  have hs := vc_bd (vc_iff.1 hv).1 (vc_iff.1 hv).2.1
  have hvt : vcB (cs.sum - n) cs.reverse = true := by rw [vc_rev]; exact vc_turn hv
  have F3 := gain_fair hvt
  have CT := fun (W : World) (h : IsInts W b1 cs) => ltotal b1 c1 cs W h hn (all_bd (vc_iff.1 hv).1 (by omega))
  have CR := fun (W : World) (h : IsInts W b1 cs) => lbackW b1 c1 cs W h hn
  have lR : cs.reverse.length = cs.length := List.length_reverse
  have rb : ∀ i, i < cs.reverse.length → cs.reverse.getD i 0 ≤ 500 := fun i hi => by rw [lR] at hi; rw [revZ_get cs hi]; exact (hcb _ (by omega)).2
  generalize cs.reverse = R at *
  obtain ⟨d, hd⟩ : ∃ d, cs.sum - n = d := ⟨_, rfl⟩
  have wd : IntKind.i64.wrap (cs.sum - n) = d := by rw [IntKind.wrap_i64]; have := vc_iff.1 hv; omega
  rw [hd] at hg hvt F3
  generalize cs.sum = T at *
  have CG := fun (b : Option Addr) (c : Nat) (W : World) (h : IsInts W b R) => iGains d b c R W h (by omega)
  generalize gainV d R = G at *
  have lG : G.length = cs.length := F3.1.trans lR
  have CB := fun (b : Option Addr) (c : Nat) (W : World) (h : IsInts W b G) => lbackW b c G W h (by omega)
  have lL : G.reverse.length = cs.length := by rw [List.length_reverse]; exact lG
  have lb : ∀ i, i < cs.length → -1000000 ≤ G.reverse.getD i 0 ∧ G.reverse.getD i 0 ≤ 1000000 := fun i hi => by
    rw [revZ_get G (by omega)]
    have x1 := F3.2.2.1 (G.length - 1 - i) (by omega)
    have x2 := rb (G.length - 1 - i) (by omega)
    omega
  generalize G.reverse = L at *
  have CL := fun (b : Option Addr) (c : Nat) (W : World) (h1 : IsInts W b1 cs) (h2 : IsInts W b L) => llessW cs.length b1 b c1 c cs L W h1 h2 rfl lL hn (fun i hi => by have := hcb i hi; omega) lb
  rw [← hg] at CL
  have HT := Lib.hid CT
  have HR := Lib.hid CR
  have HG := Lib.hid CG
  have HB := Lib.hid CB
  have HLS : Hid (∀ (W : World) (b : Option Addr) (c : Nat), IsInts W b1 cs → IsInts W b L → Calls Try.prog 25 #[.slice b1 cs.length c1, .slice b L.length c] W (OutI W V)) := fun W b c h1 h2 => by
    rw [lL]; exact CL b c W h1 h2
  have HGG : Hid (∀ (W : World) (b : Option Addr) (c : Nat), IsInts W b1 cs → IsInts W b V → Calls Try.prog 21 #[.int .i64 n, .slice b1 cs.length c1, .slice b V.length c] W fun e w' => e = .returned (.bool true) ∧ W = w') := fun W b c h1 h2 => by
    have := iGifts n b1 b c1 c cs V W h1 h2 hn (by omega)
    rw [gg_yes hv F] at this
    exact this
  clear F F3 hV hg hlv hcb hs hvt CT CR CG CB CL lR rb lG lL lb hd hv
  go_wp2_with fail
  refine (HF.out _ I1).mono ?_
  rintro e u2_ ⟨v2, rfl, O2, C_⟩
  obtain ⟨b2, c2, rfl, I2⟩ := O2.ints
  clear O2
  replace B := bel_tr B C_
  replace I1 := ints_below I1 C_
  clear C_
  go_wp2_with fail
  refine (HS.out _ I1).mono ?_
  rintro e u3_ ⟨v3, rfl, O3, C_⟩
  obtain ⟨b3, c3, rfl, I3⟩ := O3.ints
  clear O3
  replace B := bel_tr B C_
  replace I1 := ints_below I1 C_
  replace I2 := ints_below I2 C_
  clear C_
  go_wp2_with fail
  refine (HQ.out _ _ _ _ _ I2 I3).mono ?_
  rintro e u4_ ⟨rfl, C_⟩
  replace B := bel_tr B C_
  replace I1 := ints_below I1 C_
  replace I2 := ints_below I2 C_
  replace I3 := ints_below I3 C_
  clear C_
  go_wp2_with fail
  clear I3
  refine (HC.out _ I1).mono ?_
  rintro e w' ⟨rfl, rfl⟩
  go_wp2_with fail
  refine (HT.out _ I1).mono ?_
  rintro e w' ⟨rfl, rfl⟩
  go_wp2_with fail
  refine (HR.out _ I1).mono ?_
  rintro e u5_ ⟨v5, rfl, O5, C_⟩
  obtain ⟨b5, c5, rfl, I5⟩ := O5.ints
  clear O5
  replace B := bel_tr B C_
  replace I1 := ints_below I1 C_
  replace I2 := ints_below I2 C_
  clear C_
  go_wp2_with fail
  refine (HG.out _ _ _ I5).mono ?_
  rintro e u6_ ⟨v6, rfl, O6, C_⟩
  obtain ⟨b6, c6, rfl, I6⟩ := O6.ints
  clear O6
  replace B := bel_tr B C_
  replace I1 := ints_below I1 C_
  replace I2 := ints_below I2 C_
  replace I5 := ints_below I5 C_
  clear C_
  go_wp2_with fail
  clear I5
  refine (HB.out _ _ _ I6).mono ?_
  rintro e u7_ ⟨v7, rfl, O7, C_⟩
  obtain ⟨b7, c7, rfl, I7⟩ := O7.ints
  clear O7
  replace B := bel_tr B C_
  replace I1 := ints_below I1 C_
  replace I2 := ints_below I2 C_
  replace I6 := ints_below I6 C_
  clear C_
  go_wp2_with fail
  clear I6
  refine (HLS.out _ _ _ I1 I7).mono ?_
  rintro e u8_ ⟨v8, rfl, O8, C_⟩
  obtain ⟨b8, c8, rfl, I8⟩ := O8.ints
  clear O8
  replace B := bel_tr B C_
  replace I1 := ints_below I1 C_
  replace I2 := ints_below I2 C_
  replace I7 := ints_below I7 C_
  clear C_
  go_wp2_with fail
  clear I7
  refine (HQ.out _ _ _ _ _ I8 I2).mono ?_
  rintro e u9_ ⟨rfl, C_⟩
  replace B := bel_tr B C_
  replace I1 := ints_below I1 C_
  replace I2 := ints_below I2 C_
  replace I8 := ints_below I8 C_
  clear C_
  go_wp2_with fail
  refine (HGG.out _ _ _ I1 I2).mono ?_
  rintro e w' ⟨rfl, rfl⟩
  go_wp2_with fail
  go_ret
  exact ⟨rfl, B⟩

set_option maxRecDepth 100000 in
theorem lifted (os : Os) (started : os.Started) (H : Type) (enc : TypeId × Value → H) :
    ReturnsInHanded {} Try.checked os 7 .any (Rows.fnEqualLossesSpec.pre6 enc Try.prog Try.f7 Rows.fnEqualLossesRow.domain false) (Rows.fnEqualLossesSpec.post enc Try.prog Try.f7 false true false false) := by
  refine returnsInHanded_of_change (C := Try.checked) own started (by kernel_rfl) Try.func7
    (ChangeSpec.witness6 (enc := enc) (C := Try.checked) false ⟨#[], #[.slice none 0 0], []⟩ 8 (by kernel_rfl) (by kernel_rfl) (by kernel_rfl) (by kernel_rfl)) ?_
  intro W base args ds gs before hval0 hW hcnd _
  have hval : ∀ (j : Nat) t v, Try.f7.params[j]? = some t → args[j]? = some v → Value.okWide Try.prog W .any base t v := hval0
  have hW' := hW
  obtain ⟨p, q, hA0, hV, rfl, hfz, hnd⟩ := hW
  have hA : DataW.TrodAll enc Try.prog W 0 (fun _ => true) true Try.f7.params.toList args.toList ds p := hA0
  rw [Try.params7] at hA hval
  obtain ⟨v0, vs0, e0, es0, p0, q0, hargs, rfl, rfl, h0, r0⟩ := trodAll_cons hA
  obtain ⟨rfl, rfl, rfl⟩ := trodAll_nil r0
  obtain rfl : args = #[v0] := by cases args; simp_all
  obtain ⟨rfl, rfl⟩ := trodVars_none hV
  have k0 := h0
  have lt0 : ∀ x ∈ p0, x.block < W.heap.size := by obtain ⟨m, hm⟩ := k0; exact DataW.trod_lt m _ _ _ hm
  obtain ⟨a0, len0, cap0, rfl⟩ := okWide_slice Try.underlying22 (hval 0 22 v0 rfl rfl)
  obtain ⟨z0, w0⟩ : ∃ zs, IsRow .u8 W a0 len0 cap0 zs := by
    obtain ⟨fuel, hf⟩ := h0
    rcases open_ints Try.underlying22 Try.underlying5 (by kernel_rfl) hf with ⟨hcs, _⟩ | ⟨x, l, c, zs, hcs, _, hl, hm, hz, _, hcell, hwz⟩
    · simp [Value.cells] at hcs
      obtain ⟨rfl, rfl, rfl⟩ := hcs
      exact ⟨[], .inl ⟨rfl, rfl, rfl, rfl⟩⟩
    · simp [Value.cells] at hcs
      obtain ⟨rfl, rfl, rfl⟩ := hcs
      exact ⟨zs, .inr ⟨_, rfl, hl, hm, by simpa using hz, hcell, hwz⟩⟩
  clear hA0 hval0
  refine (walk a0 len0 cap0 z0 W w0).mono fun e W' ⟨he, bel⟩ => ?_
  subst he
  exact ⟨_, rfl, _, _, _, [], _, [], hW', trodAll_mk1 (shut_bool Try.underlying4 _), (trodAll_cons_mk (Below.trod laidOut (by kernel_rfl) (of_decide_eq_true (by kernel_rfl)) k0 bel lt0) trodAll_mk0), rfl, bel.frame _, fun h => by cases h⟩

theorem over : Rows.fnEqualLossesRow.holds Try.pinned (OpenSpec.ofChange Rows.fnEqualLossesSpec) :=
  OpenClaim.holds_of_wide 7 Try.f7 rfl rfl rfl rfl rfl rfl rfl ⟨rfl, rfl, rfl, rfl, rfl⟩ rfl rfl rfl rfl rfl (by kernel_rfl) Try.func7 (by kernel_rfl)
    (of_decide_eq_true (by kernel_rfl)) (by unfold Func.isWrapper; first | (rw [if_pos (by decide +kernel)]; kernel_rfl) | (rw [if_neg (by decide +kernel)]; exact ⟨rfl, rfl⟩))
    (fun os started H enc _ => lifted os started H enc)

end Go.Proofs.Ytojkgabkiagjdab.fnEqualLosses
namespace Go.Proofs.Ytojkgabkiagjdab
/-- the statement -/
theorem fnEqualLosses_holds : Rows.FnEqualLossesSaid := fnEqualLosses.over
end Go.Proofs.Ytojkgabkiagjdab
