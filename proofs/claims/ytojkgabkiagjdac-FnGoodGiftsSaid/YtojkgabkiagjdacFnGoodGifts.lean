/- For every input the law answers true, and its argument reads afterwards as before: gifts can be given back. No condition. -/
import Derived.Test.YtojkgabkiagjdacRows
import Derived.Test.YtojkgabkiagjdacDrawCg
import Derived.Test.YtojkgabkiagjdacLawCl
import Derived.Test.YtojkgabkiagjdacClmX
import Derived.Test.YtojkgabkiagjdacClmF
import Derived.WalkKit
import Derived.Deep.RegionHeld3
import Derived.Deep.QuietTactic
import Derived.BigQuiet
import Derived.RegionTactic
import Derived.ChangeAlike
import Derived.BigRegion
import Derived.ProofKit
import Derived.OpenShut
import Derived.ShutString
import Derived.ChangeOld
import Derived.Below
import Derived.Lib.SmallJoins
namespace Go.Proofs.Ytojkgabkiagjdac.fnGoodGifts
open Go.ChangeShapes Go.WideShapes Go.ChangeAt Go.RowKit Go.Joins
open Go.ChangeMaps (open_string shut_string)
set_option linter.unusedVariables false
set_option linter.unusedSimpArgs false

theorem own : ownKnob Try.prog.godebug = none := by kernel_rfl
theorem laidOut : laidOutB Try.prog = true := by kernel_rfl

set_option maxRecDepth 100000 in
set_option maxHeartbeats 8000000 in
theorem walk (a0 : Option Addr) (len0 cap0 : Nat) (z0 : List Int) (w : World) (w0 : IsRow .u8 w a0 len0 cap0 z0) :
    Calls Try.prog 10 #[.slice a0 len0 cap0] w fun e w' => e = .returned (.bool true) ∧ Below w.heap.size w w' := by
  by_cases big : (1048576 : Int) < (len0 : Int)
  · go_enter Try.func10, Try.ntmps10
    go_wp2
    go_ret
    exact ⟨rfl, Below.refl _ _⟩
  go_enter Try.func10, Try.ntmps10
  go_wp2_with fail
  refine (drawGoodGifts a0 len0 cap0 z0 _ w0).mono ?_
  rintro e u1 ⟨n, b1, c1, cs, b2, c2, gs, rfl, n0, n1, hl, hl2, hz, hz2, I1, I2, B⟩
  clear w0 big
  have hn : cs.length ≤ 1048576 := by omega
  have hn2 : gs.length ≤ 1048576 := by omega
  have CI := fun (W : World) (h1 : IsInts W b1 cs) (h2 : IsInts W b2 gs) => iGifts n b1 b2 c1 c2 cs gs W h1 h2 hn hn2
  have CS := fun (W : World) (h1 : IsInts W b1 cs) (h2 : IsInts W b2 gs) => sGifts n b1 b2 c1 c2 cs gs W h1 h2 hn hn2
  have HGZ := Lib.hid hz2
  clear hz hz2
  cases hg : ggB n cs gs with
  | false =>
    rw [hg] at CI CS
    have HI := Lib.hid CI
    have HS := Lib.hid CS
    clear CI CS hg
    go_wp2_with fail
    refine (HI.out _ I1 I2).mono ?_
    rintro e w' ⟨rfl, rfl⟩
    go_wp2_with fail
    refine (HS.out _ I1 I2).mono ?_
    rintro e u2_ ⟨rfl, C_⟩
    replace B := bel_tr B C_
    replace I1 := ints_below I1 C_
    replace I2 := ints_below I2 C_
    clear C_
    go_wp2_with fail
    refine (HS.out _ I1 I2).mono ?_
    rintro e u3_ ⟨rfl, C_⟩
    replace B := bel_tr B C_
    replace I1 := ints_below I1 C_
    replace I2 := ints_below I2 C_
    clear C_
    go_wp2_with fail
    go_ret
    exact ⟨rfl, B⟩
  | true =>
  rw [hg] at CI CS
  have HI := Lib.hid CI
  have HS := Lib.hid CS
  obtain ⟨hv, F⟩ := gg_is hg
  have hbk := gg_back hg
  have hvi := vc_iff.1 hv
  have hs := vc_bd hvi.1 hvi.2.1
  have CT := fun (W : World) (h : IsInts W b1 cs) => ltotal b1 c1 cs W h hn (all_bd hvi.1 (by omega))
  have lg : gs.length = cs.length := F.1
  have CL := fun (W : World) (h1 : IsInts W b1 cs) (h2 : IsInts W b2 gs) => llessW cs.length b1 b2 c1 c2 cs gs W h1 h2 rfl lg hn (fun i hi => by have := allB_get hvi.1 hi; omega) (fun i hi => by have := F.2.2 i hi; have := allB_get hvi.1 hi; omega)
  have lD := subZ_len cs gs
  generalize subZ cs gs = D at *
  obtain ⟨d, hd⟩ : ∃ d, cs.sum - n = d := ⟨_, rfl⟩
  have wd : IntKind.i64.wrap (cs.sum - n) = d := by rw [IntKind.wrap_i64]; omega
  rw [hd] at hbk
  generalize cs.sum = T at *
  have HT := Lib.hid CT
  have HLS : Hid (∀ (W : World), IsInts W b1 cs → IsInts W b2 gs → Calls Try.prog 36 #[.slice b1 cs.length c1, .slice b2 gs.length c2] W (OutI W D)) := fun W h1 h2 => by
    rw [lg]; exact CL W h1 h2
  have HGG : Hid (∀ (W : World) (b : Option Addr) (c : Nat), IsInts W b1 cs → IsInts W b D → Calls Try.prog 29 #[.int .i64 d, .slice b1 cs.length c1, .slice b D.length c] W fun e w' => e = .returned (.bool true) ∧ W = w') := fun W b c h1 h2 => by
    have := iGifts d b1 b c1 c cs D W h1 h2 hn (by omega)
    rw [hbk] at this
    exact this
  clear CI CS CT CL lg lD F hbk hvi hs hv hg hd
  go_wp2_with fail
  refine (HI.out _ I1 I2).mono ?_
  rintro e w' ⟨rfl, rfl⟩
  go_wp2_with fail
  refine (HS.out _ I1 I2).mono ?_
  rintro e u2_ ⟨rfl, C_⟩
  replace B := bel_tr B C_
  replace I1 := ints_below I1 C_
  replace I2 := ints_below I2 C_
  clear C_
  go_wp2_with fail
  refine (HT.out _ I1).mono ?_
  rintro e w' ⟨rfl, rfl⟩
  go_wp2_with fail
  refine (HLS.out _ I1 I2).mono ?_
  rintro e u3_ ⟨v5, rfl, O5, C_⟩
  obtain ⟨b5, c5, rfl, I5⟩ := O5.ints
  clear O5
  replace B := bel_tr B C_
  replace I1 := ints_below I1 C_
  replace I2 := ints_below I2 C_
  clear C_
  go_wp2_with fail
  refine (HGG.out _ _ _ I1 I5).mono ?_
  rintro e w' ⟨rfl, rfl⟩
  go_wp2_with fail
  go_ret
  exact ⟨rfl, B⟩

set_option maxRecDepth 100000 in
theorem lifted (os : Os) (started : os.Started) (H : Type) (enc : TypeId × Value → H) :
    ReturnsInHanded {} Try.checked os 10 .any (Rows.fnGoodGiftsSpec.pre6 enc Try.prog Try.f10 Rows.fnGoodGiftsRow.domain false) (Rows.fnGoodGiftsSpec.post enc Try.prog Try.f10 false true false false) := by
  refine returnsInHanded_of_change (C := Try.checked) own started (by kernel_rfl) Try.func10
    (ChangeSpec.witness6 (enc := enc) (C := Try.checked) false ⟨#[], #[.slice none 0 0], []⟩ 8 (by kernel_rfl) (by kernel_rfl) (by kernel_rfl) (by kernel_rfl)) ?_
  intro W base args ds gs before hval0 hW hcnd _
  have hval : ∀ (j : Nat) t v, Try.f10.params[j]? = some t → args[j]? = some v → Value.okWide Try.prog W .any base t v := hval0
  have hW' := hW
  obtain ⟨p, q, hA0, hV, rfl, hfz, hnd⟩ := hW
  have hA : DataW.TrodAll enc Try.prog W 0 (fun _ => true) true Try.f10.params.toList args.toList ds p := hA0
  rw [Try.params10] at hA hval
  obtain ⟨v0, vs0, e0, es0, p0, q0, hargs, rfl, rfl, h0, r0⟩ := trodAll_cons hA
  obtain ⟨rfl, rfl, rfl⟩ := trodAll_nil r0
  obtain rfl : args = #[v0] := by cases args; simp_all
  obtain ⟨rfl, rfl⟩ := trodVars_none hV
  have k0 := h0
  have lt0 : ∀ x ∈ p0, x.block < W.heap.size := by obtain ⟨m, hm⟩ := k0; exact DataW.trod_lt m _ _ _ hm
  obtain ⟨a0, len0, cap0, rfl⟩ := okWide_slice Try.underlying22 (hval 0 22 v0 rfl rfl)
  obtain ⟨z0, w0⟩ : ∃ zs, IsRow .u8 W a0 len0 cap0 zs := by
    obtain ⟨fuel, hf⟩ := h0
    rcases open_ints Try.underlying22 Try.underlying5 (by kernel_rfl) hf with ⟨hcs, _⟩ | ⟨x, l, c, zs, hcs, _, hl, hm, hz, _, hcell, hwz⟩
    · simp [Value.cells] at hcs
      obtain ⟨rfl, rfl, rfl⟩ := hcs
      exact ⟨[], .inl ⟨rfl, rfl, rfl, rfl⟩⟩
    · simp [Value.cells] at hcs
      obtain ⟨rfl, rfl, rfl⟩ := hcs
      exact ⟨zs, .inr ⟨_, rfl, hl, hm, by simpa using hz, hcell, hwz⟩⟩
  clear hA0 hval0
  refine (walk a0 len0 cap0 z0 W w0).mono fun e W' ⟨he, bel⟩ => ?_
  subst he
  exact ⟨_, rfl, _, _, _, [], _, [], hW', trodAll_mk1 (shut_bool Try.underlying4 _), (trodAll_cons_mk (Below.trod laidOut (by kernel_rfl) (of_decide_eq_true (by kernel_rfl)) k0 bel lt0) trodAll_mk0), rfl, bel.frame _, fun h => by cases h⟩

theorem over : Rows.fnGoodGiftsRow.holds Try.pinned (OpenSpec.ofChange Rows.fnGoodGiftsSpec) :=
  OpenClaim.holds_of_wide 10 Try.f10 rfl rfl rfl rfl rfl rfl rfl ⟨rfl, rfl, rfl, rfl, rfl⟩ rfl rfl rfl rfl rfl (by kernel_rfl) Try.func10 (by kernel_rfl)
    (of_decide_eq_true (by kernel_rfl)) (by unfold Func.isWrapper; first | (rw [if_pos (by decide +kernel)]; kernel_rfl) | (rw [if_neg (by decide +kernel)]; exact ⟨rfl, rfl⟩))
    (fun os started H enc _ => lifted os started H enc)

end Go.Proofs.Ytojkgabkiagjdac.fnGoodGifts
namespace Go.Proofs.Ytojkgabkiagjdac
/-- the statement -/
theorem fnGoodGifts_holds : Rows.FnGoodGiftsSaid := fnGoodGifts.over
end Go.Proofs.Ytojkgabkiagjdac
