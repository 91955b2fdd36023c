/- For every input the law answers true, and its argument reads afterwards as before: more units take nothing away. No condition. -/
import Derived.Test.YtojkgabkiagjdabRows
import Derived.Test.YtojkgabkiagjdabDrawCl
import Derived.Test.YtojkgabkiagjdabLawCl
import Derived.Test.YtojkgabkiagjdabClmS
import Derived.Test.YtojkgabkiagjdabClmF
import Derived.WalkKit
import Derived.Deep.RegionHeld3
import Derived.Deep.QuietTactic
import Derived.BigQuiet
import Derived.RegionTactic
import Derived.ChangeAlike
import Derived.BigRegion
import Derived.ProofKit
import Derived.OpenShut
import Derived.ShutString
import Derived.ChangeOld
import Derived.Below
import Derived.Lib.SmallJoins
namespace Go.Proofs.Ytojkgabkiagjdab.fnEqualGainsMore
open Go.ChangeShapes Go.WideShapes Go.ChangeAt Go.RowKit Go.Joins
open Go.ChangeMaps (open_string shut_string)
set_option linter.unusedVariables false
set_option linter.unusedSimpArgs false

theorem own : ownKnob Try.prog.godebug = none := by kernel_rfl
theorem laidOut : laidOutB Try.prog = true := by kernel_rfl

set_option maxRecDepth 100000 in
set_option maxHeartbeats 8000000 in
theorem walk (a0 : Option Addr) (len0 cap0 : Nat) (z0 : List Int) (w : World) (w0 : IsRow .u8 w a0 len0 cap0 z0) :
    Calls Try.prog 6 #[.slice a0 len0 cap0] w fun e w' => e = .returned (.bool true) ∧ Below w.heap.size w w' := by
  by_cases big : (1048576 : Int) < (len0 : Int)
  · go_enter Try.func6, Try.ntmps6
    go_wp2
    go_ret
    exact ⟨rfl, Below.refl _ _⟩
  go_enter Try.func6, Try.ntmps6
  go_wp2_with fail
  refine (drawEqualGains a0 len0 cap0 z0 _ w0).mono ?_
  rintro e u1 ⟨n, b1, c1, cs, rfl, n0, n1, hl, hz, I1, B⟩
  clear w0 big
  have hn : cs.length ≤ 1048576 := by omega
  have HZ := Lib.hid hz
  clear hz
  obtain ⟨V, hV⟩ : ∃ V, gainV n cs = V := ⟨_, rfl⟩
  have hVl : V.length ≤ 1048576 := by rw [← hV]; exact (by cases hb : vcB n cs with | false => (rw [gain_no hb]; simp) | true => (rw [gain_len hb]; exact hn))
  have HF : Hid (∀  (W : World), (h1 : IsInts W b1 cs) → Calls Try.prog 18 #[.int .i64 n, .slice b1 cs.length c1] W (OutI W V)) := fun  W h1 => by rw [← hV]; exact iGains n b1 c1 cs W h1 hn
  have HS : Hid (∀  (W : World), (h1 : IsInts W b1 cs) → Calls Try.prog 20 #[.int .i64 n, .slice b1 cs.length c1] W (OutI W V)) := fun  W h1 => by rw [← hV]; exact sGains n b1 c1 cs W h1 hn
  have HQ : Hid (∀ (b : Option Addr) (b' : Option Addr) (c : Nat) (c' : Nat) (W : World), (h1 : IsInts W b V) → (h2 : IsInts W b' V) → Calls Try.prog 19 #[.slice b V.length c, .slice b' V.length c'] W (fun e w' => e = .returned (.bool true) ∧ Below W.heap.size W w')) := fun b b' c c' W h1 h2 => eqInts b b' c c' V W h1 h2 hVl
  have CV := fun (W : World) (h : IsInts W b1 cs) => iVC n b1 c1 cs W h hn
  have CW := fun (W : World) (h : IsInts W b1 cs) => iVC (n + 1) b1 c1 cs W h hn
  have ws : IntKind.i64.wrap (n + 1) = n + 1 := by rw [IntKind.wrap_i64]; omega
  cases hw : vcB (n + 1) cs with
  | false =>
    rw [hw] at CW
    have HW := Lib.hid CW
    clear CV CW hw hV
    go_wp2_with fail
    refine (HF.out _ I1).mono ?_
    rintro e u2_ ⟨v2, rfl, O2, C_⟩
    obtain ⟨b2, c2, rfl, I2⟩ := O2.ints
    clear O2
    replace B := bel_tr B C_
    replace I1 := ints_below I1 C_
    clear C_
    go_wp2_with fail
    refine (HS.out _ I1).mono ?_
    rintro e u3_ ⟨v3, rfl, O3, C_⟩
    obtain ⟨b3, c3, rfl, I3⟩ := O3.ints
    clear O3
    replace B := bel_tr B C_
    replace I1 := ints_below I1 C_
    replace I2 := ints_below I2 C_
    clear C_
    go_wp2_with fail
    refine (HQ.out _ _ _ _ _ I2 I3).mono ?_
    rintro e u4_ ⟨rfl, C_⟩
    replace B := bel_tr B C_
    replace I1 := ints_below I1 C_
    replace I2 := ints_below I2 C_
    replace I3 := ints_below I3 C_
    clear C_
    go_wp2_with fail
    clear I3
    refine (HW.out _ I1).mono ?_
    rintro e w' ⟨rfl, rfl⟩
    go_wp2_with fail
    refine (HS.out _ I1).mono ?_
    rintro e u5_ ⟨v4, rfl, O4, C_⟩
    obtain ⟨b4, c4, rfl, I4⟩ := O4.ints
    clear O4
    replace B := bel_tr B C_
    replace I1 := ints_below I1 C_
    replace I2 := ints_below I2 C_
    clear C_
    go_wp2_with fail
    refine (HQ.out _ _ _ _ _ I2 I4).mono ?_
    rintro e u6_ ⟨rfl, C_⟩
    replace B := bel_tr B C_
    replace I1 := ints_below I1 C_
    replace I2 := ints_below I2 C_
    replace I4 := ints_below I4 C_
    clear C_
    go_wp2_with fail
    go_ret
    exact ⟨rfl, B⟩
  | true =>
  rw [hw] at CW
  have HW := Lib.hid CW
  clear CW
  cases hv : vcB n cs with
  | false =>
    rw [hv] at CV
    have HC := Lib.hid CV
    clear CV hw hv hV
    go_wp2_with fail
    refine (HF.out _ I1).mono ?_
    rintro e u2_ ⟨v2, rfl, O2, C_⟩
    obtain ⟨b2, c2, rfl, I2⟩ := O2.ints
    clear O2
    replace B := bel_tr B C_
    replace I1 := ints_below I1 C_
    clear C_
    go_wp2_with fail
    refine (HS.out _ I1).mono ?_
    rintro e u3_ ⟨v3, rfl, O3, C_⟩
    obtain ⟨b3, c3, rfl, I3⟩ := O3.ints
    clear O3
    replace B := bel_tr B C_
    replace I1 := ints_below I1 C_
    replace I2 := ints_below I2 C_
    clear C_
    go_wp2_with fail
    refine (HQ.out _ _ _ _ _ I2 I3).mono ?_
    rintro e u4_ ⟨rfl, C_⟩
    replace B := bel_tr B C_
    replace I1 := ints_below I1 C_
    replace I2 := ints_below I2 C_
    replace I3 := ints_below I3 C_
    clear C_
    go_wp2_with fail
    clear I3
    refine (HW.out _ I1).mono ?_
    rintro e w' ⟨rfl, rfl⟩
    go_wp2_with fail
    refine (HC.out _ I1).mono ?_
    rintro e w' ⟨rfl, rfl⟩
    go_wp2_with fail
    refine (HS.out _ I1).mono ?_
    rintro e u5_ ⟨v4, rfl, O4, C_⟩
    obtain ⟨b4, c4, rfl, I4⟩ := O4.ints
    clear O4
    replace B := bel_tr B C_
    replace I1 := ints_below I1 C_
    replace I2 := ints_below I2 C_
    clear C_
    go_wp2_with fail
    refine (HQ.out _ _ _ _ _ I2 I4).mono ?_
    rintro e u6_ ⟨rfl, C_⟩
    replace B := bel_tr B C_
    replace I1 := ints_below I1 C_
    replace I2 := ints_below I2 C_
    replace I4 := ints_below I4 C_
    clear C_
    go_wp2_with fail
    go_ret
    exact ⟨rfl, B⟩
  | true =>
  rw [hv] at CV
  have HC := Lib.hid CV
  clear CV
  obtain ⟨q, hq, hone⟩ := gain_next hv hw
  have F1 := gain_fair hv
  have F2 := gain_fair hw
  have hcb := fun i (hi : i < cs.length) => allB_get (vc_iff.1 hv).1 hi
  have CF2 := fun (W : World) (h : IsInts W b1 cs) => iGains (n + 1) b1 c1 cs W h hn
  rw [hV] at F1 hone
  generalize gainV (n + 1) cs = V2 at *
  have l2 : V2.length = cs.length := F2.1
  have l1 : V.length = cs.length := F1.1
  obtain ⟨D, hD⟩ : ∃ D, one1 cs.length q = D := ⟨_, rfl⟩
  have CL := fun (b : Option Addr) (c : Nat) (b' : Option Addr) (c' : Nat) (W : World) (h1 : IsInts W b V2) (h2 : IsInts W b' V) => llessW cs.length b b' c c' V2 V W h1 h2 l2 l1 hn (fun i hi => by have := F2.2.2.1 i hi; have := hcb i hi; omega) (fun i hi => by have := F1.2.2.1 i hi; have := hcb i hi; omega)
  rw [hone, hD] at CL
  have lD : D.length = cs.length := by rw [← hD, one1_len]
  have db : ∀ i, 0 ≤ D.getD i 0 ∧ D.getD i 0 ≤ 1 := fun i => by rw [← hD, one1_get hq]; split <;> omega
  have dz : ∀ z ∈ D, -1000000 ≤ z ∧ z ≤ 1000000 := fun z hz => by
    obtain ⟨i, hi, rfl⟩ := List.getElem_of_mem hz
    have := db i
    rw [List.getD_eq_getElem?_getD, List.getElem?_eq_getElem hi] at this
    simp only [Option.getD_some] at this
    omega
  have CT := fun (b : Option Addr) (c : Nat) (W : World) (h : IsInts W b D) => ltotal b c D W h (by omega) dz
  have CH := fun (b : Option Addr) (c : Nat) (W : World) (h : IsInts W b D) => lhighC D.length b c D W rfl h (by omega) (fun i _ => by have := db i; omega)
  have CN := fun (b : Option Addr) (c : Nat) (W : World) (h : IsInts W b D) => lcountC D.length b c D 0 W rfl h (by omega)
  rw [show D.sum = 1 by rw [← hD]; exact one1_sum hq] at CT
  rw [show hiTo D D.length = 1 by rw [lD, ← hD]; exact one1_hi hq] at CH
  rw [show cntTo D 0 D.length = (D.length : Int) - 1 by rw [lD, ← hD]; exact one1_cnt hq] at CN
  have wd : IntKind.i64.wrap ((D.length : Int) - 1) = (D.length : Int) - 1 := by rw [IntKind.wrap_i64]; omega
  have HF2 := Lib.hid CF2
  have HLS : Hid (∀ (W : World) (b : Option Addr) (c : Nat) (b' : Option Addr) (c' : Nat), IsInts W b V2 → IsInts W b' V → Calls Try.prog 25 #[.slice b V2.length c, .slice b' V.length c'] W (OutI W D)) := fun W b c b' c' h1 h2 => by
    rw [l2, l1]; exact CL b c b' c' W h1 h2
  have HT := Lib.hid CT
  have HH := Lib.hid CH
  have HN := Lib.hid CN
  clear CL CT CH CN CF2 F1 F2 hcb l1 l2 lD db dz hD hone hq hv hw hV
  go_wp2_with fail
  refine (HF.out _ I1).mono ?_
  rintro e u2_ ⟨v2, rfl, O2, C_⟩
  obtain ⟨b2, c2, rfl, I2⟩ := O2.ints
  clear O2
  replace B := bel_tr B C_
  replace I1 := ints_below I1 C_
  clear C_
  go_wp2_with fail
  refine (HS.out _ I1).mono ?_
  rintro e u3_ ⟨v3, rfl, O3, C_⟩
  obtain ⟨b3, c3, rfl, I3⟩ := O3.ints
  clear O3
  replace B := bel_tr B C_
  replace I1 := ints_below I1 C_
  replace I2 := ints_below I2 C_
  clear C_
  go_wp2_with fail
  refine (HQ.out _ _ _ _ _ I2 I3).mono ?_
  rintro e u4_ ⟨rfl, C_⟩
  replace B := bel_tr B C_
  replace I1 := ints_below I1 C_
  replace I2 := ints_below I2 C_
  replace I3 := ints_below I3 C_
  clear C_
  go_wp2_with fail
  clear I3
  refine (HW.out _ I1).mono ?_
  rintro e w' ⟨rfl, rfl⟩
  go_wp2_with fail
  refine (HC.out _ I1).mono ?_
  rintro e w' ⟨rfl, rfl⟩
  go_wp2_with fail
  refine (HF2.out _ I1).mono ?_
  rintro e u5_ ⟨v5, rfl, O5, C_⟩
  obtain ⟨b5, c5, rfl, I5⟩ := O5.ints
  clear O5
  replace B := bel_tr B C_
  replace I1 := ints_below I1 C_
  replace I2 := ints_below I2 C_
  clear C_
  go_wp2_with fail
  refine (HLS.out _ _ _ _ _ I5 I2).mono ?_
  rintro e u6_ ⟨v6, rfl, O6, C_⟩
  obtain ⟨b6, c6, rfl, I6⟩ := O6.ints
  clear O6
  replace B := bel_tr B C_
  replace I1 := ints_below I1 C_
  replace I2 := ints_below I2 C_
  replace I5 := ints_below I5 C_
  clear C_
  go_wp2_with fail
  refine (HT.out _ _ _ I6).mono ?_
  rintro e w' ⟨rfl, rfl⟩
  go_wp2_with fail
  refine (HH.out _ _ _ I6).mono ?_
  rintro e w' ⟨rfl, rfl⟩
  go_wp2_with fail
  refine (HN.out _ _ _ I6).mono ?_
  rintro e w' ⟨rfl, rfl⟩
  go_wp2_with fail
  go_ret
  exact ⟨rfl, B⟩

set_option maxRecDepth 100000 in
theorem lifted (os : Os) (started : os.Started) (H : Type) (enc : TypeId × Value → H) :
    ReturnsInHanded {} Try.checked os 6 .any (Rows.fnEqualGainsMoreSpec.pre6 enc Try.prog Try.f6 Rows.fnEqualGainsMoreRow.domain false) (Rows.fnEqualGainsMoreSpec.post enc Try.prog Try.f6 false true false false) := by
  refine returnsInHanded_of_change (C := Try.checked) own started (by kernel_rfl) Try.func6
    (ChangeSpec.witness6 (enc := enc) (C := Try.checked) false ⟨#[], #[.slice none 0 0], []⟩ 8 (by kernel_rfl) (by kernel_rfl) (by kernel_rfl) (by kernel_rfl)) ?_
  intro W base args ds gs before hval0 hW hcnd _
  have hval : ∀ (j : Nat) t v, Try.f6.params[j]? = some t → args[j]? = some v → Value.okWide Try.prog W .any base t v := hval0
  have hW' := hW
  obtain ⟨p, q, hA0, hV, rfl, hfz, hnd⟩ := hW
  have hA : DataW.TrodAll enc Try.prog W 0 (fun _ => true) true Try.f6.params.toList args.toList ds p := hA0
  rw [Try.params6] at hA hval
  obtain ⟨v0, vs0, e0, es0, p0, q0, hargs, rfl, rfl, h0, r0⟩ := trodAll_cons hA
  obtain ⟨rfl, rfl, rfl⟩ := trodAll_nil r0
  obtain rfl : args = #[v0] := by cases args; simp_all
  obtain ⟨rfl, rfl⟩ := trodVars_none hV
  have k0 := h0
  have lt0 : ∀ x ∈ p0, x.block < W.heap.size := by obtain ⟨m, hm⟩ := k0; exact DataW.trod_lt m _ _ _ hm
  obtain ⟨a0, len0, cap0, rfl⟩ := okWide_slice Try.underlying22 (hval 0 22 v0 rfl rfl)
  obtain ⟨z0, w0⟩ : ∃ zs, IsRow .u8 W a0 len0 cap0 zs := by
    obtain ⟨fuel, hf⟩ := h0
    rcases open_ints Try.underlying22 Try.underlying5 (by kernel_rfl) hf with ⟨hcs, _⟩ | ⟨x, l, c, zs, hcs, _, hl, hm, hz, _, hcell, hwz⟩
    · simp [Value.cells] at hcs
      obtain ⟨rfl, rfl, rfl⟩ := hcs
      exact ⟨[], .inl ⟨rfl, rfl, rfl, rfl⟩⟩
    · simp [Value.cells] at hcs
      obtain ⟨rfl, rfl, rfl⟩ := hcs
      exact ⟨zs, .inr ⟨_, rfl, hl, hm, by simpa using hz, hcell, hwz⟩⟩
  clear hA0 hval0
  refine (walk a0 len0 cap0 z0 W w0).mono fun e W' ⟨he, bel⟩ => ?_
  subst he
  exact ⟨_, rfl, _, _, _, [], _, [], hW', trodAll_mk1 (shut_bool Try.underlying4 _), (trodAll_cons_mk (Below.trod laidOut (by kernel_rfl) (of_decide_eq_true (by kernel_rfl)) k0 bel lt0) trodAll_mk0), rfl, bel.frame _, fun h => by cases h⟩

theorem over : Rows.fnEqualGainsMoreRow.holds Try.pinned (OpenSpec.ofChange Rows.fnEqualGainsMoreSpec) :=
  OpenClaim.holds_of_wide 6 Try.f6 rfl rfl rfl rfl rfl rfl rfl ⟨rfl, rfl, rfl, rfl, rfl⟩ rfl rfl rfl rfl rfl (by kernel_rfl) Try.func6 (by kernel_rfl)
    (of_decide_eq_true (by kernel_rfl)) (by unfold Func.isWrapper; first | (rw [if_pos (by decide +kernel)]; kernel_rfl) | (rw [if_neg (by decide +kernel)]; exact ⟨rfl, rfl⟩))
    (fun os started H enc _ => lifted os started H enc)

end Go.Proofs.Ytojkgabkiagjdab.fnEqualGainsMore
namespace Go.Proofs.Ytojkgabkiagjdab
/-- the statement -/
theorem fnEqualGainsMore_holds : Rows.FnEqualGainsMoreSaid := fnEqualGainsMore.over
end Go.Proofs.Ytojkgabkiagjdab
