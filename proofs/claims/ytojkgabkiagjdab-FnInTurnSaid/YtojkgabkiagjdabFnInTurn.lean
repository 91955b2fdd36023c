/- For every input the law answers true, and its argument reads afterwards as before: first come, first served. No condition. -/
import Derived.Test.YtojkgabkiagjdabRows
import Derived.Test.YtojkgabkiagjdabDrawCo
import Derived.Test.YtojkgabkiagjdabLawCl
import Derived.Test.YtojkgabkiagjdabClmY
import Derived.Test.YtojkgabkiagjdabClmF
import Derived.WalkKit
import Derived.Deep.RegionHeld3
import Derived.Deep.QuietTactic
import Derived.BigQuiet
import Derived.RegionTactic
import Derived.ChangeAlike
import Derived.BigRegion
import Derived.ProofKit
import Derived.OpenShut
import Derived.ShutString
import Derived.ChangeOld
import Derived.Below
import Derived.Lib.SmallJoins
namespace Go.Proofs.Ytojkgabkiagjdab.fnInTurn
open Go.ChangeShapes Go.WideShapes Go.ChangeAt Go.RowKit Go.Joins
open Go.ChangeMaps (open_string shut_string)
set_option linter.unusedVariables false
set_option linter.unusedSimpArgs false

theorem own : ownKnob Try.prog.godebug = none := by kernel_rfl
theorem laidOut : laidOutB Try.prog = true := by kernel_rfl
/-- whether the first k of an order are met -/
def metB (V cs os : List Int) : Nat → Bool
  | 0 => true
  | k + 1 => metB V cs os k && (V.getD (os.getD k 0).toNat 0 == cs.getD (os.getD k 0).toNat 0)
theorem met_no {V cs os : List Int} : ∀ {k : Nat}, metB V cs os k = false → ∃ j, j < k ∧ V.getD (os.getD j 0).toNat 0 ≠ cs.getD (os.getD j 0).toNat 0 := by
  intro k
  induction k with
  | zero => intro h; cases h
  | succ k ih =>
    intro h
    have h' : (metB V cs os k && (V.getD (os.getD k 0).toNat 0 == cs.getD (os.getD k 0).toNat 0)) = false := h
    rw [Bool.and_eq_false_iff] at h'
    rcases h' with h' | h'
    · obtain ⟨j, hj, e⟩ := ih h'
      exact ⟨j, by omega, e⟩
    · exact ⟨k, by omega, beq_eq_false_iff_ne.1 h'⟩

set_option maxRecDepth 100000 in
set_option maxHeartbeats 8000000 in
theorem walk (a0 : Option Addr) (len0 cap0 : Nat) (z0 : List Int) (w : World) (w0 : IsRow .u8 w a0 len0 cap0 z0) :
    Calls Try.prog 12 #[.slice a0 len0 cap0] w fun e w' => e = .returned (.bool true) ∧ Below w.heap.size w w' := by
  by_cases big : (1048576 : Int) < (len0 : Int)
  · go_enter Try.func12, Try.ntmps12
    go_wp2
    go_ret
    exact ⟨rfl, Below.refl _ _⟩
  go_enter Try.func12, Try.ntmps12
  go_wp2_with fail
  refine (drawInTurn a0 len0 cap0 z0 _ w0).mono ?_
  rintro e u1 ⟨n, b1, c1, cs, b2, c2, os, rfl, n0, n1, hl, hz, hol, hob, hcp, I1, I2, B⟩
  clear w0 big
  have hn : cs.length ≤ 1048576 := by omega
  have hn2 : os.length ≤ 1048576 := by omega
  have HOL := Lib.hid hol
  clear hz hob hol
  obtain ⟨V, hV⟩ : ∃ V, inV n cs os = V := ⟨_, rfl⟩
  have hVl : V.length ≤ 1048576 := by rw [← hV]; exact (by cases hb : itB n cs os with | false => (rw [inV_no hb]; simp) | true => (rw [inV_yes hb, turnV_len]; exact hn))
  have HF : Hid (∀  (W : World), (h1 : IsInts W b1 cs) → (h2 : IsInts W b2 os) → Calls Try.prog 36 #[.int .i64 n, .slice b1 cs.length c1, .slice b2 os.length c2] W (OutI W V)) := fun  W h1 h2 => by rw [← hV]; exact iInTurn n b1 b2 c1 c2 os.length cs os W h1 h2 hn rfl hn2
  have HS : Hid (∀  (W : World), (h1 : IsInts W b1 cs) → (h2 : IsInts W b2 os) → Calls Try.prog 37 #[.int .i64 n, .slice b1 cs.length c1, .slice b2 os.length c2] W (OutI W V)) := fun  W h1 h2 => by rw [← hV]; exact sInTurn n b1 b2 c1 c2 os.length cs os W h1 h2 hn rfl hn2 hcp
  have HQ : Hid (∀ (b : Option Addr) (b' : Option Addr) (c : Nat) (c' : Nat) (W : World), (h1 : IsInts W b V) → (h2 : IsInts W b' V) → Calls Try.prog 19 #[.slice b V.length c, .slice b' V.length c'] W (fun e w' => e = .returned (.bool true) ∧ Below W.heap.size W w')) := fun b b' c c' W h1 h2 => eqInts b b' c c' V W h1 h2 hVl
  by_cases hz : V.length = 0
  · have z1 : ((V.length : Int) == 0) = true := by rw [beq_iff_eq]; omega
    have z2 : (V.length : Int) = 0 := by omega
    clear hV hz
    go_wp2_with fail
    refine (HF.out _ I1 I2).mono ?_
    rintro e u2_ ⟨v3, rfl, O3, C_⟩
    obtain ⟨b3, c3, rfl, I3⟩ := O3.ints
    clear O3
    replace B := bel_tr B C_
    replace I1 := ints_below I1 C_
    replace I2 := ints_below I2 C_
    clear C_
    go_wp2_with fail
    refine (HS.out _ I1 I2).mono ?_
    rintro e u3_ ⟨v4, rfl, O4, C_⟩
    obtain ⟨b4, c4, rfl, I4⟩ := O4.ints
    clear O4
    replace B := bel_tr B C_
    replace I1 := ints_below I1 C_
    replace I2 := ints_below I2 C_
    replace I3 := ints_below I3 C_
    clear C_
    go_wp2_with fail
    refine (HQ.out _ _ _ _ _ I3 I4).mono ?_
    rintro e u4_ ⟨rfl, C_⟩
    replace B := bel_tr B C_
    replace I1 := ints_below I1 C_
    replace I2 := ints_below I2 C_
    replace I3 := ints_below I3 C_
    replace I4 := ints_below I4 C_
    clear C_
    go_wp2_with fail
    clear I4
    refine (HS.out _ I1 I2).mono ?_
    rintro e u5_ ⟨v5, rfl, O5, C_⟩
    obtain ⟨b5, c5, rfl, I5⟩ := O5.ints
    clear O5
    replace B := bel_tr B C_
    replace I1 := ints_below I1 C_
    replace I2 := ints_below I2 C_
    replace I3 := ints_below I3 C_
    clear C_
    go_wp2_with fail
    refine (HQ.out _ _ _ _ _ I3 I5).mono ?_
    rintro e u6_ ⟨rfl, C_⟩
    replace B := bel_tr B C_
    replace I1 := ints_below I1 C_
    replace I2 := ints_below I2 C_
    replace I3 := ints_below I3 C_
    replace I5 := ints_below I5 C_
    clear C_
    go_wp2_with fail
    go_ret
    exact ⟨rfl, B⟩
  have z1 : ((V.length : Int) == 0) = false := by rw [beq_eq_false_iff_ne]; omega
  have z2 : ¬ (V.length : Int) = 0 := by omega
  have hh : itB n cs os = true := by
    cases hb : itB n cs os with
    | false => exact absurd (by rw [← hV, inV_no hb]; rfl) hz
    | true => rfl
  have hVT : turnV n cs os = V := by rw [← hV, inV_yes hh]
  have hvc := (it_is hh).1
  obtain ⟨o1, o2, o3⟩ := (ordB_iff _ os).1 (it_is hh).2
  have hlv : V.length = cs.length := by rw [← hVT]; exact turnV_len _ _ _
  have F := turn_good hh
  have FF := fun i k (hik : i < k) (hk : k < os.length) (hm : (turnV n cs os).getD (os.getD i 0).toNat 0 ≠ cs.getD (os.getD i 0).toNat 0) => turn_first hh hik hk hm
  rw [hVT] at F FF
  have HGG : Hid (∀ (W : World) (b : Option Addr) (c : Nat), IsInts W b1 cs → IsInts W b V → Calls Try.prog 21 #[.int .i64 n, .slice b1 cs.length c1, .slice b V.length c] W fun e w' => e = .returned (.bool true) ∧ W = w') := fun W b c h1 h2 => by
    have := iGifts n b1 b c1 c cs V W h1 h2 hn (by omega)
    rw [gg_yes hvc F] at this
    exact this
  have HOB := Lib.hid (fun k (hk : k < os.length) => o3 _ (getD_mem hk))
  have HFF : Hid (∀ k, k < os.length → metB V cs os k = false → V.getD (os.getD k 0).toNat 0 = 0) := fun k hk hm => by
    obtain ⟨j, hj, e⟩ := met_no hm
    exact FF j k hj hk e
  have HLV := Lib.hid hlv
  clear F FF hV hVT hlv hh hvc o1 o2 o3 hz
  go_wp2_with fail
  refine (HF.out _ I1 I2).mono ?_
  rintro e u2_ ⟨v3, rfl, O3, C_⟩
  obtain ⟨b3, c3, rfl, I3⟩ := O3.ints
  clear O3
  replace B := bel_tr B C_
  replace I1 := ints_below I1 C_
  replace I2 := ints_below I2 C_
  clear C_
  go_wp2_with fail
  refine (HS.out _ I1 I2).mono ?_
  rintro e u3_ ⟨v4, rfl, O4, C_⟩
  obtain ⟨b4, c4, rfl, I4⟩ := O4.ints
  clear O4
  replace B := bel_tr B C_
  replace I1 := ints_below I1 C_
  replace I2 := ints_below I2 C_
  replace I3 := ints_below I3 C_
  clear C_
  go_wp2_with fail
  refine (HQ.out _ _ _ _ _ I3 I4).mono ?_
  rintro e u4_ ⟨rfl, C_⟩
  replace B := bel_tr B C_
  replace I1 := ints_below I1 C_
  replace I2 := ints_below I2 C_
  replace I3 := ints_below I3 C_
  replace I4 := ints_below I4 C_
  clear C_
  go_wp2_with fail
  clear I4
  have HI1 := Lib.hid I1
  have HI2 := Lib.hid I2
  have HI3 := Lib.hid I3
  have HB0 := Lib.hid B
  clear B I1 I2 I3 HQ HS HF
  go_loopw [7, 8] (fun mt i wr => ∃ k : Nat, k ≤ os.length ∧ i = .int .i64 k ∧ mt = .bool (metB V cs os k) ∧ Below u4_.heap.size u4_ wr) (fun _ i _ => os.length - (intOf i).toNat)
  case atStart => exact ⟨0, Nat.zero_le _, rfl, rfl, Below.refl _ _⟩
  case round =>
    obtain ⟨i, hi, rfl, rfl, hB⟩ := hrel
    by_cases hlt : i < os.length
    · have i0 : (0 : Int) ≤ (i : Int) := by omega
      have i1 : (i : Int) < (os.length : Int) := by omega
      obtain ⟨q0, q1⟩ := HOB.out i hlt
      obtain ⟨q, hq⟩ : ∃ q : Nat, os.getD i 0 = (q : Int) := ⟨(os.getD i 0).toNat, by omega⟩
      have hqc : q < cs.length := by omega
      have hqv : q < V.length := by have := HLV.out; omega
      obtain ⟨gc, oc, rfl, h1⟩ := ints_openL HI1.out (by omega)
      obtain ⟨go, oo, rfl, h2⟩ := ints_openL HI2.out (by omega)
      obtain ⟨gv, ov, rfl, h3⟩ := ints_openL HI3.out (by omega)
      have x0 := cell_nowL (h2 i hlt) hB
      have x1 := cell_nowL (h1 q hqc) hB
      have x2 := cell_nowL (h3 q hqv) hB
      rw [hq] at x0
      have k0 : (0 : Int) ≤ (q : Int) := by omega
      have k1 : (q : Int) < (cs.length : Int) := by omega
      have k2 : (q : Int) < (V.length : Int) := by omega
      have HM1 : Hid (metB V cs os (i + 1) = (metB V cs os i && (V.getD q 0 == cs.getD q 0))) := by
        show (metB V cs os i && _) = _
        rw [hq, show ((q : Int)).toNat = q by omega]
      have hff := HFF.out i hlt
      rw [hq, show ((q : Int)).toNat = q by omega] at hff
      clear h1 h2 h3 hqc hqv hq q0 q1
      cases hmt : metB V cs os i with
      | false =>
        have hx := hff hmt
        rw [hx] at x2
        have HM2 : Hid (metB V cs os (i + 1) = false) := by show _ = _; rw [HM1.out, hmt]; rfl
        clear HM1 hff hx
        generalize cs.getD q 0 = y at *
        go_wp2_with fail
        go_quiet (fail)
        go_wp2
        go_roundw
        case rel => exact ⟨i + 1, by omega, by go_num, by rw [HM2.out], below_drewN hB _⟩
        case measure => simp [intOf]; omega
      | true =>
        generalize cs.getD q 0 = y at *
        generalize V.getD q 0 = x at *
        clear hff
        by_cases hxy : x = y
        · have e1 : (x == y) = true := by rw [beq_iff_eq]; exact hxy
          have HM2 : Hid (metB V cs os (i + 1) = true) := by show _ = _; rw [HM1.out, hmt, e1]; rfl
          clear HM1 hxy
          go_wp2_with fail
          go_quiet (fail)
          go_wp2
          go_roundw
          case rel => exact ⟨i + 1, by omega, by go_num, by rw [HM2.out], below_drewN hB _⟩
          case measure => simp [intOf]; omega
        · have e1 : (x == y) = false := by rw [beq_eq_false_iff_ne]; exact hxy
          have HM2 : Hid (metB V cs os (i + 1) = false) := by show _ = _; rw [HM1.out, hmt, e1]; rfl
          clear HM1
          go_wp2_with fail
          go_quiet (fail)
          go_wp2
          go_roundw
          case rel => exact ⟨i + 1, by omega, by go_num, by rw [HM2.out], below_drewN hB _⟩
          case measure => simp [intOf]; omega
    · obtain rfl : i = os.length := by omega
      have B := bel_tr HB0.out hB
      have I1 := ints_below HI1.out hB
      have I3 := ints_below HI3.out hB
      go_wp2_with fail
      refine (HGG.out _ _ _ I1 I3).mono ?_
      rintro e w' ⟨rfl, rfl⟩
      go_wp2_with fail
      go_ret
      exact ⟨rfl, B⟩

set_option maxRecDepth 100000 in
theorem lifted (os : Os) (started : os.Started) (H : Type) (enc : TypeId × Value → H) :
    ReturnsInHanded {} Try.checked os 12 .any (Rows.fnInTurnSpec.pre6 enc Try.prog Try.f12 Rows.fnInTurnRow.domain false) (Rows.fnInTurnSpec.post enc Try.prog Try.f12 false true false false) := by
  refine returnsInHanded_of_change (C := Try.checked) own started (by kernel_rfl) Try.func12
    (ChangeSpec.witness6 (enc := enc) (C := Try.checked) false ⟨#[], #[.slice none 0 0], []⟩ 8 (by kernel_rfl) (by kernel_rfl) (by kernel_rfl) (by kernel_rfl)) ?_
  intro W base args ds gs before hval0 hW hcnd _
  have hval : ∀ (j : Nat) t v, Try.f12.params[j]? = some t → args[j]? = some v → Value.okWide Try.prog W .any base t v := hval0
  have hW' := hW
  obtain ⟨p, q, hA0, hV, rfl, hfz, hnd⟩ := hW
  have hA : DataW.TrodAll enc Try.prog W 0 (fun _ => true) true Try.f12.params.toList args.toList ds p := hA0
  rw [Try.params12] at hA hval
  obtain ⟨v0, vs0, e0, es0, p0, q0, hargs, rfl, rfl, h0, r0⟩ := trodAll_cons hA
  obtain ⟨rfl, rfl, rfl⟩ := trodAll_nil r0
  obtain rfl : args = #[v0] := by cases args; simp_all
  obtain ⟨rfl, rfl⟩ := trodVars_none hV
  have k0 := h0
  have lt0 : ∀ x ∈ p0, x.block < W.heap.size := by obtain ⟨m, hm⟩ := k0; exact DataW.trod_lt m _ _ _ hm
  obtain ⟨a0, len0, cap0, rfl⟩ := okWide_slice Try.underlying22 (hval 0 22 v0 rfl rfl)
  obtain ⟨z0, w0⟩ : ∃ zs, IsRow .u8 W a0 len0 cap0 zs := by
    obtain ⟨fuel, hf⟩ := h0
    rcases open_ints Try.underlying22 Try.underlying5 (by kernel_rfl) hf with ⟨hcs, _⟩ | ⟨x, l, c, zs, hcs, _, hl, hm, hz, _, hcell, hwz⟩
    · simp [Value.cells] at hcs
      obtain ⟨rfl, rfl, rfl⟩ := hcs
      exact ⟨[], .inl ⟨rfl, rfl, rfl, rfl⟩⟩
    · simp [Value.cells] at hcs
      obtain ⟨rfl, rfl, rfl⟩ := hcs
      exact ⟨zs, .inr ⟨_, rfl, hl, hm, by simpa using hz, hcell, hwz⟩⟩
  clear hA0 hval0
  refine (walk a0 len0 cap0 z0 W w0).mono fun e W' ⟨he, bel⟩ => ?_
  subst he
  exact ⟨_, rfl, _, _, _, [], _, [], hW', trodAll_mk1 (shut_bool Try.underlying4 _), (trodAll_cons_mk (Below.trod laidOut (by kernel_rfl) (of_decide_eq_true (by kernel_rfl)) k0 bel lt0) trodAll_mk0), rfl, bel.frame _, fun h => by cases h⟩

theorem over : Rows.fnInTurnRow.holds Try.pinned (OpenSpec.ofChange Rows.fnInTurnSpec) :=
  OpenClaim.holds_of_wide 12 Try.f12 rfl rfl rfl rfl rfl rfl rfl ⟨rfl, rfl, rfl, rfl, rfl⟩ rfl rfl rfl rfl rfl (by kernel_rfl) Try.func12 (by kernel_rfl)
    (of_decide_eq_true (by kernel_rfl)) (by unfold Func.isWrapper; first | (rw [if_pos (by decide +kernel)]; kernel_rfl) | (rw [if_neg (by decide +kernel)]; exact ⟨rfl, rfl⟩))
    (fun os started H enc _ => lifted os started H enc)

end Go.Proofs.Ytojkgabkiagjdab.fnInTurn
namespace Go.Proofs.Ytojkgabkiagjdab
/-- the statement -/
theorem fnInTurn_holds : Rows.FnInTurnSaid := fnInTurn.over
end Go.Proofs.Ytojkgabkiagjdab
