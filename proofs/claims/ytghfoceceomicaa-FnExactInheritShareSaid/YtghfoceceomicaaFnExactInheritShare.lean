/- For every input the law answers true, and its arguments read afterwards as before: impl.InheritShare answers as its model. No condition. -/
import Derived.Test.YtghfoceceomicaaRows
import Derived.Test.YtghfoceceomicaaLawH
import Derived.Test.YtghfoceceomicaaInherS
import Derived.Test.YtghfoceceomicaaOpenH
import Derived.Test.YtghfoceceomicaaMarkS
import Derived.WalkKit
import Derived.ProofKit
import Derived.OpenShut
import Derived.ShutString
import Derived.ChangeOld
import Derived.Below
import Derived.Lib.SmallJoins
namespace Go.Proofs.Ytghfoceceomicaa.fnExactInheritShare
open Go.ChangeShapes Go.WideShapes Go.ChangeAt Go.RowKit Go.Joins
open Go.ChangeMaps (open_string shut_string)
set_option linter.unusedVariables false

theorem own : ownKnob Try.prog.godebug = none := by kernel_rfl
theorem laidOut : laidOutB Try.prog = true := by kernel_rfl

set_option maxRecDepth 100000 in
set_option maxHeartbeats 6000000 in
theorem walk (a0 : Option Addr) (len0 cap0 : Nat) (hs0 : List Hd) (a1 : Int) (a2 : Option Addr) (len2 cap2 : Nat) (z2 : List Int) (w : World) (w0 : HoldsIn w a0 len0 cap0 hs0) (w1 : (Lit.int .i64 a1).wf = true) (w2 : IsRow .i64 w a2 len2 cap2 z2) :
    Calls Try.prog 6 #[.slice a0 len0 cap0, .int .i64 a1, .slice a2 len2 cap2] w fun e w' => e = .returned (.bool true) ∧ Below w.heap.size w w' := by
  obtain ⟨rfl, h1, hlc, hcm⟩ := w0
  obtain ⟨zs, rfl, hz0⟩ := row_is w2
  clear w2
  by_cases bigz : (1048576 : Int) < (zs.length : Int)
  · go_enter Try.func6, Try.ntmps6
    go_wp2_with fail
    go_ret
    exact ⟨rfl, by go_grown⟩
  have nz : zs.length ≤ 1048576 := by omega
  by_cases big : 1048576 < hs0.length
  · have hm2 : hs0.length ≤ 9223372036854775807 := by unfold maxLen at hcm; omega
    go_enter Try.func6, Try.ntmps6
    go_wp2_with fail
    refine (lszH_no a0 hs0.length cap0 _ big hm2).mono ?_
    rintro e w' ⟨rfl, rfl⟩
    go_wp2_with fail
    go_ret
    exact ⟨rfl, by go_grown⟩
  have n1 : hs0.length ≤ 1048576 := by omega
  have B := Below.refl w.heap.size w
  have hk0 : decide (1 + ((hs0.length * 3 : Nat) : Int) + (zs.length : Int) < 0) = false := by simp; omega
  obtain ⟨b, hb⟩ : ∃ b, inhB hs0 a1 zs = b := ⟨_, rfl⟩
  obtain ⟨R, hR⟩ : ∃ R, rawL (inhL hs0 a1 zs) = R := ⟨_, rfl⟩
  have CS : ∀ (c : Nat) (A : Option Addr) (W : World) (c2 : Nat) (A2 : Option Addr), IsHs W A hs0 → IsInts W A2 zs → zs.length ≤ c2 → Calls Try.prog 28 #[.slice A hs0.length c, .int .i64 a1, .slice A2 zs.length c2] W (MoveV W b (inhL hs0 a1 zs)) := fun c A W c2 A2 hW hI hc => by
    rw [← hb]; exact sInheritShare A c hs0 a1 A2 c2 zs W hW n1 hI nz hc
  have CI : ∀ (c : Nat) (A : Option Addr) (W : World) (c2 : Nat) (A2 : Option Addr), IsHs W A hs0 → hs0.length ≤ c → IsInts W A2 zs → zs.length ≤ c2 → Calls Try.prog 30 #[.slice A hs0.length c, .int .i64 a1, .slice A2 zs.length c2] W (MoveV W b (inhL hs0 a1 zs)) := fun c A W c2 A2 hW hc1 hI hc => by
    rw [← hb]; exact iInherit A c hs0 a1 A2 c2 zs W hW n1 hc1 hI nz hc
  have HL : Hid (b = true → 0 < R.length ∧ R.length ≤ 1048576) := fun c => by
    rw [← hR]; exact inh_small (hb.trans c)
  have HR := Lib.hid hR
  clear hb hR
  cases b with
  | false =>
    clear HL
    go_enter Try.func6, Try.ntmps6
    go_wp2_with fail
    refine (lszH a0 hs0.length cap0 _ n1).mono ?_
    rintro e w' ⟨rfl, rfl⟩
    go_wp2_with fail
    refine (ltoH a0 cap0 hs0 _ (hs_below h1 B) n1).mono ?_
    rintro e u2 ⟨g1, rfl, lg1, R1, C⟩
    have wg1 : w.heap.size ≤ g1 := Nat.le_trans B.size lg1
    replace B := bel_tr B C
    clear C
    go_wp2_with fail
    refine (ltoIntS a2 cap2 zs _ (ints_below hz0 B) nz).mono ?_
    rintro e u3 ⟨p1, rfl, lp1, T1, C⟩
    have wp1 : w.heap.size ≤ p1 := Nat.le_trans B.size lp1
    replace B := bel_tr B C
    replace R1 := R1.next C
    clear C
    go_wp2_with fail
    refine (CS _ _ _ _ _ R1.hs (row_ints T1) (Nat.le_refl _)).mono ?_
    rintro e u4 ⟨v, rfl, m1, m2, C⟩
    replace B := bel_tr B C
    obtain rfl := m1 rfl
    clear m1 m2 R1 T1 C
    go_wp2_with fail
    refine (ltoH a0 cap0 hs0 _ (hs_below h1 B) n1).mono ?_
    rintro e u5 ⟨g3, rfl, lg3, R3, C⟩
    have wg3 : w.heap.size ≤ g3 := Nat.le_trans B.size lg3
    replace B := bel_tr B C
    clear C
    go_wp2_with fail
    have lt3 := R3.lt
    refine (ltoIntS a2 cap2 zs _ (ints_below hz0 B) nz).mono ?_
    rintro e u6 ⟨p4, rfl, lp4, T4, C⟩
    have wp4 : w.heap.size ≤ p4 := Nat.le_trans B.size lp4
    replace B := bel_tr B C
    replace R3 := R3.next C
    clear C
    have ne34 : g3 ≠ p4 := by omega
    have lt4 := World.rowIs.lt T4
    go_wp2_with fail
    refine (CI _ _ _ _ _ R3.hs (Nat.le_refl _) (row_ints T4) (Nat.le_refl _)).mono ?_
    rintro e u7 ⟨v, rfl, m1, m2, C⟩
    obtain rfl := m1 rfl
    have ne43 : p4 ≠ g3 := by omega
    replace B := bel_tr B C
    replace R3 := R3.next C
    replace T4 := row_keep T4 C
    clear C m1 m2
    go_wp2_with fail
    refine (leqH none none 0 0 [] _ (.inl rfl) (.inl rfl) (by simp)).mono ?_
    rintro e u8 ⟨rfl, C⟩
    replace B := bel_tr B C
    replace R3 := R3.next C
    replace T4 := row_keep T4 C
    clear C
    go_wp2_with fail
    refine (ltoH a0 cap0 hs0 _ (hs_below h1 B) n1).mono ?_
    rintro e u9 ⟨g6, rfl, lg6, R6, C⟩
    have wg6 : w.heap.size ≤ g6 := Nat.le_trans B.size lg6
    replace B := bel_tr B C
    replace R3 := R3.next C
    replace T4 := row_keep T4 C
    clear C
    go_wp2_with fail
    refine (leqH _ _ _ _ hs0 _ R3.hs R6.hs n1).mono ?_
    rintro e u10 ⟨rfl, C⟩
    replace B := bel_tr B C
    replace R3 := R3.next C
    replace T4 := row_keep T4 C
    replace R6 := R6.next C
    clear C
    go_wp2_with fail
    clear R6
    refine (ltoIntS a2 cap2 zs _ (ints_below hz0 B) nz).mono ?_
    rintro e u11 ⟨p7, rfl, lp7, T7, C⟩
    have wp7 : w.heap.size ≤ p7 := Nat.le_trans B.size lp7
    replace B := bel_tr B C
    replace R3 := R3.next C
    replace T4 := row_keep T4 C
    clear C
    go_wp2_with fail
    refine (leqIntS _ _ _ _ zs _ (row_ints T4) (row_ints T7) nz).mono ?_
    rintro e u12 ⟨rfl, C⟩
    replace B := bel_tr B C
    replace R3 := R3.next C
    replace T4 := row_keep T4 C
    replace T7 := row_keep T7 C
    clear C
    go_wp2_with fail
    clear T7
    have hl0 := flat_len hs0
    refine (lmarkH g3 _ hs0.length _ _ R3 hl0 n1).mono ?_
    rintro e u13 ⟨rfl, F8, G⟩
    replace B := below_g B G wg3
    replace T4 := row_apart T4 G ne43
    clear F8 G R3
    go_wp2_with fail
    refine (lmarkS p4 _ zs _ (1 + ((hs0.length * 3 : Nat) : Int)) T4 nz (by omega) (by omega)).mono ?_
    rintro e u14 ⟨rfl, G⟩
    replace B := below_g B G wp4
    clear G T4
    go_wp2_with fail
    refine (leqH none none 0 0 [] _ (.inl rfl) (.inl rfl) (by simp)).mono ?_
    rintro e u15 ⟨rfl, C⟩
    replace B := bel_tr B C
    clear C
    go_wp2_with fail
    refine (lmarkH_nil _).mono ?_
    rintro e w' ⟨rfl, rfl⟩
    go_wp2_with fail
    refine (lheldH_nil _).mono ?_
    rintro e w' ⟨rfl, rfl⟩
    go_wp2_with fail
    refine (ltoH a0 cap0 hs0 _ (hs_below h1 B) n1).mono ?_
    rintro e u18 ⟨g11, rfl, lg11, R11, C⟩
    have wg11 : w.heap.size ≤ g11 := Nat.le_trans B.size lg11
    replace B := bel_tr B C
    clear C
    go_wp2_with fail
    refine (ltoIntS a2 cap2 zs _ (ints_below hz0 B) nz).mono ?_
    rintro e u19 ⟨p11, rfl, lp11, T11, C⟩
    have wp11 : w.heap.size ≤ p11 := Nat.le_trans B.size lp11
    replace B := bel_tr B C
    replace R11 := R11.next C
    clear C
    go_wp2_with fail
    refine (CI _ _ _ _ _ R11.hs (Nat.le_refl _) (row_ints T11) (Nat.le_refl _)).mono ?_
    rintro e u20 ⟨v, rfl, m1, m2, C⟩
    replace B := bel_tr B C
    replace R11 := R11.next C
    replace T11 := row_keep T11 C
    obtain rfl := m1 rfl
    clear m1 m2 C
    go_wp2_with fail
    refine (leqH none none 0 0 [] _ (.inl rfl) (.inl rfl) (by simp)).mono ?_
    rintro e u21 ⟨rfl, C⟩
    replace B := bel_tr B C
    replace R11 := R11.next C
    replace T11 := row_keep T11 C
    clear C
    go_wp2_with fail
    refine (lheldH_nil _).mono ?_
    rintro e w' ⟨rfl, rfl⟩
    go_wp2_with fail
    go_ret
    exact ⟨rfl, B⟩
  | true =>
    obtain ⟨hR0, nR⟩ := HL.out rfl
    clear HL
    go_enter Try.func6, Try.ntmps6
    go_wp2_with fail
    refine (lszH a0 hs0.length cap0 _ n1).mono ?_
    rintro e w' ⟨rfl, rfl⟩
    go_wp2_with fail
    refine (ltoH a0 cap0 hs0 _ (hs_below h1 B) n1).mono ?_
    rintro e u2 ⟨g1, rfl, lg1, R1, C⟩
    have wg1 : w.heap.size ≤ g1 := Nat.le_trans B.size lg1
    replace B := bel_tr B C
    clear C
    go_wp2_with fail
    refine (ltoIntS a2 cap2 zs _ (ints_below hz0 B) nz).mono ?_
    rintro e u3 ⟨p1, rfl, lp1, T1, C⟩
    have wp1 : w.heap.size ≤ p1 := Nat.le_trans B.size lp1
    replace B := bel_tr B C
    replace R1 := R1.next C
    clear C
    go_wp2_with fail
    refine (CS _ _ _ _ _ R1.hs (row_ints T1) (Nat.le_refl _)).mono ?_
    rintro e u4 ⟨v, rfl, m1, m2, C⟩
    replace B := bel_tr B C
    obtain ⟨b2, c2, hv2, I2, _⟩ := own_hs2 (m2 rfl)
    subst hv2
    rw [HR.out] at I2 ⊢
    clear m1 m2 R1 T1 C
    have D := Below.refl u4.heap.size u4
    go_wp2_with fail
    refine (ltoH a0 cap0 hs0 _ (hs_below h1 B) n1).mono ?_
    rintro e u5 ⟨g3, rfl, lg3, R3, C⟩
    have wg3 : w.heap.size ≤ g3 := Nat.le_trans B.size lg3
    have dg3 : _ ≤ g3 := Nat.le_trans D.size lg3
    replace B := bel_tr B C
    replace D := bel_tr D C
    clear C
    go_wp2_with fail
    have lt3 := R3.lt
    refine (ltoIntS a2 cap2 zs _ (ints_below hz0 B) nz).mono ?_
    rintro e u6 ⟨p4, rfl, lp4, T4, C⟩
    have wp4 : w.heap.size ≤ p4 := Nat.le_trans B.size lp4
    have dp4 : _ ≤ p4 := Nat.le_trans D.size lp4
    replace B := bel_tr B C
    replace D := bel_tr D C
    replace R3 := R3.next C
    clear C
    have ne34 : g3 ≠ p4 := by omega
    have lt4 := World.rowIs.lt T4
    go_wp2_with fail
    refine (CI _ _ _ _ _ R3.hs (Nat.le_refl _) (row_ints T4) (Nat.le_refl _)).mono ?_
    rintro e u7 ⟨v, rfl, m1, m2, C⟩
    have hO4 := m2 rfl
    rw [HR.out] at hO4
    rcases Flat.own (zs := flatH R) hO4 with ⟨_, hz⟩ | ⟨g5, c5, hv5, lg5, F5, hc5⟩
    · exact absurd hz (by omega)
    subst hv5
    have wg5 : w.heap.size ≤ g5 := Nat.le_trans B.size lg5
    have dg5 : _ ≤ g5 := Nat.le_trans D.size lg5
    have ne54 : g5 ≠ p4 := by omega
    have ne53 : g5 ≠ g3 := by omega
    have ne43 : p4 ≠ g3 := by omega
    replace B := bel_tr B C
    replace D := bel_tr D C
    replace R3 := R3.next C
    replace T4 := row_keep T4 C
    clear C m1 m2 hO4
    go_wp2_with fail
    refine (leqH _ _ _ _ R _ F5.hs (hs_below I2 D) nR).mono ?_
    rintro e u8 ⟨rfl, C⟩
    replace B := bel_tr B C
    replace D := bel_tr D C
    replace R3 := R3.next C
    replace T4 := row_keep T4 C
    replace F5 := F5.next C
    clear C
    go_wp2_with fail
    refine (ltoH a0 cap0 hs0 _ (hs_below h1 B) n1).mono ?_
    rintro e u9 ⟨g6, rfl, lg6, R6, C⟩
    have wg6 : w.heap.size ≤ g6 := Nat.le_trans B.size lg6
    have dg6 : _ ≤ g6 := Nat.le_trans D.size lg6
    replace B := bel_tr B C
    replace D := bel_tr D C
    replace R3 := R3.next C
    replace T4 := row_keep T4 C
    replace F5 := F5.next C
    clear C
    go_wp2_with fail
    refine (leqH _ _ _ _ hs0 _ R3.hs R6.hs n1).mono ?_
    rintro e u10 ⟨rfl, C⟩
    replace B := bel_tr B C
    replace D := bel_tr D C
    replace R3 := R3.next C
    replace T4 := row_keep T4 C
    replace F5 := F5.next C
    replace R6 := R6.next C
    clear C
    go_wp2_with fail
    clear R6
    refine (ltoIntS a2 cap2 zs _ (ints_below hz0 B) nz).mono ?_
    rintro e u11 ⟨p7, rfl, lp7, T7, C⟩
    have wp7 : w.heap.size ≤ p7 := Nat.le_trans B.size lp7
    have dp7 : _ ≤ p7 := Nat.le_trans D.size lp7
    replace B := bel_tr B C
    replace D := bel_tr D C
    replace R3 := R3.next C
    replace T4 := row_keep T4 C
    replace F5 := F5.next C
    clear C
    go_wp2_with fail
    refine (leqIntS _ _ _ _ zs _ (row_ints T4) (row_ints T7) nz).mono ?_
    rintro e u12 ⟨rfl, C⟩
    replace B := bel_tr B C
    replace D := bel_tr D C
    replace R3 := R3.next C
    replace T4 := row_keep T4 C
    replace F5 := F5.next C
    replace T7 := row_keep T7 C
    clear C
    go_wp2_with fail
    clear T7
    have hl0 := flat_len hs0
    refine (lmarkH g3 _ hs0.length _ _ R3 hl0 n1).mono ?_
    rintro e u13 ⟨rfl, F8, G⟩
    replace B := below_g B G wg3
    replace D := below_g D G dg3
    replace T4 := row_apart T4 G ne43
    replace F5 := F5.apart G ne53
    clear F8 G R3
    go_wp2_with fail
    refine (lmarkS p4 _ zs _ (1 + ((hs0.length * 3 : Nat) : Int)) T4 nz (by omega) (by omega)).mono ?_
    rintro e u14 ⟨rfl, G⟩
    replace B := below_g B G wp4
    replace D := below_g D G dp4
    replace F5 := F5.apart G ne54
    clear G T4
    go_wp2_with fail
    refine (leqH _ _ _ _ R _ F5.hs (hs_below I2 D) nR).mono ?_
    rintro e u15 ⟨rfl, C⟩
    replace B := bel_tr B C
    replace D := bel_tr D C
    replace F5 := F5.next C
    clear C
    go_wp2_with fail
    have hlR := flat_len R
    refine (lmarkH g5 _ R.length _ _ F5 hlR nR).mono ?_
    rintro e u16 ⟨rfl, F10, G⟩
    replace B := below_g B G wg5
    replace D := below_g D G dg5
    clear G F5
    go_wp2_with fail
    refine (lheldH g5 _ R.length _ F10 nR).mono ?_
    rintro e w' ⟨rfl, rfl⟩
    go_wp2_with fail
    refine (ltoH a0 cap0 hs0 _ (hs_below h1 B) n1).mono ?_
    rintro e u18 ⟨g11, rfl, lg11, R11, C⟩
    have wg11 : w.heap.size ≤ g11 := Nat.le_trans B.size lg11
    have dg11 : _ ≤ g11 := Nat.le_trans D.size lg11
    replace B := bel_tr B C
    replace D := bel_tr D C
    replace F10 := F10.next C
    clear C
    go_wp2_with fail
    refine (ltoIntS a2 cap2 zs _ (ints_below hz0 B) nz).mono ?_
    rintro e u19 ⟨p11, rfl, lp11, T11, C⟩
    have wp11 : w.heap.size ≤ p11 := Nat.le_trans B.size lp11
    have dp11 : _ ≤ p11 := Nat.le_trans D.size lp11
    replace B := bel_tr B C
    replace D := bel_tr D C
    replace F10 := F10.next C
    replace R11 := R11.next C
    clear C
    go_wp2_with fail
    refine (CI _ _ _ _ _ R11.hs (Nat.le_refl _) (row_ints T11) (Nat.le_refl _)).mono ?_
    rintro e u20 ⟨v, rfl, m1, m2, C⟩
    replace B := bel_tr B C
    replace D := bel_tr D C
    replace F10 := F10.next C
    replace R11 := R11.next C
    replace T11 := row_keep T11 C
    obtain ⟨b12, c12, hv12, I12, _⟩ := own_hs2 (m2 rfl)
    subst hv12
    rw [HR.out] at I12 ⊢
    clear m1 m2 C
    go_wp2_with fail
    refine (leqH _ _ _ _ R _ I12 (hs_below I2 D) nR).mono ?_
    rintro e u21 ⟨rfl, C⟩
    replace B := bel_tr B C
    replace D := bel_tr D C
    replace F10 := F10.next C
    replace R11 := R11.next C
    replace T11 := row_keep T11 C
    clear C
    go_wp2_with fail
    refine (lheldH g5 _ R.length _ F10 nR).mono ?_
    rintro e w' ⟨rfl, rfl⟩
    go_wp2_with fail
    go_ret
    exact ⟨rfl, B⟩

set_option maxRecDepth 100000 in
theorem lifted (os : Os) (started : os.Started) (H : Type) (enc : TypeId × Value → H) :
    ReturnsInHanded {} Try.checked os 6 .any (Rows.fnExactInheritShareSpec.pre6 enc Try.prog Try.f6 Rows.fnExactInheritShareRow.domain false) (Rows.fnExactInheritShareSpec.post enc Try.prog Try.f6 false true false false) := by
  refine returnsInHanded_of_change (C := Try.checked) own started (by kernel_rfl) Try.func6
    (ChangeSpec.witness6 (enc := enc) (C := Try.checked) false ⟨#[], #[.slice none 0 0, .int .i64 0, .slice none 0 0], []⟩ 8 (by kernel_rfl) (by kernel_rfl) (by kernel_rfl) (by kernel_rfl)) ?_
  intro W base args ds gs before hval0 hW hcnd _
  have hval : ∀ (j : Nat) t v, Try.f6.params[j]? = some t → args[j]? = some v → Value.okWide Try.prog W .any base t v := hval0
  have hW' := hW
  obtain ⟨p, q, hA0, hV, rfl, hfz, hnd⟩ := hW
  have hA : DataW.TrodAll enc Try.prog W 0 (fun _ => true) true Try.f6.params.toList args.toList ds p := hA0
  rw [Try.params6] at hA hval
  obtain ⟨v0, vs0, e0, es0, p0, q0, hargs, rfl, rfl, h0, r0⟩ := trodAll_cons hA
  obtain ⟨v1, vs1, e1, es1, p1, q1, rfl, rfl, rfl, h1, r1⟩ := trodAll_cons r0
  obtain ⟨v2, vs2, e2, es2, p2, q2, rfl, rfl, rfl, h2, r2⟩ := trodAll_cons r1
  obtain ⟨rfl, rfl, rfl⟩ := trodAll_nil r2
  obtain rfl : args = #[v0, v1, v2] := by cases args; simp_all
  obtain ⟨rfl, rfl⟩ := trodVars_none hV
  have k0 := h0
  have lt0 : ∀ x ∈ p0, x.block < W.heap.size := by obtain ⟨m, hm⟩ := k0; exact DataW.trod_lt m _ _ _ hm
  obtain ⟨a0, len0, cap0, rfl⟩ := okWide_slice Try.underlying22 (hval 0 22 v0 rfl rfl)
  obtain ⟨hs0, w0⟩ : ∃ hs, HoldsIn W a0 len0 cap0 hs := by
    obtain ⟨fuel, hf⟩ := h0
    exact open_holds hf
  have k1 := h1
  have lt1 : ∀ x ∈ p1, x.block < W.heap.size := by obtain ⟨m, hm⟩ := k1; exact DataW.trod_lt m _ _ _ hm
  obtain ⟨a1, rfl, _, _, w1⟩ := open_int Try.underlying3 (hval 1 3 v1 rfl rfl) h1
  have k2 := h2
  have lt2 : ∀ x ∈ p2, x.block < W.heap.size := by obtain ⟨m, hm⟩ := k2; exact DataW.trod_lt m _ _ _ hm
  obtain ⟨a2, len2, cap2, rfl⟩ := okWide_slice Try.underlying40 (hval 2 40 v2 rfl rfl)
  obtain ⟨z2, w2⟩ : ∃ zs, IsRow .i64 W a2 len2 cap2 zs := by
    obtain ⟨fuel, hf⟩ := h2
    rcases open_ints Try.underlying40 Try.underlying3 (by kernel_rfl) hf with ⟨hcs, _⟩ | ⟨x, l, c, zs, hcs, _, hl, hm, hz, _, hcell, hwz⟩
    · simp [Value.cells] at hcs
      obtain ⟨rfl, rfl, rfl⟩ := hcs
      exact ⟨[], .inl ⟨rfl, rfl, rfl, rfl⟩⟩
    · simp [Value.cells] at hcs
      obtain ⟨rfl, rfl, rfl⟩ := hcs
      exact ⟨zs, .inr ⟨_, rfl, hl, hm, by simpa using hz, hcell, hwz⟩⟩
  clear hA0 hval0
  refine (walk a0 len0 cap0 hs0 a1 a2 len2 cap2 z2 W w0 w1 w2).mono fun e W' ⟨he, bel⟩ => ?_
  subst he
  exact ⟨_, rfl, _, _, _, [], _, [], hW', trodAll_mk1 (shut_bool Try.underlying4 _), (trodAll_cons_mk (Below.trod laidOut (by kernel_rfl) (of_decide_eq_true (by kernel_rfl)) k0 bel lt0) (trodAll_cons_mk (Below.trod laidOut (by kernel_rfl) (of_decide_eq_true (by kernel_rfl)) k1 bel lt1) (trodAll_cons_mk (Below.trod laidOut (by kernel_rfl) (of_decide_eq_true (by kernel_rfl)) k2 bel lt2) trodAll_mk0))), rfl, bel.frame _, fun h => by cases h⟩

theorem over : Rows.fnExactInheritShareRow.holds Try.pinned (OpenSpec.ofChange Rows.fnExactInheritShareSpec) :=
  OpenClaim.holds_of_wide 6 Try.f6 rfl rfl rfl rfl rfl rfl rfl ⟨rfl, rfl, rfl, rfl, rfl⟩ rfl rfl rfl rfl rfl (by kernel_rfl) Try.func6 (by kernel_rfl)
    (of_decide_eq_true (by kernel_rfl)) (by unfold Func.isWrapper; first | (rw [if_pos (by decide +kernel)]; kernel_rfl) | (rw [if_neg (by decide +kernel)]; exact ⟨rfl, rfl⟩))
    (fun os started H enc _ => lifted os started H enc)

end Go.Proofs.Ytghfoceceomicaa.fnExactInheritShare
namespace Go.Proofs.Ytghfoceceomicaa
/-- the statement -/
theorem fnExactInheritShare_holds : Rows.FnExactInheritShareSaid := fnExactInheritShare.over
end Go.Proofs.Ytghfoceceomicaa
