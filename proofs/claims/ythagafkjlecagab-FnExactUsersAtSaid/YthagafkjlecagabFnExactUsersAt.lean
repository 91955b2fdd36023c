/- For every input the law answers true, and its arguments read afterwards as before: impl.UsersAt answers as its model. No condition. -/
import Derived.Test.YthagafkjlecagabRows
import Derived.Test.YthagafkjlecagabLawH
import Derived.Test.YthagafkjlecagabUsI
import Derived.Test.YthagafkjlecagabUsS
import Derived.Test.YthagafkjlecagabOpenH
import Derived.Test.YthagafkjlecagabLsL
import Derived.Test.YthagafkjlecagabLsO
import Derived.Test.YthagafkjlecagabLsM
import Derived.WalkKit
import Derived.ProofKit
import Derived.OpenShut
import Derived.ShutString
import Derived.ChangeOld
import Derived.Below
import Derived.Lib.SmallJoins
namespace Go.Proofs.Ythagafkjlecagab.fnExactUsersAt
open Go.ChangeShapes Go.WideShapes Go.ChangeAt Go.RowKit Go.Joins
open Go.ChangeMaps (open_string shut_string)
set_option linter.unusedVariables false
set_option linter.unusedSimpArgs false

theorem own : ownKnob Try.prog.godebug = none := by kernel_rfl
theorem laidOut : laidOutB Try.prog = true := by kernel_rfl

set_option maxRecDepth 100000 in
set_option maxHeartbeats 6000000 in
theorem walk (a0 : Option Addr) (len0 cap0 : Nat) (hs0 : List Hd) (a1 : Option Addr) (len1 cap1 : Nat) (x1 : List Lr) (a2 : Int) (w : World) (w0 : HoldsIn w a0 len0 cap0 hs0) (w1 : LrIn w a1 len1 cap1 x1) (w2 : (Lit.int .i64 a2).wf = true) :
    Calls Try.prog 3 #[.slice a0 len0 cap0, .slice a1 len1 cap1, .int .i64 a2] w fun e w' => e = .returned (.bool true) ∧ Below w.heap.size w w' := by
  obtain ⟨rfl, h1, hlc, hcm⟩ := w0
  obtain ⟨hdl, hd0, hdlc, hdcm⟩ := w1
  subst hdl
  obtain ⟨ls, hds⟩ : ∃ ls, ls = x1 := ⟨_, rfl⟩
  subst hds
  by_cases big : 1048576 < hs0.length
  · have hm2 : hs0.length ≤ 9223372036854775807 := by unfold maxLen at hcm; omega
    go_enter Try.func3, Try.ntmps3
    go_wp2_with fail
    refine (lszH_no a0 hs0.length cap0 _ big hm2).mono ?_
    rintro e w' ⟨rfl, rfl⟩
    go_wp2_with fail
    go_ret
    exact ⟨rfl, by go_grown⟩
  have n1 : hs0.length ≤ 1048576 := by omega
  have B := Below.refl w.heap.size w
  have m0 : ls.length ≤ 9223372036854775807 := by unfold maxLen at hdcm; omega
  have CZ := lszLs a1 ls.length cap1 (1048576 - (hs0.length : Int)) w (by omega) (by omega) m0
  have e9 : decide (1048576 - (hs0.length : Int) < 0) = false := decide_eq_false (by omega)
  by_cases bigz : 1048576 - (hs0.length : Int) - (ls.length : Int) < 0
  · rw [if_pos bigz] at CZ
    clear bigz m0
    go_enter Try.func3, Try.ntmps3
    go_wp2_with fail
    refine (lszH a0 hs0.length cap0 _ n1).mono ?_
    rintro e w' ⟨rfl, rfl⟩
    go_wp2_with fail
    refine CZ.mono ?_
    rintro e u1 ⟨rfl, rfl⟩
    go_wp2_with fail
    go_ret
    exact ⟨rfl, B⟩
  rw [if_neg bigz] at CZ
  have nd : ls.length ≤ 1048576 := by omega
  obtain ⟨z, hz⟩ : ∃ z, 1048576 - (hs0.length : Int) - (ls.length : Int) = z := ⟨_, rfl⟩
  rw [hz] at CZ bigz
  have e8 : decide (z < 0) = false := decide_eq_false bigz
  clear hz bigz m0
  have hk0 : decide (1 + ((hs0.length * 3 : Nat) : Int) + ((ls.length * 6 : Nat) : Int) < 0) = false := by simp; omega
  obtain ⟨b, hb⟩ : ∃ b, usB hs0 ls a2 = b := ⟨_, rfl⟩
  obtain ⟨R, hR⟩ : ∃ R, rawL (usL hs0 ls a2) = R := ⟨_, rfl⟩
  have CS : ∀ (c : Nat) (A : Option Addr) (W : World) (c2 : Nat) (A2 : Option Addr), IsHs W A hs0 → IsLs W A2 ls → Calls Try.prog 11 #[.slice A hs0.length c, .slice A2 ls.length c2, .int .i64 a2] W (MoveV W b (usL hs0 ls a2)) := fun c A W c2 A2 hW hI => by
    rw [← hb]; exact sUsers A c hs0 A2 c2 ls a2 W hW n1 hI nd
  have CI : ∀ (c : Nat) (A : Option Addr) (W : World) (c2 : Nat) (A2 : Option Addr), IsHs W A hs0 → IsLs W A2 ls → Calls Try.prog 14 #[.slice A hs0.length c, .slice A2 ls.length c2, .int .i64 a2] W (MoveV W b (usL hs0 ls a2)) := fun c A W c2 A2 hW hI => by
    rw [← hb]; exact iUsers A c hs0 A2 c2 ls a2 W hW n1 hI nd
  have HL : Hid (b = true → 0 < R.length ∧ R.length ≤ 1048576) := fun c => by
    rw [← hR]; exact us_small (hb.trans c)
  have HR := Lib.hid hR
  clear hb hR
  cases b with
  | false =>
    clear HL
    go_enter Try.func3, Try.ntmps3
    go_wp2_with fail
    refine (lszH a0 hs0.length cap0 _ n1).mono ?_
    rintro e w' ⟨rfl, rfl⟩
    go_wp2_with fail
    refine (CZ).mono ?_
    rintro e w' ⟨rfl, rfl⟩
    clear CZ
    go_wp2_with fail
    refine (ltoH a0 cap0 hs0 _ (hs_below h1 B) n1).mono ?_
    rintro e u3 ⟨g1, rfl, lg1, R1, C⟩
    have wg1 : w.heap.size ≤ g1 := Nat.le_trans B.size lg1
    replace B := bel_tr B C
    clear C
    go_wp2_with fail
    refine (ltoLs a1 cap1 ls _ (ls_below hd0 B) nd).mono ?_
    rintro e u4 ⟨p1, rfl, lp1, T1, C⟩
    have wp1 : w.heap.size ≤ p1 := Nat.le_trans B.size lp1
    replace B := bel_tr B C
    replace R1 := R1.next C
    clear C
    go_wp2_with fail
    refine (CS _ _ _ _ _ R1.hs T1.is).mono ?_
    rintro e u5 ⟨v, rfl, m1, m2, C⟩
    replace B := bel_tr B C
    obtain rfl := m1 rfl
    clear m1 m2 R1 T1 C
    go_wp2_with fail
    refine (ltoH a0 cap0 hs0 _ (hs_below h1 B) n1).mono ?_
    rintro e u6 ⟨g3, rfl, lg3, R3, C⟩
    have wg3 : w.heap.size ≤ g3 := Nat.le_trans B.size lg3
    replace B := bel_tr B C
    clear C
    go_wp2_with fail
    have lt3 := R3.lt
    refine (ltoLs a1 cap1 ls _ (ls_below hd0 B) nd).mono ?_
    rintro e u7 ⟨p4, rfl, lp4, T4, C⟩
    have wp4 : w.heap.size ≤ p4 := Nat.le_trans B.size lp4
    replace B := bel_tr B C
    replace R3 := R3.next C
    clear C
    have ne34 : g3 ≠ p4 := by omega
    have lt4 := World.rowIs.lt T4
    go_wp2_with fail
    refine (CI _ _ _ _ _ R3.hs T4.is).mono ?_
    rintro e u8 ⟨v, rfl, m1, m2, C⟩
    obtain rfl := m1 rfl
    have ne43 : p4 ≠ g3 := by omega
    replace B := bel_tr B C
    replace R3 := R3.next C
    replace T4 := T4.next C
    clear C m1 m2
    go_wp2_with fail
    refine (leqH none none 0 0 [] _ (.inl rfl) (.inl rfl) (by simp)).mono ?_
    rintro e u9 ⟨rfl, C⟩
    replace B := bel_tr B C
    replace R3 := R3.next C
    replace T4 := T4.next C
    clear C
    go_wp2_with fail
    refine (ltoH a0 cap0 hs0 _ (hs_below h1 B) n1).mono ?_
    rintro e u10 ⟨g6, rfl, lg6, R6, C⟩
    have wg6 : w.heap.size ≤ g6 := Nat.le_trans B.size lg6
    replace B := bel_tr B C
    replace R3 := R3.next C
    replace T4 := T4.next C
    clear C
    go_wp2_with fail
    refine (leqH _ _ _ _ hs0 _ R3.hs R6.hs n1).mono ?_
    rintro e u11 ⟨rfl, C⟩
    replace B := bel_tr B C
    replace R3 := R3.next C
    replace T4 := T4.next C
    replace R6 := R6.next C
    clear C
    go_wp2_with fail
    clear R6
    refine (ltoLs a1 cap1 ls _ (ls_below hd0 B) nd).mono ?_
    rintro e u12 ⟨p7, rfl, lp7, T7, C⟩
    have wp7 : w.heap.size ≤ p7 := Nat.le_trans B.size lp7
    replace B := bel_tr B C
    replace R3 := R3.next C
    replace T4 := T4.next C
    clear C
    go_wp2_with fail
    refine (leqLs _ _ _ _ ls _ T4.is T7.is nd).mono ?_
    rintro e u13 ⟨rfl, C⟩
    replace B := bel_tr B C
    replace R3 := R3.next C
    replace T4 := T4.next C
    replace T7 := T7.next C
    clear C
    go_wp2_with fail
    clear T7
    have hl0 := flat_len hs0
    refine (lmarkH g3 _ hs0.length _ _ R3 hl0 n1).mono ?_
    rintro e u14 ⟨rfl, F8, G⟩
    replace B := below_g B G wg3
    replace T4 := T4.apart G ne43
    clear F8 G R3
    go_wp2_with fail
    refine (lmarkLs p4 ls (1 + ((hs0.length * 3 : Nat) : Int)) _ T4 nd (by omega) (by omega)).mono ?_
    rintro e u15 ⟨rfl, G⟩
    replace B := below_g B G wp4
    clear G T4
    go_wp2_with fail
    refine (leqH none none 0 0 [] _ (.inl rfl) (.inl rfl) (by simp)).mono ?_
    rintro e u16 ⟨rfl, C⟩
    replace B := bel_tr B C
    clear C
    go_wp2_with fail
    refine (lmarkH_nil _).mono ?_
    rintro e w' ⟨rfl, rfl⟩
    go_wp2_with fail
    refine (lheldH_nil _).mono ?_
    rintro e w' ⟨rfl, rfl⟩
    go_wp2_with fail
    refine (ltoH a0 cap0 hs0 _ (hs_below h1 B) n1).mono ?_
    rintro e u19 ⟨g11, rfl, lg11, R11, C⟩
    have wg11 : w.heap.size ≤ g11 := Nat.le_trans B.size lg11
    replace B := bel_tr B C
    clear C
    go_wp2_with fail
    refine (ltoLs a1 cap1 ls _ (ls_below hd0 B) nd).mono ?_
    rintro e u20 ⟨p11, rfl, lp11, T11, C⟩
    have wp11 : w.heap.size ≤ p11 := Nat.le_trans B.size lp11
    replace B := bel_tr B C
    replace R11 := R11.next C
    clear C
    go_wp2_with fail
    refine (CI _ _ _ _ _ R11.hs T11.is).mono ?_
    rintro e u21 ⟨v, rfl, m1, m2, C⟩
    replace B := bel_tr B C
    replace R11 := R11.next C
    replace T11 := T11.next C
    obtain rfl := m1 rfl
    clear m1 m2 C
    go_wp2_with fail
    refine (leqH none none 0 0 [] _ (.inl rfl) (.inl rfl) (by simp)).mono ?_
    rintro e u22 ⟨rfl, C⟩
    replace B := bel_tr B C
    replace R11 := R11.next C
    replace T11 := T11.next C
    clear C
    go_wp2_with fail
    refine (lheldH_nil _).mono ?_
    rintro e w' ⟨rfl, rfl⟩
    go_wp2_with fail
    go_ret
    exact ⟨rfl, B⟩
  | true =>
    obtain ⟨hR0, nR⟩ := HL.out rfl
    clear HL
    go_enter Try.func3, Try.ntmps3
    go_wp2_with fail
    refine (lszH a0 hs0.length cap0 _ n1).mono ?_
    rintro e w' ⟨rfl, rfl⟩
    go_wp2_with fail
    refine (CZ).mono ?_
    rintro e w' ⟨rfl, rfl⟩
    clear CZ
    go_wp2_with fail
    refine (ltoH a0 cap0 hs0 _ (hs_below h1 B) n1).mono ?_
    rintro e u3 ⟨g1, rfl, lg1, R1, C⟩
    have wg1 : w.heap.size ≤ g1 := Nat.le_trans B.size lg1
    replace B := bel_tr B C
    clear C
    go_wp2_with fail
    refine (ltoLs a1 cap1 ls _ (ls_below hd0 B) nd).mono ?_
    rintro e u4 ⟨p1, rfl, lp1, T1, C⟩
    have wp1 : w.heap.size ≤ p1 := Nat.le_trans B.size lp1
    replace B := bel_tr B C
    replace R1 := R1.next C
    clear C
    go_wp2_with fail
    refine (CS _ _ _ _ _ R1.hs T1.is).mono ?_
    rintro e u5 ⟨v, rfl, m1, m2, C⟩
    replace B := bel_tr B C
    obtain ⟨b2, c2, hv2, I2, _⟩ := own_hs2 (m2 rfl)
    subst hv2
    rw [HR.out] at I2 ⊢
    clear m1 m2 R1 T1 C
    have D := Below.refl u5.heap.size u5
    go_wp2_with fail
    refine (ltoH a0 cap0 hs0 _ (hs_below h1 B) n1).mono ?_
    rintro e u6 ⟨g3, rfl, lg3, R3, C⟩
    have wg3 : w.heap.size ≤ g3 := Nat.le_trans B.size lg3
    have dg3 : _ ≤ g3 := Nat.le_trans D.size lg3
    replace B := bel_tr B C
    replace D := bel_tr D C
    clear C
    go_wp2_with fail
    have lt3 := R3.lt
    refine (ltoLs a1 cap1 ls _ (ls_below hd0 B) nd).mono ?_
    rintro e u7 ⟨p4, rfl, lp4, T4, C⟩
    have wp4 : w.heap.size ≤ p4 := Nat.le_trans B.size lp4
    have dp4 : _ ≤ p4 := Nat.le_trans D.size lp4
    replace B := bel_tr B C
    replace D := bel_tr D C
    replace R3 := R3.next C
    clear C
    have ne34 : g3 ≠ p4 := by omega
    have lt4 := World.rowIs.lt T4
    go_wp2_with fail
    refine (CI _ _ _ _ _ R3.hs T4.is).mono ?_
    rintro e u8 ⟨v, rfl, m1, m2, C⟩
    have hO4 := m2 rfl
    rw [HR.out] at hO4
    rcases Flat.own (zs := flatH R) hO4 with ⟨_, hz⟩ | ⟨g5, c5, hv5, lg5, F5, hc5⟩
    · exact absurd hz (by omega)
    subst hv5
    have wg5 : w.heap.size ≤ g5 := Nat.le_trans B.size lg5
    have dg5 : _ ≤ g5 := Nat.le_trans D.size lg5
    have ne54 : g5 ≠ p4 := by omega
    have ne53 : g5 ≠ g3 := by omega
    have ne43 : p4 ≠ g3 := by omega
    replace B := bel_tr B C
    replace D := bel_tr D C
    replace R3 := R3.next C
    replace T4 := T4.next C
    clear C m1 m2 hO4
    go_wp2_with fail
    refine (leqH _ _ _ _ R _ F5.hs (hs_below I2 D) nR).mono ?_
    rintro e u9 ⟨rfl, C⟩
    replace B := bel_tr B C
    replace D := bel_tr D C
    replace R3 := R3.next C
    replace T4 := T4.next C
    replace F5 := F5.next C
    clear C
    go_wp2_with fail
    refine (ltoH a0 cap0 hs0 _ (hs_below h1 B) n1).mono ?_
    rintro e u10 ⟨g6, rfl, lg6, R6, C⟩
    have wg6 : w.heap.size ≤ g6 := Nat.le_trans B.size lg6
    have dg6 : _ ≤ g6 := Nat.le_trans D.size lg6
    replace B := bel_tr B C
    replace D := bel_tr D C
    replace R3 := R3.next C
    replace T4 := T4.next C
    replace F5 := F5.next C
    clear C
    go_wp2_with fail
    refine (leqH _ _ _ _ hs0 _ R3.hs R6.hs n1).mono ?_
    rintro e u11 ⟨rfl, C⟩
    replace B := bel_tr B C
    replace D := bel_tr D C
    replace R3 := R3.next C
    replace T4 := T4.next C
    replace F5 := F5.next C
    replace R6 := R6.next C
    clear C
    go_wp2_with fail
    clear R6
    refine (ltoLs a1 cap1 ls _ (ls_below hd0 B) nd).mono ?_
    rintro e u12 ⟨p7, rfl, lp7, T7, C⟩
    have wp7 : w.heap.size ≤ p7 := Nat.le_trans B.size lp7
    have dp7 : _ ≤ p7 := Nat.le_trans D.size lp7
    replace B := bel_tr B C
    replace D := bel_tr D C
    replace R3 := R3.next C
    replace T4 := T4.next C
    replace F5 := F5.next C
    clear C
    go_wp2_with fail
    refine (leqLs _ _ _ _ ls _ T4.is T7.is nd).mono ?_
    rintro e u13 ⟨rfl, C⟩
    replace B := bel_tr B C
    replace D := bel_tr D C
    replace R3 := R3.next C
    replace T4 := T4.next C
    replace F5 := F5.next C
    replace T7 := T7.next C
    clear C
    go_wp2_with fail
    clear T7
    have hl0 := flat_len hs0
    refine (lmarkH g3 _ hs0.length _ _ R3 hl0 n1).mono ?_
    rintro e u14 ⟨rfl, F8, G⟩
    replace B := below_g B G wg3
    replace D := below_g D G dg3
    replace T4 := T4.apart G ne43
    replace F5 := F5.apart G ne53
    clear F8 G R3
    go_wp2_with fail
    refine (lmarkLs p4 ls (1 + ((hs0.length * 3 : Nat) : Int)) _ T4 nd (by omega) (by omega)).mono ?_
    rintro e u15 ⟨rfl, G⟩
    replace B := below_g B G wp4
    replace D := below_g D G dp4
    replace F5 := F5.apart G ne54
    clear G T4
    go_wp2_with fail
    refine (leqH _ _ _ _ R _ F5.hs (hs_below I2 D) nR).mono ?_
    rintro e u16 ⟨rfl, C⟩
    replace B := bel_tr B C
    replace D := bel_tr D C
    replace F5 := F5.next C
    clear C
    go_wp2_with fail
    have hlR := flat_len R
    refine (lmarkH g5 _ R.length _ _ F5 hlR nR).mono ?_
    rintro e u17 ⟨rfl, F10, G⟩
    replace B := below_g B G wg5
    replace D := below_g D G dg5
    clear G F5
    go_wp2_with fail
    refine (lheldH g5 _ R.length _ F10 nR).mono ?_
    rintro e w' ⟨rfl, rfl⟩
    go_wp2_with fail
    refine (ltoH a0 cap0 hs0 _ (hs_below h1 B) n1).mono ?_
    rintro e u19 ⟨g11, rfl, lg11, R11, C⟩
    have wg11 : w.heap.size ≤ g11 := Nat.le_trans B.size lg11
    have dg11 : _ ≤ g11 := Nat.le_trans D.size lg11
    replace B := bel_tr B C
    replace D := bel_tr D C
    replace F10 := F10.next C
    clear C
    go_wp2_with fail
    refine (ltoLs a1 cap1 ls _ (ls_below hd0 B) nd).mono ?_
    rintro e u20 ⟨p11, rfl, lp11, T11, C⟩
    have wp11 : w.heap.size ≤ p11 := Nat.le_trans B.size lp11
    have dp11 : _ ≤ p11 := Nat.le_trans D.size lp11
    replace B := bel_tr B C
    replace D := bel_tr D C
    replace F10 := F10.next C
    replace R11 := R11.next C
    clear C
    go_wp2_with fail
    refine (CI _ _ _ _ _ R11.hs T11.is).mono ?_
    rintro e u21 ⟨v, rfl, m1, m2, C⟩
    replace B := bel_tr B C
    replace D := bel_tr D C
    replace F10 := F10.next C
    replace R11 := R11.next C
    replace T11 := T11.next C
    obtain ⟨b12, c12, hv12, I12, _⟩ := own_hs2 (m2 rfl)
    subst hv12
    rw [HR.out] at I12 ⊢
    clear m1 m2 C
    go_wp2_with fail
    refine (leqH _ _ _ _ R _ I12 (hs_below I2 D) nR).mono ?_
    rintro e u22 ⟨rfl, C⟩
    replace B := bel_tr B C
    replace D := bel_tr D C
    replace F10 := F10.next C
    replace R11 := R11.next C
    replace T11 := T11.next C
    clear C
    go_wp2_with fail
    refine (lheldH g5 _ R.length _ F10 nR).mono ?_
    rintro e w' ⟨rfl, rfl⟩
    go_wp2_with fail
    go_ret
    exact ⟨rfl, B⟩

set_option maxRecDepth 100000 in
theorem lifted (os : Os) (started : os.Started) (H : Type) (enc : TypeId × Value → H) :
    ReturnsInHanded {} Try.checked os 3 .any (Rows.fnExactUsersAtSpec.pre6 enc Try.prog Try.f3 Rows.fnExactUsersAtRow.domain false) (Rows.fnExactUsersAtSpec.post enc Try.prog Try.f3 false true false false) := by
  refine returnsInHanded_of_change (C := Try.checked) own started (by kernel_rfl) Try.func3
    (ChangeSpec.witness6 (enc := enc) (C := Try.checked) false ⟨#[], #[.slice none 0 0, .slice none 0 0, .int .i64 0], []⟩ 8 (by kernel_rfl) (by kernel_rfl) (by kernel_rfl) (by kernel_rfl)) ?_
  intro W base args ds gs before hval0 hW hcnd _
  have hval : ∀ (j : Nat) t v, Try.f3.params[j]? = some t → args[j]? = some v → Value.okWide Try.prog W .any base t v := hval0
  have hW' := hW
  obtain ⟨p, q, hA0, hV, rfl, hfz, hnd⟩ := hW
  have hA : DataW.TrodAll enc Try.prog W 0 (fun _ => true) true Try.f3.params.toList args.toList ds p := hA0
  rw [Try.params3] at hA hval
  obtain ⟨v0, vs0, e0, es0, p0, q0, hargs, rfl, rfl, h0, r0⟩ := trodAll_cons hA
  obtain ⟨v1, vs1, e1, es1, p1, q1, rfl, rfl, rfl, h1, r1⟩ := trodAll_cons r0
  obtain ⟨v2, vs2, e2, es2, p2, q2, rfl, rfl, rfl, h2, r2⟩ := trodAll_cons r1
  obtain ⟨rfl, rfl, rfl⟩ := trodAll_nil r2
  obtain rfl : args = #[v0, v1, v2] := by cases args; simp_all
  obtain ⟨rfl, rfl⟩ := trodVars_none hV
  have k0 := h0
  have lt0 : ∀ x ∈ p0, x.block < W.heap.size := by obtain ⟨m, hm⟩ := k0; exact DataW.trod_lt m _ _ _ hm
  obtain ⟨a0, len0, cap0, rfl⟩ := okWide_slice Try.underlying22 (hval 0 22 v0 rfl rfl)
  obtain ⟨hs0, w0⟩ : ∃ hs, HoldsIn W a0 len0 cap0 hs := by
    obtain ⟨fuel, hf⟩ := h0
    exact open_holds hf
  have k1 := h1
  have lt1 : ∀ x ∈ p1, x.block < W.heap.size := by obtain ⟨m, hm⟩ := k1; exact DataW.trod_lt m _ _ _ hm
  obtain ⟨a1, len1, cap1, rfl⟩ := okWide_slice Try.underlying23 (hval 1 23 v1 rfl rfl)
  obtain ⟨x1, w1⟩ : ∃ xs, LrIn W a1 len1 cap1 xs := by
    obtain ⟨fuel, hf⟩ := h1
    exact open_lrs hf
  have k2 := h2
  have lt2 : ∀ x ∈ p2, x.block < W.heap.size := by obtain ⟨m, hm⟩ := k2; exact DataW.trod_lt m _ _ _ hm
  obtain ⟨a2, rfl, _, _, w2⟩ := open_int Try.underlying3 (hval 2 3 v2 rfl rfl) h2
  clear hA0 hval0
  refine (walk a0 len0 cap0 hs0 a1 len1 cap1 x1 a2 W w0 w1 w2).mono fun e W' ⟨he, bel⟩ => ?_
  subst he
  exact ⟨_, rfl, _, _, _, [], _, [], hW', trodAll_mk1 (shut_bool Try.underlying4 _), (trodAll_cons_mk (Below.trod laidOut (by kernel_rfl) (of_decide_eq_true (by kernel_rfl)) k0 bel lt0) (trodAll_cons_mk (Below.trod laidOut (by kernel_rfl) (of_decide_eq_true (by kernel_rfl)) k1 bel lt1) (trodAll_cons_mk (Below.trod laidOut (by kernel_rfl) (of_decide_eq_true (by kernel_rfl)) k2 bel lt2) trodAll_mk0))), rfl, bel.frame _, fun h => by cases h⟩

theorem over : Rows.fnExactUsersAtRow.holds Try.pinned (OpenSpec.ofChange Rows.fnExactUsersAtSpec) :=
  OpenClaim.holds_of_wide 3 Try.f3 rfl rfl rfl rfl rfl rfl rfl ⟨rfl, rfl, rfl, rfl, rfl⟩ rfl rfl rfl rfl rfl (by kernel_rfl) Try.func3 (by kernel_rfl)
    (of_decide_eq_true (by kernel_rfl)) (by unfold Func.isWrapper; first | (rw [if_pos (by decide +kernel)]; kernel_rfl) | (rw [if_neg (by decide +kernel)]; exact ⟨rfl, rfl⟩))
    (fun os started H enc _ => lifted os started H enc)

end Go.Proofs.Ythagafkjlecagab.fnExactUsersAt
namespace Go.Proofs.Ythagafkjlecagab
/-- the statement -/
theorem fnExactUsersAt_holds : Rows.FnExactUsersAtSaid := fnExactUsersAt.over
end Go.Proofs.Ythagafkjlecagab
