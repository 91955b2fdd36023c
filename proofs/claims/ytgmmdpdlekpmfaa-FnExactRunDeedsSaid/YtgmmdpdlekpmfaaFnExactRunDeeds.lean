/- For every input the law answers true, and its arguments read afterwards as before: impl.RunDeeds answers as its model. No condition. -/
import Derived.Test.YtgmmdpdlekpmfaaRows
import Derived.Test.YtgmmdpdlekpmfaaGrB
import Derived.Test.YtgmmdpdlekpmfaaGrD
import Derived.Test.YtgmmdpdlekpmfaaGrF
import Derived.Test.YtgmmdpdlekpmfaaGrE
import Derived.WalkKit
import Derived.ProofKit
import Derived.OpenShut
import Derived.ShutString
import Derived.ChangeOld
import Derived.Below
import Derived.Lib.SmallJoins
namespace Go.Proofs.Ytgmmdpdlekpmfaa.fnExactRunDeeds
open Go.ChangeShapes Go.WideShapes Go.ChangeAt Go.RowKit Go.Joins
open Go.ChangeMaps (open_string shut_string)
set_option linter.unusedVariables false
set_option linter.unusedSimpArgs false

theorem own : ownKnob Try.prog.godebug = none := by kernel_rfl
theorem laidOut : laidOutB Try.prog = true := by kernel_rfl
theorem rdd_small {hs : List Hd} {ds : List Dd} (h : rdB hs ds = true) : 0 < (rawL (rdL hs ds)).length ∧ (rawL (rdL hs ds)).length ≤ 1048576 := by
  have this := rdd_valid h
  have hl := led_le this
  refine ⟨?_, by omega⟩
  cases hr : rawL (rdL hs ds) with
  | nil => rw [hr] at this; exact absurd this (by decide)
  | cons x t => simp
theorem _root_.Go.Proofs.Ytgmmdpdlekpmfaa.RowDs.apart {w w' : World} {g q : Nat} {G : Nat → Nat} {ds : List Dd} (h : RowDs w g G ds.length ds) (hG : w.grownBy w' (some q)) (hne : g ≠ q) (hG2 : ∀ j, j < ds.length → G j ≠ q) : RowDs w' g G ds.length ds :=
  ⟨World.rowIs.of_block h.1 (hG.block g h.1.lt (fun e => by injection e with e; exact hne e)), fun j hj => ⟨(h.2.1 j hj).1, row_apart (h.2.1 j hj).2 hG (hG2 j hj)⟩, h.2.2⟩

set_option maxRecDepth 100000 in
set_option maxHeartbeats 6000000 in
theorem walk (a0 : Option Addr) (len0 cap0 : Nat) (hs0 : List Hd) (a1 : Option Addr) (len1 cap1 : Nat) (x1 : List Dd) (w : World) (w0 : HoldsIn w a0 len0 cap0 hs0) (w1 : DdIn w a1 len1 cap1 x1) :
    Calls Try.prog 9 #[.slice a0 len0 cap0, .slice a1 len1 cap1] w fun e w' => e = .returned (.bool true) ∧ Below w.heap.size w w' := by
  obtain ⟨rfl, h1, hlc, hcm⟩ := w0
  obtain ⟨hdl, hdr, hdlc, hdcm, hdz⟩ := w1
  subst hdl
  obtain ⟨ds, hds⟩ : ∃ ds, ds = x1 := ⟨_, rfl⟩
  subst hds
  by_cases big : 1048576 < hs0.length
  · have hm2 : hs0.length ≤ 9223372036854775807 := by unfold maxLen at hcm; omega
    go_enter Try.func9, Try.ntmps9
    go_wp2_with fail
    refine (lszH_no a0 hs0.length cap0 _ big hm2).mono ?_
    rintro e w' ⟨rfl, rfl⟩
    go_wp2_with fail
    go_ret
    exact ⟨rfl, by go_grown⟩
  have n1 : hs0.length ≤ 1048576 := by omega
  have B := Below.refl w.heap.size w
  have m0 : ds.length ≤ 9223372036854775807 := by unfold maxLen at hdcm; omega
  have m1 : ∀ i, i < ds.length → (ds.getD i dd0).zs.length ≤ 9223372036854775807 := fun i hi => by have := hdz i hi; unfold maxLen at this; omega
  have CZ := lszDs a1 cap1 ds (1048576 - (hs0.length : Int)) w hdr (by omega) (by omega) m0 m1
  have e9 : decide (1048576 - (hs0.length : Int) < 0) = false := decide_eq_false (by omega)
  obtain ⟨z, hz⟩ : ∃ z, szSS (1048576 - (hs0.length : Int)) (zss ds) = z := ⟨_, rfl⟩
  rw [hz] at CZ
  by_cases bigz : z < 0
  · have e8 : decide (z < 0) = true := decide_eq_true bigz
    clear hz bigz m0 m1 hdr hdz
    go_enter Try.func9, Try.ntmps9
    go_wp2_with fail
    refine (lszH a0 hs0.length cap0 _ n1).mono ?_
    rintro e w' ⟨rfl, rfl⟩
    go_wp2_with fail
    refine CZ.mono ?_
    rintro e u1 ⟨rfl, C⟩
    go_wp2_with fail
    go_ret
    exact ⟨rfl, C⟩
  have e8 : decide (z < 0) = false := decide_eq_false bigz
  have hzp : ¬ szSS (1048576 - (hs0.length : Int)) (zss ds) < 0 := by rw [hz]; exact bigz
  obtain ⟨nd0, ndr⟩ := szSS_pos hzp (by omega)
  have nsum : sumLn (zss ds) ≤ 1048576 := by have := szSS_sum hzp; omega
  rw [zss_len] at nd0
  have nd : ds.length ≤ 1048576 := by omega
  have NZ : Hid (∀ i, i < ds.length → (ds.getD i dd0).zs.length ≤ 1048576) := fun i hi => by
    have := ndr _ (rows_mem (rs := zss ds) (k := i) (by rw [zss_len]; exact hi))
    rw [zss_get] at this
    omega
  have hd0 := dsRaw_is hdr NZ.out
  clear hz hzp bigz m0 m1 hdr hdz ndr
  have hk0 : decide (1 + ((hs0.length * 3 : Nat) : Int) < 0) = false := by simp; omega
  obtain ⟨b, hb⟩ : ∃ b, rdB hs0 ds = b := ⟨_, rfl⟩
  obtain ⟨R, hR⟩ : ∃ R, rawL (rdL hs0 ds) = R := ⟨_, rfl⟩
  have CS : ∀ (c : Nat) (A : Option Addr) (W : World) (c2 : Nat) (A2 : Option Addr), IsHs W A hs0 → hs0.length ≤ c → IsDds W A2 ds → Calls Try.prog 30 #[.slice A hs0.length c, .slice A2 ds.length c2] W (MoveV W b (rdL hs0 ds)) := fun c A W c2 A2 hW hc hI => by
    rw [← hb]; exact sRunDeeds A c hs0 A2 c2 ds W hW n1 hc hI nd
  have CI : ∀ (c : Nat) (A : Option Addr) (W : World) (c2 : Nat) (A2 : Option Addr), IsHs W A hs0 → hs0.length ≤ c → IsDds W A2 ds → Calls Try.prog 33 #[.slice A hs0.length c, .slice A2 ds.length c2] W (MoveV W b (rdL hs0 ds)) := fun c A W c2 A2 hW hc hI => by
    rw [← hb]; exact iRunDeeds A c hs0 A2 c2 ds W hW n1 hc hI nd
  have HL : Hid (b = true → 0 < R.length ∧ R.length ≤ 1048576) := fun c => by
    rw [← hR]; exact rdd_small (hb.trans c)
  have HR := Lib.hid hR
  clear hb hR
  cases b with
  | false =>
    clear HL
    go_enter Try.func9, Try.ntmps9
    go_wp2_with fail
    refine (lszH a0 hs0.length cap0 _ n1).mono ?_
    rintro e w' ⟨rfl, rfl⟩
    go_wp2_with fail
    refine (CZ).mono ?_
    rintro e u2 ⟨rfl, C⟩
    replace B := bel_tr B C
    clear C CZ
    go_wp2_with fail
    refine (ltoH a0 cap0 hs0 _ (hs_below h1 B) n1).mono ?_
    rintro e u3 ⟨g1, rfl, lg1, R1, C⟩
    have wg1 : w.heap.size ≤ g1 := Nat.le_trans B.size lg1
    replace B := bel_tr B C
    clear C
    go_wp2_with fail
    refine (ltoDs a1 cap1 ds _ (dds_below hd0 B) nd).mono ?_
    rintro e u4 ⟨p1, Gp1, rfl, lp1, T1, C⟩
    have wp1 : w.heap.size ≤ p1 := Nat.le_trans B.size lp1
    replace B := bel_tr B C
    replace R1 := R1.next C
    clear C
    go_wp2_with fail
    refine (CS _ _ _ _ _ R1.hs (Nat.le_refl _) (T1.is NZ.out)).mono ?_
    rintro e u5 ⟨v, rfl, m1, m2, C⟩
    replace B := bel_tr B C
    obtain rfl := m1 rfl
    clear m1 m2 R1 T1 C
    go_wp2_with fail
    refine (ltoH a0 cap0 hs0 _ (hs_below h1 B) n1).mono ?_
    rintro e u6 ⟨g3, rfl, lg3, R3, C⟩
    have wg3 : w.heap.size ≤ g3 := Nat.le_trans B.size lg3
    replace B := bel_tr B C
    clear C
    go_wp2_with fail
    have lt3 := R3.lt
    refine (ltoDs a1 cap1 ds _ (dds_below hd0 B) nd).mono ?_
    rintro e u7 ⟨p4, Gp4, rfl, lp4, T4, C⟩
    have wp4 : w.heap.size ≤ p4 := Nat.le_trans B.size lp4
    replace B := bel_tr B C
    replace R3 := R3.next C
    clear C
    have lt4 := T4.1.lt
    have HBD : Hid (∀ j, j < ds.length → u6.heap.size ≤ Gp4 j ∧ Gp4 j < u7.heap.size) := fun j hj => ⟨by have := (T4.2.1 j hj).1; omega, (T4.2.1 j hj).2.lt⟩
    have wu3 : w.heap.size ≤ u6.heap.size := by omega
    go_wp2_with fail
    refine (CI _ _ _ _ _ R3.hs (Nat.le_refl _) (T4.is NZ.out)).mono ?_
    rintro e u8 ⟨v, rfl, m1, m2, C⟩
    obtain rfl := m1 rfl
    replace B := bel_tr B C
    replace R3 := R3.next C
    replace T4 := T4.next C
    clear C m1 m2
    go_wp2_with fail
    refine (leqH none none 0 0 [] _ (.inl rfl) (.inl rfl) (by simp)).mono ?_
    rintro e u9 ⟨rfl, C⟩
    replace B := bel_tr B C
    replace R3 := R3.next C
    replace T4 := T4.next C
    clear C
    go_wp2_with fail
    refine (ltoH a0 cap0 hs0 _ (hs_below h1 B) n1).mono ?_
    rintro e u10 ⟨g6, rfl, lg6, R6, C⟩
    have wg6 : w.heap.size ≤ g6 := Nat.le_trans B.size lg6
    replace B := bel_tr B C
    replace R3 := R3.next C
    replace T4 := T4.next C
    clear C
    go_wp2_with fail
    refine (leqH _ _ _ _ hs0 _ R3.hs R6.hs n1).mono ?_
    rintro e u11 ⟨rfl, C⟩
    replace B := bel_tr B C
    replace R3 := R3.next C
    replace T4 := T4.next C
    replace R6 := R6.next C
    clear C
    go_wp2_with fail
    clear R6
    refine (ltoDs a1 cap1 ds _ (dds_below hd0 B) nd).mono ?_
    rintro e u12 ⟨p7, Gp7, rfl, lp7, T7, C⟩
    have wp7 : w.heap.size ≤ p7 := Nat.le_trans B.size lp7
    replace B := bel_tr B C
    replace R3 := R3.next C
    replace T4 := T4.next C
    clear C
    go_wp2_with fail
    refine (leqDs _ _ _ _ ds _ (T4.is NZ.out) (T7.is NZ.out) nd).mono ?_
    rintro e u13 ⟨rfl, C⟩
    replace B := bel_tr B C
    replace R3 := R3.next C
    replace T4 := T4.next C
    replace T7 := T7.next C
    clear C
    go_wp2_with fail
    clear T7
    have hl0 := flat_len hs0
    refine (lmarkH g3 _ hs0.length _ _ R3 hl0 n1).mono ?_
    rintro e u14 ⟨rfl, F8, G⟩
    replace B := below_g B G wg3
    replace T4 := T4.apart G (by omega) (fun j hj => by have := HBD.out j hj; omega)
    clear F8 G R3
    go_wp2_with fail
    refine (lmarkDs p4 _ u6.heap.size u7.heap.size Gp4 ds (1 + ((hs0.length * 3 : Nat) : Int)) _ T4 nd NZ.out nsum (by omega) (by omega) ⟨lp4, lt4⟩ HBD.out).mono ?_
    rintro e u15 ⟨s, rfl, hs0_, K1, K2⟩
    have es : decide (s < 0) = false := decide_eq_false (by omega)
    replace B := K2 w wu3 B
    clear T4 K1 K2
    go_wp2_with fail
    refine (leqH none none 0 0 [] _ (.inl rfl) (.inl rfl) (by simp)).mono ?_
    rintro e u16 ⟨rfl, C⟩
    replace B := bel_tr B C
    clear C
    go_wp2_with fail
    refine (lmarkH_nil _).mono ?_
    rintro e w' ⟨rfl, rfl⟩
    go_wp2_with fail
    refine (lheldH_nil _).mono ?_
    rintro e w' ⟨rfl, rfl⟩
    go_wp2_with fail
    refine (ltoH a0 cap0 hs0 _ (hs_below h1 B) n1).mono ?_
    rintro e u19 ⟨g11, rfl, lg11, R11, C⟩
    have wg11 : w.heap.size ≤ g11 := Nat.le_trans B.size lg11
    replace B := bel_tr B C
    clear C
    go_wp2_with fail
    refine (ltoDs a1 cap1 ds _ (dds_below hd0 B) nd).mono ?_
    rintro e u20 ⟨p11, Gp11, rfl, lp11, T11, C⟩
    have wp11 : w.heap.size ≤ p11 := Nat.le_trans B.size lp11
    replace B := bel_tr B C
    replace R11 := R11.next C
    clear C
    go_wp2_with fail
    refine (CI _ _ _ _ _ R11.hs (Nat.le_refl _) (T11.is NZ.out)).mono ?_
    rintro e u21 ⟨v, rfl, m1, m2, C⟩
    replace B := bel_tr B C
    replace R11 := R11.next C
    replace T11 := T11.next C
    obtain rfl := m1 rfl
    clear m1 m2 C
    go_wp2_with fail
    refine (leqH none none 0 0 [] _ (.inl rfl) (.inl rfl) (by simp)).mono ?_
    rintro e u22 ⟨rfl, C⟩
    replace B := bel_tr B C
    replace R11 := R11.next C
    replace T11 := T11.next C
    clear C
    go_wp2_with fail
    refine (lheldH_nil _).mono ?_
    rintro e w' ⟨rfl, rfl⟩
    go_wp2_with fail
    go_ret
    exact ⟨rfl, B⟩
  | true =>
    obtain ⟨hR0, nR⟩ := HL.out rfl
    clear HL
    go_enter Try.func9, Try.ntmps9
    go_wp2_with fail
    refine (lszH a0 hs0.length cap0 _ n1).mono ?_
    rintro e w' ⟨rfl, rfl⟩
    go_wp2_with fail
    refine (CZ).mono ?_
    rintro e u2 ⟨rfl, C⟩
    replace B := bel_tr B C
    clear C CZ
    go_wp2_with fail
    refine (ltoH a0 cap0 hs0 _ (hs_below h1 B) n1).mono ?_
    rintro e u3 ⟨g1, rfl, lg1, R1, C⟩
    have wg1 : w.heap.size ≤ g1 := Nat.le_trans B.size lg1
    replace B := bel_tr B C
    clear C
    go_wp2_with fail
    refine (ltoDs a1 cap1 ds _ (dds_below hd0 B) nd).mono ?_
    rintro e u4 ⟨p1, Gp1, rfl, lp1, T1, C⟩
    have wp1 : w.heap.size ≤ p1 := Nat.le_trans B.size lp1
    replace B := bel_tr B C
    replace R1 := R1.next C
    clear C
    go_wp2_with fail
    refine (CS _ _ _ _ _ R1.hs (Nat.le_refl _) (T1.is NZ.out)).mono ?_
    rintro e u5 ⟨v, rfl, m1, m2, C⟩
    replace B := bel_tr B C
    obtain ⟨b2, c2, hv2, I2, _⟩ := own_hs2 (m2 rfl)
    subst hv2
    rw [HR.out] at I2 ⊢
    clear m1 m2 R1 T1 C
    have D := Below.refl u5.heap.size u5
    go_wp2_with fail
    refine (ltoH a0 cap0 hs0 _ (hs_below h1 B) n1).mono ?_
    rintro e u6 ⟨g3, rfl, lg3, R3, C⟩
    have wg3 : w.heap.size ≤ g3 := Nat.le_trans B.size lg3
    have dg3 : _ ≤ g3 := Nat.le_trans D.size lg3
    replace B := bel_tr B C
    replace D := bel_tr D C
    clear C
    go_wp2_with fail
    have lt3 := R3.lt
    refine (ltoDs a1 cap1 ds _ (dds_below hd0 B) nd).mono ?_
    rintro e u7 ⟨p4, Gp4, rfl, lp4, T4, C⟩
    have wp4 : w.heap.size ≤ p4 := Nat.le_trans B.size lp4
    have dp4 : _ ≤ p4 := Nat.le_trans D.size lp4
    replace B := bel_tr B C
    replace D := bel_tr D C
    replace R3 := R3.next C
    clear C
    have lt4 := T4.1.lt
    have HBD : Hid (∀ j, j < ds.length → u6.heap.size ≤ Gp4 j ∧ Gp4 j < u7.heap.size) := fun j hj => ⟨by have := (T4.2.1 j hj).1; omega, (T4.2.1 j hj).2.lt⟩
    have wu3 : w.heap.size ≤ u6.heap.size := by omega
    have du3 : u5.heap.size ≤ u6.heap.size := by omega
    go_wp2_with fail
    refine (CI _ _ _ _ _ R3.hs (Nat.le_refl _) (T4.is NZ.out)).mono ?_
    rintro e u8 ⟨v, rfl, m1, m2, C⟩
    have hO4 := m2 rfl
    rw [HR.out] at hO4
    rcases Flat.own (zs := flatH R) hO4 with ⟨_, hz⟩ | ⟨g5, c5, hv5, lg5, F5, hc5⟩
    · exact absurd hz (by omega)
    subst hv5
    have wg5 : w.heap.size ≤ g5 := Nat.le_trans B.size lg5
    have dg5 : _ ≤ g5 := Nat.le_trans D.size lg5
    have ne53 : g5 ≠ g3 := by omega
    replace B := bel_tr B C
    replace D := bel_tr D C
    replace R3 := R3.next C
    replace T4 := T4.next C
    clear C m1 m2 hO4
    go_wp2_with fail
    refine (leqH _ _ _ _ R _ F5.hs (hs_below I2 D) nR).mono ?_
    rintro e u9 ⟨rfl, C⟩
    replace B := bel_tr B C
    replace D := bel_tr D C
    replace R3 := R3.next C
    replace T4 := T4.next C
    replace F5 := F5.next C
    clear C
    go_wp2_with fail
    refine (ltoH a0 cap0 hs0 _ (hs_below h1 B) n1).mono ?_
    rintro e u10 ⟨g6, rfl, lg6, R6, C⟩
    have wg6 : w.heap.size ≤ g6 := Nat.le_trans B.size lg6
    have dg6 : _ ≤ g6 := Nat.le_trans D.size lg6
    replace B := bel_tr B C
    replace D := bel_tr D C
    replace R3 := R3.next C
    replace T4 := T4.next C
    replace F5 := F5.next C
    clear C
    go_wp2_with fail
    refine (leqH _ _ _ _ hs0 _ R3.hs R6.hs n1).mono ?_
    rintro e u11 ⟨rfl, C⟩
    replace B := bel_tr B C
    replace D := bel_tr D C
    replace R3 := R3.next C
    replace T4 := T4.next C
    replace F5 := F5.next C
    replace R6 := R6.next C
    clear C
    go_wp2_with fail
    clear R6
    refine (ltoDs a1 cap1 ds _ (dds_below hd0 B) nd).mono ?_
    rintro e u12 ⟨p7, Gp7, rfl, lp7, T7, C⟩
    have wp7 : w.heap.size ≤ p7 := Nat.le_trans B.size lp7
    have dp7 : _ ≤ p7 := Nat.le_trans D.size lp7
    replace B := bel_tr B C
    replace D := bel_tr D C
    replace R3 := R3.next C
    replace T4 := T4.next C
    replace F5 := F5.next C
    clear C
    go_wp2_with fail
    refine (leqDs _ _ _ _ ds _ (T4.is NZ.out) (T7.is NZ.out) nd).mono ?_
    rintro e u13 ⟨rfl, C⟩
    replace B := bel_tr B C
    replace D := bel_tr D C
    replace R3 := R3.next C
    replace T4 := T4.next C
    replace F5 := F5.next C
    replace T7 := T7.next C
    clear C
    go_wp2_with fail
    clear T7
    have hl0 := flat_len hs0
    refine (lmarkH g3 _ hs0.length _ _ R3 hl0 n1).mono ?_
    rintro e u14 ⟨rfl, F8, G⟩
    replace B := below_g B G wg3
    replace D := below_g D G dg3
    replace F5 := F5.apart G ne53
    replace T4 := T4.apart G (by omega) (fun j hj => by have := HBD.out j hj; omega)
    clear F8 G R3
    go_wp2_with fail
    refine (lmarkDs p4 _ u6.heap.size u7.heap.size Gp4 ds (1 + ((hs0.length * 3 : Nat) : Int)) _ T4 nd NZ.out nsum (by omega) (by omega) ⟨lp4, lt4⟩ HBD.out).mono ?_
    rintro e u15 ⟨s, rfl, hs0_, K1, K2⟩
    have es : decide (s < 0) = false := decide_eq_false (by omega)
    replace B := K2 w wu3 B
    replace D := K2 u5 du3 D
    replace F5 := K1 _ _ _ F5 lg5
    clear T4 K1 K2
    go_wp2_with fail
    refine (leqH _ _ _ _ R _ F5.hs (hs_below I2 D) nR).mono ?_
    rintro e u16 ⟨rfl, C⟩
    replace B := bel_tr B C
    replace D := bel_tr D C
    replace F5 := F5.next C
    clear C
    go_wp2_with fail
    have hlR := flat_len R
    refine (lmarkH g5 _ R.length _ _ F5 hlR nR).mono ?_
    rintro e u17 ⟨rfl, F10, G⟩
    replace B := below_g B G wg5
    replace D := below_g D G dg5
    clear G F5
    go_wp2_with fail
    refine (lheldH g5 _ R.length _ F10 nR).mono ?_
    rintro e w' ⟨rfl, rfl⟩
    go_wp2_with fail
    refine (ltoH a0 cap0 hs0 _ (hs_below h1 B) n1).mono ?_
    rintro e u19 ⟨g11, rfl, lg11, R11, C⟩
    have wg11 : w.heap.size ≤ g11 := Nat.le_trans B.size lg11
    have dg11 : _ ≤ g11 := Nat.le_trans D.size lg11
    replace B := bel_tr B C
    replace D := bel_tr D C
    replace F10 := F10.next C
    clear C
    go_wp2_with fail
    refine (ltoDs a1 cap1 ds _ (dds_below hd0 B) nd).mono ?_
    rintro e u20 ⟨p11, Gp11, rfl, lp11, T11, C⟩
    have wp11 : w.heap.size ≤ p11 := Nat.le_trans B.size lp11
    have dp11 : _ ≤ p11 := Nat.le_trans D.size lp11
    replace B := bel_tr B C
    replace D := bel_tr D C
    replace F10 := F10.next C
    replace R11 := R11.next C
    clear C
    go_wp2_with fail
    refine (CI _ _ _ _ _ R11.hs (Nat.le_refl _) (T11.is NZ.out)).mono ?_
    rintro e u21 ⟨v, rfl, m1, m2, C⟩
    replace B := bel_tr B C
    replace D := bel_tr D C
    replace F10 := F10.next C
    replace R11 := R11.next C
    replace T11 := T11.next C
    obtain ⟨b12, c12, hv12, I12, _⟩ := own_hs2 (m2 rfl)
    subst hv12
    rw [HR.out] at I12 ⊢
    clear m1 m2 C
    go_wp2_with fail
    refine (leqH _ _ _ _ R _ I12 (hs_below I2 D) nR).mono ?_
    rintro e u22 ⟨rfl, C⟩
    replace B := bel_tr B C
    replace D := bel_tr D C
    replace F10 := F10.next C
    replace R11 := R11.next C
    replace T11 := T11.next C
    clear C
    go_wp2_with fail
    refine (lheldH g5 _ R.length _ F10 nR).mono ?_
    rintro e w' ⟨rfl, rfl⟩
    go_wp2_with fail
    go_ret
    exact ⟨rfl, B⟩

set_option maxRecDepth 100000 in
theorem lifted (os : Os) (started : os.Started) (H : Type) (enc : TypeId × Value → H) :
    ReturnsInHanded {} Try.checked os 9 .any (Rows.fnExactRunDeedsSpec.pre6 enc Try.prog Try.f9 Rows.fnExactRunDeedsRow.domain false) (Rows.fnExactRunDeedsSpec.post enc Try.prog Try.f9 false true false false) := by
  refine returnsInHanded_of_change (C := Try.checked) own started (by kernel_rfl) Try.func9
    (ChangeSpec.witness6 (enc := enc) (C := Try.checked) false ⟨#[], #[.slice none 0 0, .slice none 0 0], []⟩ 8 (by kernel_rfl) (by kernel_rfl) (by kernel_rfl) (by kernel_rfl)) ?_
  intro W base args ds gs before hval0 hW hcnd _
  have hval : ∀ (j : Nat) t v, Try.f9.params[j]? = some t → args[j]? = some v → Value.okWide Try.prog W .any base t v := hval0
  have hW' := hW
  obtain ⟨p, q, hA0, hV, rfl, hfz, hnd⟩ := hW
  have hA : DataW.TrodAll enc Try.prog W 0 (fun _ => true) true Try.f9.params.toList args.toList ds p := hA0
  rw [Try.params9] at hA hval
  obtain ⟨v0, vs0, e0, es0, p0, q0, hargs, rfl, rfl, h0, r0⟩ := trodAll_cons hA
  obtain ⟨v1, vs1, e1, es1, p1, q1, rfl, rfl, rfl, h1, r1⟩ := trodAll_cons r0
  obtain ⟨rfl, rfl, rfl⟩ := trodAll_nil r1
  obtain rfl : args = #[v0, v1] := by cases args; simp_all
  obtain ⟨rfl, rfl⟩ := trodVars_none hV
  have k0 := h0
  have lt0 : ∀ x ∈ p0, x.block < W.heap.size := by obtain ⟨m, hm⟩ := k0; exact DataW.trod_lt m _ _ _ hm
  obtain ⟨a0, len0, cap0, rfl⟩ := okWide_slice Try.underlying22 (hval 0 22 v0 rfl rfl)
  obtain ⟨hs0, w0⟩ : ∃ hs, HoldsIn W a0 len0 cap0 hs := by
    obtain ⟨fuel, hf⟩ := h0
    exact open_holds hf
  have k1 := h1
  have lt1 : ∀ x ∈ p1, x.block < W.heap.size := by obtain ⟨m, hm⟩ := k1; exact DataW.trod_lt m _ _ _ hm
  obtain ⟨a1, len1, cap1, rfl⟩ := okWide_slice Try.underlying59 (hval 1 59 v1 rfl rfl)
  obtain ⟨x1, w1⟩ : ∃ xs, DdIn W a1 len1 cap1 xs := by
    obtain ⟨fuel, hf⟩ := h1
    exact open_dds hf
  clear hA0 hval0
  refine (walk a0 len0 cap0 hs0 a1 len1 cap1 x1 W w0 w1).mono fun e W' ⟨he, bel⟩ => ?_
  subst he
  exact ⟨_, rfl, _, _, _, [], _, [], hW', trodAll_mk1 (shut_bool Try.underlying4 _), (trodAll_cons_mk (Below.trod laidOut (by kernel_rfl) (of_decide_eq_true (by kernel_rfl)) k0 bel lt0) (trodAll_cons_mk (Below.trod laidOut (by kernel_rfl) (of_decide_eq_true (by kernel_rfl)) k1 bel lt1) trodAll_mk0)), rfl, bel.frame _, fun h => by cases h⟩

theorem over : Rows.fnExactRunDeedsRow.holds Try.pinned (OpenSpec.ofChange Rows.fnExactRunDeedsSpec) :=
  OpenClaim.holds_of_wide 9 Try.f9 rfl rfl rfl rfl rfl rfl rfl ⟨rfl, rfl, rfl, rfl, rfl⟩ rfl rfl rfl rfl rfl (by kernel_rfl) Try.func9 (by kernel_rfl)
    (of_decide_eq_true (by kernel_rfl)) (by unfold Func.isWrapper; first | (rw [if_pos (by decide +kernel)]; kernel_rfl) | (rw [if_neg (by decide +kernel)]; exact ⟨rfl, rfl⟩))
    (fun os started H enc _ => lifted os started H enc)

end Go.Proofs.Ytgmmdpdlekpmfaa.fnExactRunDeeds
namespace Go.Proofs.Ytgmmdpdlekpmfaa
/-- the statement -/
theorem fnExactRunDeeds_holds : Rows.FnExactRunDeedsSaid := fnExactRunDeeds.over
end Go.Proofs.Ytgmmdpdlekpmfaa
