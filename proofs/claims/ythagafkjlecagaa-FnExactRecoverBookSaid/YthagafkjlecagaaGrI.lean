/- Contracts and facts of functions of this program, in build order. Conditions: those stated in each. -/
import Derived.Test.YthagafkjlecagaaGrF
import Derived.Deep.RegionHeld3
import Derived.Deep.RegionWith
import Derived.Deep.QuietTactic
import Derived.BigQuiet
import Derived.RegionTactic
import Derived.StillTailTactics
namespace Go.Proofs.Ythagafkjlecagaa
open Go.RowKit
set_option linter.unusedSimpArgs false
set_option linter.unusedVariables false
set_option maxRecDepth 100000 in
set_option maxHeartbeats 6000000 in
theorem rdE_JoinN (cap n g o_ : Nat) (A : ByteArray) (w U : World) (L : List ByteArray) (zs : List Int) (HU : Hid (U = w.alloc (.cells #[.int .i64 0, .int .i64 0, .int .i64 0, .int .i64 0, .int .i64 0, .int .i64 0, .slice none 0 0, .int .i64 0, .int .i64 0] 35))) (K : Blk U w.heap.size 35 #[.int .i64 0, .int .i64 0, .int .i64 0, .int .i64 0, .int .i64 0, .int .i64 0, .slice none 0 0, .int .i64 0, .int .i64 0]) (B : Below w.heap.size w U) (hgw : g < w.heap.size) (hcap : ¬ cap = 1) (hp : (0 : Int) < (n : Int)) (hp1 : (1 : Int) ≤ (n : Int)) (hlc : (n : Int) ≤ (cap : Int)) (c0 : U.cell? ⟨g, o_, none⟩ = some (.string A)) (t0 : (A.toList == [115, 101, 108, 108]) = false)
    (CN3 : Calls Try.prog 96 #[.slice (some ⟨g, o_ + 1, none⟩) (n - 1) (cap - 1)] U fun e w' => ∃ v, e = .returned (.tuple #[v, .bool true]) ∧ OwnI w' U.heap.size v (zs) ∧ Below U.heap.size U w')
    (hzl : (zs).length ≤ 1048576) (hm1 : ¬ (((zs).length : Nat) : Int) = 0) (kk : A.data.toList = kJoin) (hm2 : ¬ (zs.length : Int) = 2) (HX : Hid (rdM L = none)) :
    Calls Try.prog 76 #[.slice (some ⟨g, o_, none⟩) n cap] w (OutRM w (rdM L)) := by
  have hwU := K.lt
  have tJoin : (A.toList == [106, 111, 105, 110]) = true := str_eq A kJoin kk
  have tInh : (A.toList == [105, 110, 104, 101, 114, 105, 116]) = false := str_ne A kInh (by rw [kk]; decide)
  have tTurns : (A.toList == [116, 117, 114, 110, 115]) = false := str_ne A kTurns (by rw [kk]; decide)
  have tHour : (A.toList == [104, 111, 117, 114]) = false := str_ne A kHour (by rw [kk]; decide)
  have tSwap : (A.toList == [115, 119, 97, 112]) = false := str_ne A kSwap (by rw [kk]; decide)
  have tGate : (A.toList == [103, 97, 116, 101]) = false := str_ne A kGate (by rw [kk]; decide)
  have tDig : (A.toList == [100, 105, 103]) = false := str_ne A kDig (by rw [kk]; decide)
  go_enter Try.func76, Try.ntmps76
  go_wp2_with (first | (show wpList _ _ _ _ _ (World.alloc _ _); rw [← HU.out]))
  refine CN3.mono ?_
  rintro e U2 ⟨v, rfl, O, C⟩
  obtain ⟨b, cz, rfl, _⟩ := O.ints
  have K2 := K.next C
  have B2 := bel_tr B C
  have lt2 : w.heap.size < U2.heap.size := K2.lt
  have c2 := (C.cell (p := ⟨g, o_, none⟩) (by have := hwU; show g < _; omega)).trans c0
  have D : Below U2.heap.size U2 (U2.alloc (.cells #[.int .i64 0, .int .i64 0, .int .i64 0, .int .i64 0, .int .i64 0, .int .i64 0, .slice none 0 0, .int .i64 0, .int .i64 0] 35)) := (Below.refl _ _).alloc (Nat.le_refl _) _
  have KE := Blk.new U2 35 #[.int .i64 0, .int .i64 0, .int .i64 0, .int .i64 0, .int .i64 0, .int .i64 0, .slice none 0 0, .int .i64 0, .int .i64 0]
  obtain ⟨U3, hU3⟩ : ∃ U3, U3 = U2.alloc (.cells #[.int .i64 0, .int .i64 0, .int .i64 0, .int .i64 0, .int .i64 0, .int .i64 0, .slice none 0 0, .int .i64 0, .int .i64 0] 35) := ⟨_, rfl⟩
  rw [← hU3] at D KE
  have HU3 := Lib.hid hU3
  have c3 := (D.cell (p := ⟨g, o_, none⟩) (by show g < _; omega)).trans c2
  have KH : Hid (Blk U3 w.heap.size 35 #[.int .i64 0, .int .i64 0, .int .i64 0, .int .i64 0, .int .i64 0, .int .i64 0, .slice none 0 0, .int .i64 0, .int .i64 0]) := Lib.hid (K2.next D)
  have HB := Lib.hid (bel_tr B2 D)
  clear C K B c0 O D KE K2 B2 c2 hU3
  obtain ⟨y1, hy⟩ : ∃ Y_, Y_ = sets9 U3 w.heap.size (.int .i64 0) (.int .i64 0) (.int .i64 0) (.int .i64 0) (.int .i64 0) (.int .i64 0) (.slice none 0 0) (.int .i64 0) (.int .i64 0) := ⟨_, rfl⟩
  have KF := sets9_blk (v0 := .int .i64 0) (v1 := .int .i64 0) (v2 := .int .i64 0) (v3 := .int .i64 0) (v4 := .int .i64 0) (v5 := .int .i64 0) (v6 := .slice none 0 0) (v7 := .int .i64 0) (v8 := .int .i64 0) KH.out
  rw [← hy] at KF
  obtain ⟨z0, z1, z2, z3, z4, z5, z6, z7, z8⟩ := cells9 KF
  have BF := Lib.hid (show Below w.heap.size w y1 by subst hy; exact sets9_below HB.out (Nat.le_refl _))
  have HY := Lib.hid hy
  clear KF hy
  go_wp2_with (first | (show wpList _ _ _ ({ dst := some _, op := _, type := _, pos := _, after := _, guard := _ } :: _) _ (World.alloc _ _); rw [← HU3.out]) | (show wpList _ _ _ ({ dst := _, op := Op.store _ _ _, type := _, pos := _, after := _, guard := _ } :: _) _ _; refine wpList_str9 rfl _ _ _ rfl w.heap.size (.int .i64 0) (.int .i64 0) (.int .i64 0) (.int .i64 0) (.int .i64 0) (.int .i64 0) (.slice none 0 0) (.int .i64 0) (.int .i64 0) rfl rfl KH.out (by kernel_rfl) rfl ?_; rw [← HY.out]))
  refine bodyPost_ret (v := .tuple #[.agg #[.int .i64 0, .int .i64 0, .int .i64 0, .int .i64 0, .int .i64 0, .int .i64 0, .slice none 0 0, .int .i64 0, .int .i64 0], .bool false]) (by simp [results, Try.results76, go_sem, z0, z1, z2, z3, z4, z5, z6, z7, z8]) rfl (by rw [HX.out]; exact outRM_no BF.out)
set_option maxRecDepth 100000 in
set_option maxHeartbeats 6000000 in
theorem rdE_TurnsN (cap n g o_ : Nat) (A : ByteArray) (w U : World) (L : List ByteArray) (zs : List Int) (HU : Hid (U = w.alloc (.cells #[.int .i64 0, .int .i64 0, .int .i64 0, .int .i64 0, .int .i64 0, .int .i64 0, .slice none 0 0, .int .i64 0, .int .i64 0] 35))) (K : Blk U w.heap.size 35 #[.int .i64 0, .int .i64 0, .int .i64 0, .int .i64 0, .int .i64 0, .int .i64 0, .slice none 0 0, .int .i64 0, .int .i64 0]) (B : Below w.heap.size w U) (hgw : g < w.heap.size) (hcap : ¬ cap = 1) (hp : (0 : Int) < (n : Int)) (hp1 : (1 : Int) ≤ (n : Int)) (hlc : (n : Int) ≤ (cap : Int)) (c0 : U.cell? ⟨g, o_, none⟩ = some (.string A)) (t0 : (A.toList == [115, 101, 108, 108]) = false)
    (CN3 : Calls Try.prog 96 #[.slice (some ⟨g, o_ + 1, none⟩) (n - 1) (cap - 1)] U fun e w' => ∃ v, e = .returned (.tuple #[v, .bool true]) ∧ OwnI w' U.heap.size v (zs) ∧ Below U.heap.size U w')
    (hzl : (zs).length ≤ 1048576) (hm1 : ¬ (((zs).length : Nat) : Int) = 0) (kk : A.data.toList = kTurns) (hm2 : ¬ (zs.length : Int) = 1) (HX : Hid (rdM L = none)) :
    Calls Try.prog 76 #[.slice (some ⟨g, o_, none⟩) n cap] w (OutRM w (rdM L)) := by
  have hwU := K.lt
  have tJoin : (A.toList == [106, 111, 105, 110]) = false := str_ne A kJoin (by rw [kk]; decide)
  have tInh : (A.toList == [105, 110, 104, 101, 114, 105, 116]) = false := str_ne A kInh (by rw [kk]; decide)
  have tTurns : (A.toList == [116, 117, 114, 110, 115]) = true := str_eq A kTurns kk
  have tHour : (A.toList == [104, 111, 117, 114]) = false := str_ne A kHour (by rw [kk]; decide)
  have tSwap : (A.toList == [115, 119, 97, 112]) = false := str_ne A kSwap (by rw [kk]; decide)
  have tGate : (A.toList == [103, 97, 116, 101]) = false := str_ne A kGate (by rw [kk]; decide)
  have tDig : (A.toList == [100, 105, 103]) = false := str_ne A kDig (by rw [kk]; decide)
  go_enter Try.func76, Try.ntmps76
  go_wp2_with (first | (show wpList _ _ _ _ _ (World.alloc _ _); rw [← HU.out]))
  refine CN3.mono ?_
  rintro e U2 ⟨v, rfl, O, C⟩
  obtain ⟨b, cz, rfl, _⟩ := O.ints
  have K2 := K.next C
  have B2 := bel_tr B C
  have lt2 : w.heap.size < U2.heap.size := K2.lt
  have c2 := (C.cell (p := ⟨g, o_, none⟩) (by have := hwU; show g < _; omega)).trans c0
  have D : Below U2.heap.size U2 (U2.alloc (.cells #[.int .i64 0, .int .i64 0, .int .i64 0, .int .i64 0, .int .i64 0, .int .i64 0, .slice none 0 0, .int .i64 0, .int .i64 0] 35)) := (Below.refl _ _).alloc (Nat.le_refl _) _
  have KE := Blk.new U2 35 #[.int .i64 0, .int .i64 0, .int .i64 0, .int .i64 0, .int .i64 0, .int .i64 0, .slice none 0 0, .int .i64 0, .int .i64 0]
  obtain ⟨U3, hU3⟩ : ∃ U3, U3 = U2.alloc (.cells #[.int .i64 0, .int .i64 0, .int .i64 0, .int .i64 0, .int .i64 0, .int .i64 0, .slice none 0 0, .int .i64 0, .int .i64 0] 35) := ⟨_, rfl⟩
  rw [← hU3] at D KE
  have HU3 := Lib.hid hU3
  have c3 := (D.cell (p := ⟨g, o_, none⟩) (by show g < _; omega)).trans c2
  have KH : Hid (Blk U3 w.heap.size 35 #[.int .i64 0, .int .i64 0, .int .i64 0, .int .i64 0, .int .i64 0, .int .i64 0, .slice none 0 0, .int .i64 0, .int .i64 0]) := Lib.hid (K2.next D)
  have HB := Lib.hid (bel_tr B2 D)
  clear C K B c0 O D KE K2 B2 c2 hU3
  obtain ⟨y1, hy⟩ : ∃ Y_, Y_ = sets9 U3 w.heap.size (.int .i64 0) (.int .i64 0) (.int .i64 0) (.int .i64 0) (.int .i64 0) (.int .i64 0) (.slice none 0 0) (.int .i64 0) (.int .i64 0) := ⟨_, rfl⟩
  have KF := sets9_blk (v0 := .int .i64 0) (v1 := .int .i64 0) (v2 := .int .i64 0) (v3 := .int .i64 0) (v4 := .int .i64 0) (v5 := .int .i64 0) (v6 := .slice none 0 0) (v7 := .int .i64 0) (v8 := .int .i64 0) KH.out
  rw [← hy] at KF
  obtain ⟨z0, z1, z2, z3, z4, z5, z6, z7, z8⟩ := cells9 KF
  have BF := Lib.hid (show Below w.heap.size w y1 by subst hy; exact sets9_below HB.out (Nat.le_refl _))
  have HY := Lib.hid hy
  clear KF hy
  go_wp2_with (first | (show wpList _ _ _ ({ dst := some _, op := _, type := _, pos := _, after := _, guard := _ } :: _) _ (World.alloc _ _); rw [← HU3.out]) | (show wpList _ _ _ ({ dst := _, op := Op.store _ _ _, type := _, pos := _, after := _, guard := _ } :: _) _ _; refine wpList_str9 rfl _ _ _ rfl w.heap.size (.int .i64 0) (.int .i64 0) (.int .i64 0) (.int .i64 0) (.int .i64 0) (.int .i64 0) (.slice none 0 0) (.int .i64 0) (.int .i64 0) rfl rfl KH.out (by kernel_rfl) rfl ?_; rw [← HY.out]))
  refine bodyPost_ret (v := .tuple #[.agg #[.int .i64 0, .int .i64 0, .int .i64 0, .int .i64 0, .int .i64 0, .int .i64 0, .slice none 0 0, .int .i64 0, .int .i64 0], .bool false]) (by simp [results, Try.results76, go_sem, z0, z1, z2, z3, z4, z5, z6, z7, z8]) rfl (by rw [HX.out]; exact outRM_no BF.out)
set_option maxRecDepth 100000 in
set_option maxHeartbeats 6000000 in
theorem rdE_HourN (cap n g o_ : Nat) (A : ByteArray) (w U : World) (L : List ByteArray) (zs : List Int) (HU : Hid (U = w.alloc (.cells #[.int .i64 0, .int .i64 0, .int .i64 0, .int .i64 0, .int .i64 0, .int .i64 0, .slice none 0 0, .int .i64 0, .int .i64 0] 35))) (K : Blk U w.heap.size 35 #[.int .i64 0, .int .i64 0, .int .i64 0, .int .i64 0, .int .i64 0, .int .i64 0, .slice none 0 0, .int .i64 0, .int .i64 0]) (B : Below w.heap.size w U) (hgw : g < w.heap.size) (hcap : ¬ cap = 1) (hp : (0 : Int) < (n : Int)) (hp1 : (1 : Int) ≤ (n : Int)) (hlc : (n : Int) ≤ (cap : Int)) (c0 : U.cell? ⟨g, o_, none⟩ = some (.string A)) (t0 : (A.toList == [115, 101, 108, 108]) = false)
    (CN3 : Calls Try.prog 96 #[.slice (some ⟨g, o_ + 1, none⟩) (n - 1) (cap - 1)] U fun e w' => ∃ v, e = .returned (.tuple #[v, .bool true]) ∧ OwnI w' U.heap.size v (zs) ∧ Below U.heap.size U w')
    (hzl : (zs).length ≤ 1048576) (hm1 : ¬ (((zs).length : Nat) : Int) = 0) (kk : A.data.toList = kHour) (hm2 : ¬ (zs.length : Int) = 1) (HX : Hid (rdM L = none)) :
    Calls Try.prog 76 #[.slice (some ⟨g, o_, none⟩) n cap] w (OutRM w (rdM L)) := by
  have hwU := K.lt
  have tJoin : (A.toList == [106, 111, 105, 110]) = false := str_ne A kJoin (by rw [kk]; decide)
  have tInh : (A.toList == [105, 110, 104, 101, 114, 105, 116]) = false := str_ne A kInh (by rw [kk]; decide)
  have tTurns : (A.toList == [116, 117, 114, 110, 115]) = false := str_ne A kTurns (by rw [kk]; decide)
  have tHour : (A.toList == [104, 111, 117, 114]) = true := str_eq A kHour kk
  have tSwap : (A.toList == [115, 119, 97, 112]) = false := str_ne A kSwap (by rw [kk]; decide)
  have tGate : (A.toList == [103, 97, 116, 101]) = false := str_ne A kGate (by rw [kk]; decide)
  have tDig : (A.toList == [100, 105, 103]) = false := str_ne A kDig (by rw [kk]; decide)
  go_enter Try.func76, Try.ntmps76
  go_wp2_with (first | (show wpList _ _ _ _ _ (World.alloc _ _); rw [← HU.out]))
  refine CN3.mono ?_
  rintro e U2 ⟨v, rfl, O, C⟩
  obtain ⟨b, cz, rfl, _⟩ := O.ints
  have K2 := K.next C
  have B2 := bel_tr B C
  have lt2 : w.heap.size < U2.heap.size := K2.lt
  have c2 := (C.cell (p := ⟨g, o_, none⟩) (by have := hwU; show g < _; omega)).trans c0
  have D : Below U2.heap.size U2 (U2.alloc (.cells #[.int .i64 0, .int .i64 0, .int .i64 0, .int .i64 0, .int .i64 0, .int .i64 0, .slice none 0 0, .int .i64 0, .int .i64 0] 35)) := (Below.refl _ _).alloc (Nat.le_refl _) _
  have KE := Blk.new U2 35 #[.int .i64 0, .int .i64 0, .int .i64 0, .int .i64 0, .int .i64 0, .int .i64 0, .slice none 0 0, .int .i64 0, .int .i64 0]
  obtain ⟨U3, hU3⟩ : ∃ U3, U3 = U2.alloc (.cells #[.int .i64 0, .int .i64 0, .int .i64 0, .int .i64 0, .int .i64 0, .int .i64 0, .slice none 0 0, .int .i64 0, .int .i64 0] 35) := ⟨_, rfl⟩
  rw [← hU3] at D KE
  have HU3 := Lib.hid hU3
  have c3 := (D.cell (p := ⟨g, o_, none⟩) (by show g < _; omega)).trans c2
  have KH : Hid (Blk U3 w.heap.size 35 #[.int .i64 0, .int .i64 0, .int .i64 0, .int .i64 0, .int .i64 0, .int .i64 0, .slice none 0 0, .int .i64 0, .int .i64 0]) := Lib.hid (K2.next D)
  have HB := Lib.hid (bel_tr B2 D)
  clear C K B c0 O D KE K2 B2 c2 hU3
  obtain ⟨y1, hy⟩ : ∃ Y_, Y_ = sets9 U3 w.heap.size (.int .i64 0) (.int .i64 0) (.int .i64 0) (.int .i64 0) (.int .i64 0) (.int .i64 0) (.slice none 0 0) (.int .i64 0) (.int .i64 0) := ⟨_, rfl⟩
  have KF := sets9_blk (v0 := .int .i64 0) (v1 := .int .i64 0) (v2 := .int .i64 0) (v3 := .int .i64 0) (v4 := .int .i64 0) (v5 := .int .i64 0) (v6 := .slice none 0 0) (v7 := .int .i64 0) (v8 := .int .i64 0) KH.out
  rw [← hy] at KF
  obtain ⟨z0, z1, z2, z3, z4, z5, z6, z7, z8⟩ := cells9 KF
  have BF := Lib.hid (show Below w.heap.size w y1 by subst hy; exact sets9_below HB.out (Nat.le_refl _))
  have HY := Lib.hid hy
  clear KF hy
  go_wp2_with (first | (show wpList _ _ _ ({ dst := some _, op := _, type := _, pos := _, after := _, guard := _ } :: _) _ (World.alloc _ _); rw [← HU3.out]) | (show wpList _ _ _ ({ dst := _, op := Op.store _ _ _, type := _, pos := _, after := _, guard := _ } :: _) _ _; refine wpList_str9 rfl _ _ _ rfl w.heap.size (.int .i64 0) (.int .i64 0) (.int .i64 0) (.int .i64 0) (.int .i64 0) (.int .i64 0) (.slice none 0 0) (.int .i64 0) (.int .i64 0) rfl rfl KH.out (by kernel_rfl) rfl ?_; rw [← HY.out]))
  refine bodyPost_ret (v := .tuple #[.agg #[.int .i64 0, .int .i64 0, .int .i64 0, .int .i64 0, .int .i64 0, .int .i64 0, .slice none 0 0, .int .i64 0, .int .i64 0], .bool false]) (by simp [results, Try.results76, go_sem, z0, z1, z2, z3, z4, z5, z6, z7, z8]) rfl (by rw [HX.out]; exact outRM_no BF.out)
set_option maxRecDepth 100000 in
set_option maxHeartbeats 6000000 in
theorem rdE_SwapN (cap n g o_ : Nat) (A : ByteArray) (w U : World) (L : List ByteArray) (zs : List Int) (HU : Hid (U = w.alloc (.cells #[.int .i64 0, .int .i64 0, .int .i64 0, .int .i64 0, .int .i64 0, .int .i64 0, .slice none 0 0, .int .i64 0, .int .i64 0] 35))) (K : Blk U w.heap.size 35 #[.int .i64 0, .int .i64 0, .int .i64 0, .int .i64 0, .int .i64 0, .int .i64 0, .slice none 0 0, .int .i64 0, .int .i64 0]) (B : Below w.heap.size w U) (hgw : g < w.heap.size) (hcap : ¬ cap = 1) (hp : (0 : Int) < (n : Int)) (hp1 : (1 : Int) ≤ (n : Int)) (hlc : (n : Int) ≤ (cap : Int)) (c0 : U.cell? ⟨g, o_, none⟩ = some (.string A)) (t0 : (A.toList == [115, 101, 108, 108]) = false)
    (CN3 : Calls Try.prog 96 #[.slice (some ⟨g, o_ + 1, none⟩) (n - 1) (cap - 1)] U fun e w' => ∃ v, e = .returned (.tuple #[v, .bool true]) ∧ OwnI w' U.heap.size v (zs) ∧ Below U.heap.size U w')
    (hzl : (zs).length ≤ 1048576) (hm1 : ¬ (((zs).length : Nat) : Int) = 0) (kk : A.data.toList = kSwap) (hm2 : ¬ (zs.length : Int) = 2) (HX : Hid (rdM L = none)) :
    Calls Try.prog 76 #[.slice (some ⟨g, o_, none⟩) n cap] w (OutRM w (rdM L)) := by
  have hwU := K.lt
  have tJoin : (A.toList == [106, 111, 105, 110]) = false := str_ne A kJoin (by rw [kk]; decide)
  have tInh : (A.toList == [105, 110, 104, 101, 114, 105, 116]) = false := str_ne A kInh (by rw [kk]; decide)
  have tTurns : (A.toList == [116, 117, 114, 110, 115]) = false := str_ne A kTurns (by rw [kk]; decide)
  have tHour : (A.toList == [104, 111, 117, 114]) = false := str_ne A kHour (by rw [kk]; decide)
  have tSwap : (A.toList == [115, 119, 97, 112]) = true := str_eq A kSwap kk
  have tGate : (A.toList == [103, 97, 116, 101]) = false := str_ne A kGate (by rw [kk]; decide)
  have tDig : (A.toList == [100, 105, 103]) = false := str_ne A kDig (by rw [kk]; decide)
  go_enter Try.func76, Try.ntmps76
  go_wp2_with (first | (show wpList _ _ _ _ _ (World.alloc _ _); rw [← HU.out]))
  refine CN3.mono ?_
  rintro e U2 ⟨v, rfl, O, C⟩
  obtain ⟨b, cz, rfl, _⟩ := O.ints
  have K2 := K.next C
  have B2 := bel_tr B C
  have lt2 : w.heap.size < U2.heap.size := K2.lt
  have c2 := (C.cell (p := ⟨g, o_, none⟩) (by have := hwU; show g < _; omega)).trans c0
  have D : Below U2.heap.size U2 (U2.alloc (.cells #[.int .i64 0, .int .i64 0, .int .i64 0, .int .i64 0, .int .i64 0, .int .i64 0, .slice none 0 0, .int .i64 0, .int .i64 0] 35)) := (Below.refl _ _).alloc (Nat.le_refl _) _
  have KE := Blk.new U2 35 #[.int .i64 0, .int .i64 0, .int .i64 0, .int .i64 0, .int .i64 0, .int .i64 0, .slice none 0 0, .int .i64 0, .int .i64 0]
  obtain ⟨U3, hU3⟩ : ∃ U3, U3 = U2.alloc (.cells #[.int .i64 0, .int .i64 0, .int .i64 0, .int .i64 0, .int .i64 0, .int .i64 0, .slice none 0 0, .int .i64 0, .int .i64 0] 35) := ⟨_, rfl⟩
  rw [← hU3] at D KE
  have HU3 := Lib.hid hU3
  have c3 := (D.cell (p := ⟨g, o_, none⟩) (by show g < _; omega)).trans c2
  have KH : Hid (Blk U3 w.heap.size 35 #[.int .i64 0, .int .i64 0, .int .i64 0, .int .i64 0, .int .i64 0, .int .i64 0, .slice none 0 0, .int .i64 0, .int .i64 0]) := Lib.hid (K2.next D)
  have HB := Lib.hid (bel_tr B2 D)
  clear C K B c0 O D KE K2 B2 c2 hU3
  obtain ⟨y1, hy⟩ : ∃ Y_, Y_ = sets9 U3 w.heap.size (.int .i64 0) (.int .i64 0) (.int .i64 0) (.int .i64 0) (.int .i64 0) (.int .i64 0) (.slice none 0 0) (.int .i64 0) (.int .i64 0) := ⟨_, rfl⟩
  have KF := sets9_blk (v0 := .int .i64 0) (v1 := .int .i64 0) (v2 := .int .i64 0) (v3 := .int .i64 0) (v4 := .int .i64 0) (v5 := .int .i64 0) (v6 := .slice none 0 0) (v7 := .int .i64 0) (v8 := .int .i64 0) KH.out
  rw [← hy] at KF
  obtain ⟨z0, z1, z2, z3, z4, z5, z6, z7, z8⟩ := cells9 KF
  have BF := Lib.hid (show Below w.heap.size w y1 by subst hy; exact sets9_below HB.out (Nat.le_refl _))
  have HY := Lib.hid hy
  clear KF hy
  go_wp2_with (first | (show wpList _ _ _ ({ dst := some _, op := _, type := _, pos := _, after := _, guard := _ } :: _) _ (World.alloc _ _); rw [← HU3.out]) | (show wpList _ _ _ ({ dst := _, op := Op.store _ _ _, type := _, pos := _, after := _, guard := _ } :: _) _ _; refine wpList_str9 rfl _ _ _ rfl w.heap.size (.int .i64 0) (.int .i64 0) (.int .i64 0) (.int .i64 0) (.int .i64 0) (.int .i64 0) (.slice none 0 0) (.int .i64 0) (.int .i64 0) rfl rfl KH.out (by kernel_rfl) rfl ?_; rw [← HY.out]))
  refine bodyPost_ret (v := .tuple #[.agg #[.int .i64 0, .int .i64 0, .int .i64 0, .int .i64 0, .int .i64 0, .int .i64 0, .slice none 0 0, .int .i64 0, .int .i64 0], .bool false]) (by simp [results, Try.results76, go_sem, z0, z1, z2, z3, z4, z5, z6, z7, z8]) rfl (by rw [HX.out]; exact outRM_no BF.out)
set_option maxRecDepth 100000 in
set_option maxHeartbeats 6000000 in
theorem rdE_GateN (cap n g o_ : Nat) (A : ByteArray) (w U : World) (L : List ByteArray) (zs : List Int) (HU : Hid (U = w.alloc (.cells #[.int .i64 0, .int .i64 0, .int .i64 0, .int .i64 0, .int .i64 0, .int .i64 0, .slice none 0 0, .int .i64 0, .int .i64 0] 35))) (K : Blk U w.heap.size 35 #[.int .i64 0, .int .i64 0, .int .i64 0, .int .i64 0, .int .i64 0, .int .i64 0, .slice none 0 0, .int .i64 0, .int .i64 0]) (B : Below w.heap.size w U) (hgw : g < w.heap.size) (hcap : ¬ cap = 1) (hp : (0 : Int) < (n : Int)) (hp1 : (1 : Int) ≤ (n : Int)) (hlc : (n : Int) ≤ (cap : Int)) (c0 : U.cell? ⟨g, o_, none⟩ = some (.string A)) (t0 : (A.toList == [115, 101, 108, 108]) = false)
    (CN3 : Calls Try.prog 96 #[.slice (some ⟨g, o_ + 1, none⟩) (n - 1) (cap - 1)] U fun e w' => ∃ v, e = .returned (.tuple #[v, .bool true]) ∧ OwnI w' U.heap.size v (zs) ∧ Below U.heap.size U w')
    (hzl : (zs).length ≤ 1048576) (hm1 : ¬ (((zs).length : Nat) : Int) = 0) (kk : A.data.toList = kGate) (hm2 : ¬ (zs.length : Int) = 2) (HX : Hid (rdM L = none)) :
    Calls Try.prog 76 #[.slice (some ⟨g, o_, none⟩) n cap] w (OutRM w (rdM L)) := by
  have hwU := K.lt
  have tJoin : (A.toList == [106, 111, 105, 110]) = false := str_ne A kJoin (by rw [kk]; decide)
  have tInh : (A.toList == [105, 110, 104, 101, 114, 105, 116]) = false := str_ne A kInh (by rw [kk]; decide)
  have tTurns : (A.toList == [116, 117, 114, 110, 115]) = false := str_ne A kTurns (by rw [kk]; decide)
  have tHour : (A.toList == [104, 111, 117, 114]) = false := str_ne A kHour (by rw [kk]; decide)
  have tSwap : (A.toList == [115, 119, 97, 112]) = false := str_ne A kSwap (by rw [kk]; decide)
  have tGate : (A.toList == [103, 97, 116, 101]) = true := str_eq A kGate kk
  have tDig : (A.toList == [100, 105, 103]) = false := str_ne A kDig (by rw [kk]; decide)
  go_enter Try.func76, Try.ntmps76
  go_wp2_with (first | (show wpList _ _ _ _ _ (World.alloc _ _); rw [← HU.out]))
  refine CN3.mono ?_
  rintro e U2 ⟨v, rfl, O, C⟩
  obtain ⟨b, cz, rfl, _⟩ := O.ints
  have K2 := K.next C
  have B2 := bel_tr B C
  have lt2 : w.heap.size < U2.heap.size := K2.lt
  have c2 := (C.cell (p := ⟨g, o_, none⟩) (by have := hwU; show g < _; omega)).trans c0
  have D : Below U2.heap.size U2 (U2.alloc (.cells #[.int .i64 0, .int .i64 0, .int .i64 0, .int .i64 0, .int .i64 0, .int .i64 0, .slice none 0 0, .int .i64 0, .int .i64 0] 35)) := (Below.refl _ _).alloc (Nat.le_refl _) _
  have KE := Blk.new U2 35 #[.int .i64 0, .int .i64 0, .int .i64 0, .int .i64 0, .int .i64 0, .int .i64 0, .slice none 0 0, .int .i64 0, .int .i64 0]
  obtain ⟨U3, hU3⟩ : ∃ U3, U3 = U2.alloc (.cells #[.int .i64 0, .int .i64 0, .int .i64 0, .int .i64 0, .int .i64 0, .int .i64 0, .slice none 0 0, .int .i64 0, .int .i64 0] 35) := ⟨_, rfl⟩
  rw [← hU3] at D KE
  have HU3 := Lib.hid hU3
  have c3 := (D.cell (p := ⟨g, o_, none⟩) (by show g < _; omega)).trans c2
  have KH : Hid (Blk U3 w.heap.size 35 #[.int .i64 0, .int .i64 0, .int .i64 0, .int .i64 0, .int .i64 0, .int .i64 0, .slice none 0 0, .int .i64 0, .int .i64 0]) := Lib.hid (K2.next D)
  have HB := Lib.hid (bel_tr B2 D)
  clear C K B c0 O D KE K2 B2 c2 hU3
  obtain ⟨y1, hy⟩ : ∃ Y_, Y_ = sets9 U3 w.heap.size (.int .i64 0) (.int .i64 0) (.int .i64 0) (.int .i64 0) (.int .i64 0) (.int .i64 0) (.slice none 0 0) (.int .i64 0) (.int .i64 0) := ⟨_, rfl⟩
  have KF := sets9_blk (v0 := .int .i64 0) (v1 := .int .i64 0) (v2 := .int .i64 0) (v3 := .int .i64 0) (v4 := .int .i64 0) (v5 := .int .i64 0) (v6 := .slice none 0 0) (v7 := .int .i64 0) (v8 := .int .i64 0) KH.out
  rw [← hy] at KF
  obtain ⟨z0, z1, z2, z3, z4, z5, z6, z7, z8⟩ := cells9 KF
  have BF := Lib.hid (show Below w.heap.size w y1 by subst hy; exact sets9_below HB.out (Nat.le_refl _))
  have HY := Lib.hid hy
  clear KF hy
  go_wp2_with (first | (show wpList _ _ _ ({ dst := some _, op := _, type := _, pos := _, after := _, guard := _ } :: _) _ (World.alloc _ _); rw [← HU3.out]) | (show wpList _ _ _ ({ dst := _, op := Op.store _ _ _, type := _, pos := _, after := _, guard := _ } :: _) _ _; refine wpList_str9 rfl _ _ _ rfl w.heap.size (.int .i64 0) (.int .i64 0) (.int .i64 0) (.int .i64 0) (.int .i64 0) (.int .i64 0) (.slice none 0 0) (.int .i64 0) (.int .i64 0) rfl rfl KH.out (by kernel_rfl) rfl ?_; rw [← HY.out]))
  refine bodyPost_ret (v := .tuple #[.agg #[.int .i64 0, .int .i64 0, .int .i64 0, .int .i64 0, .int .i64 0, .int .i64 0, .slice none 0 0, .int .i64 0, .int .i64 0], .bool false]) (by simp [results, Try.results76, go_sem, z0, z1, z2, z3, z4, z5, z6, z7, z8]) rfl (by rw [HX.out]; exact outRM_no BF.out)
set_option maxRecDepth 100000 in
set_option maxHeartbeats 6000000 in
theorem rdE_Dig (cap n g o_ : Nat) (A : ByteArray) (w U : World) (L : List ByteArray) (m0_ m1_ : Int) (HU : Hid (U = w.alloc (.cells #[.int .i64 0, .int .i64 0, .int .i64 0, .int .i64 0, .int .i64 0, .int .i64 0, .slice none 0 0, .int .i64 0, .int .i64 0] 35))) (K : Blk U w.heap.size 35 #[.int .i64 0, .int .i64 0, .int .i64 0, .int .i64 0, .int .i64 0, .int .i64 0, .slice none 0 0, .int .i64 0, .int .i64 0]) (B : Below w.heap.size w U) (hgw : g < w.heap.size) (hcap : ¬ cap = 1) (hp : (0 : Int) < (n : Int)) (hp1 : (1 : Int) ≤ (n : Int)) (hlc : (n : Int) ≤ (cap : Int)) (c0 : U.cell? ⟨g, o_, none⟩ = some (.string A)) (t0 : (A.toList == [115, 101, 108, 108]) = false)
    (CN3 : Calls Try.prog 96 #[.slice (some ⟨g, o_ + 1, none⟩) (n - 1) (cap - 1)] U fun e w' => ∃ v, e = .returned (.tuple #[v, .bool true]) ∧ OwnI w' U.heap.size v ([m0_, m1_]) ∧ Below U.heap.size U w')
    (hzl : ([m0_, m1_]).length ≤ 1048576) (hm1 : ¬ ((([m0_, m1_]).length : Nat) : Int) = 0) (kk : A.data.toList = kDig) (HX : Hid (rdM L = some ⟨4, dd0, m0_, m1_⟩)) :
    Calls Try.prog 76 #[.slice (some ⟨g, o_, none⟩) n cap] w (OutRM w (rdM L)) := by
  have hwU := K.lt
  have hcz : True := trivial
  have tJoin : (A.toList == [106, 111, 105, 110]) = false := str_ne A kJoin (by rw [kk]; decide)
  have tInh : (A.toList == [105, 110, 104, 101, 114, 105, 116]) = false := str_ne A kInh (by rw [kk]; decide)
  have tTurns : (A.toList == [116, 117, 114, 110, 115]) = false := str_ne A kTurns (by rw [kk]; decide)
  have tHour : (A.toList == [104, 111, 117, 114]) = false := str_ne A kHour (by rw [kk]; decide)
  have tSwap : (A.toList == [115, 119, 97, 112]) = false := str_ne A kSwap (by rw [kk]; decide)
  have tGate : (A.toList == [103, 97, 116, 101]) = false := str_ne A kGate (by rw [kk]; decide)
  have tDig : (A.toList == [100, 105, 103]) = true := str_eq A kDig kk
  go_enter Try.func76, Try.ntmps76
  go_wp2_with (first | (show wpList _ _ _ _ _ (World.alloc _ _); rw [← HU.out]))
  refine CN3.mono ?_
  rintro e U2 ⟨v, rfl, O, C⟩
  obtain ⟨b, cz, rfl, _⟩ := O.ints
  obtain ⟨gz, rfl, hgz⟩ := O.form_ (by simp)
  have K2 := K.next C
  have B2 := bel_tr B C
  have lt2 : w.heap.size < U2.heap.size := K2.lt
  have c2 := (C.cell (p := ⟨g, o_, none⟩) (by have := hwU; show g < _; omega)).trans c0
  have D : Below U2.heap.size U2 (U2.alloc (.cells #[.int .i64 0, .int .i64 0, .int .i64 0, .int .i64 0, .int .i64 0, .int .i64 0, .slice none 0 0, .int .i64 0, .int .i64 0] 35)) := (Below.refl _ _).alloc (Nat.le_refl _) _
  have KE := Blk.new U2 35 #[.int .i64 0, .int .i64 0, .int .i64 0, .int .i64 0, .int .i64 0, .int .i64 0, .slice none 0 0, .int .i64 0, .int .i64 0]
  obtain ⟨U3, hU3⟩ : ∃ U3, U3 = U2.alloc (.cells #[.int .i64 0, .int .i64 0, .int .i64 0, .int .i64 0, .int .i64 0, .int .i64 0, .slice none 0 0, .int .i64 0, .int .i64 0] 35) := ⟨_, rfl⟩
  rw [← hU3] at D KE
  have HU3 := Lib.hid hU3
  have c3 := (D.cell (p := ⟨g, o_, none⟩) (by show g < _; omega)).trans c2
  have zc0 : U3.cell? ⟨gz, 0, none⟩ = some (.int .i64 m0_) := (D.cell (p := ⟨gz, 0, none⟩) (O.blk.2)).trans (O.cell (j := 0) (by simp))
  have zc1 : U3.cell? ⟨gz, 1, none⟩ = some (.int .i64 m1_) := (D.cell (p := ⟨gz, 1, none⟩) (O.blk.2)).trans (O.cell (j := 1) (by simp))
  have hz2 := O.blk.2
  have KEh : Hid (Blk U3.drew U2.heap.size 35 #[.int .i64 0, .int .i64 0, .int .i64 0, .int .i64 0, .int .i64 0, .int .i64 0, .slice none 0 0, .int .i64 0, .int .i64 0]) := Lib.hid KE
  obtain ⟨YE, hye⟩ : ∃ Y_, Y_ = sets9 U3.drew U2.heap.size (.int .i64 4) (.int .i64 0) (.int .i64 0) (.int .i64 0) (.int .i64 0) (.int .i64 0) (.slice none 0 0) (.int .i64 m0_) (.int .i64 m1_) := ⟨_, rfl⟩
  have KE2 := sets9_blk (v0 := .int .i64 4) (v1 := .int .i64 0) (v2 := .int .i64 0) (v3 := .int .i64 0) (v4 := .int .i64 0) (v5 := .int .i64 0) (v6 := .slice none 0 0) (v7 := .int .i64 m0_) (v8 := .int .i64 m1_) KEh.out
  rw [← hye] at KE2
  have KR : Hid (Blk YE w.heap.size 35 #[.int .i64 0, .int .i64 0, .int .i64 0, .int .i64 0, .int .i64 0, .int .i64 0, .slice none 0 0, .int .i64 0, .int .i64 0]) := Lib.hid (far9 (show Blk U3.drew w.heap.size 35 #[.int .i64 0, .int .i64 0, .int .i64 0, .int .i64 0, .int .i64 0, .int .i64 0, .slice none 0 0, .int .i64 0, .int .i64 0] from (K2.next D).drew) hye (by omega))
  have HB : Hid (Below w.heap.size w YE) := Lib.hid (X9B (show Below w.heap.size w U3.drew from (bel_tr B2 D).drew) hye (by omega))
  obtain ⟨e0, e1, e2, e3, e4, e5, e6, e7, e8⟩ := cells9 KE2
  have HYE := Lib.hid hye
  clear C K B c0 O D KE K2 B2 c2 hU3 hye KE2
  go_wp2_with (first | (show wpList _ _ _ ({ dst := some _, op := _, type := _, pos := _, after := _, guard := _ } :: _) _ (World.alloc _ _); rw [← HU3.out]))
  refine wp_region_still_tail 7 (by kernel_rfl) (by kernel_rfl) ?_
  simp only [List.take_succ_cons, List.take_zero, List.drop_succ_cons, List.drop_zero]
  iterate 7 still_step
  refine wpStill_nil ?_
  change wpList _ _ _ _ _ U3.drew
  obtain ⟨y1, hy⟩ : ∃ Y_, Y_ = sets9 YE w.heap.size (.int .i64 4) (.int .i64 0) (.int .i64 0) (.int .i64 0) (.int .i64 0) (.int .i64 0) (.slice none 0 0) (.int .i64 m0_) (.int .i64 m1_) := ⟨_, rfl⟩
  have KF := sets9_blk (v0 := .int .i64 4) (v1 := .int .i64 0) (v2 := .int .i64 0) (v3 := .int .i64 0) (v4 := .int .i64 0) (v5 := .int .i64 0) (v6 := .slice none 0 0) (v7 := .int .i64 m0_) (v8 := .int .i64 m1_) KR.out
  rw [← hy] at KF
  obtain ⟨z0, z1, z2, z3, z4, z5, z6, z7, z8⟩ := cells9 KF
  have BF := Lib.hid (show Below w.heap.size w y1 by subst hy; exact sets9_below HB.out (Nat.le_refl _))
  have HY := Lib.hid hy
  clear KF hy
  go_wp2_with (first | (show wpList _ _ _ ({ dst := _, op := Op.store _ _ _, type := _, pos := _, after := _, guard := _ } :: _) _ _; refine wpList_str9 rfl _ _ _ rfl U2.heap.size (.int .i64 4) (.int .i64 0) (.int .i64 0) (.int .i64 0) (.int .i64 0) (.int .i64 0) (.slice none 0 0) (.int .i64 m0_) (.int .i64 m1_) rfl rfl KEh.out (by kernel_rfl) rfl ?_; rw [← HYE.out]) | (show wpList _ _ _ ({ dst := _, op := Op.store _ _ _, type := _, pos := _, after := _, guard := _ } :: _) _ _; refine wpList_str9 rfl _ _ _ rfl w.heap.size (.int .i64 4) (.int .i64 0) (.int .i64 0) (.int .i64 0) (.int .i64 0) (.int .i64 0) (.slice none 0 0) (.int .i64 m0_) (.int .i64 m1_) rfl rfl KR.out (by kernel_rfl) rfl ?_; rw [← HY.out]))
  refine bodyPost_ret (v := .tuple #[.agg #[.int .i64 4, .int .i64 0, .int .i64 0, .int .i64 0, .int .i64 0, .int .i64 0, .slice none 0 0, .int .i64 m0_, .int .i64 m1_], .bool true]) (by simp [results, Try.results76, go_sem, z0, z1, z2, z3, z4, z5, z6, z7, z8]) rfl (by rw [HX.out]; exact outRM_flat BF.out rfl)
set_option maxRecDepth 100000 in
set_option maxHeartbeats 6000000 in
theorem rdE_DigN (cap n g o_ : Nat) (A : ByteArray) (w U : World) (L : List ByteArray) (zs : List Int) (HU : Hid (U = w.alloc (.cells #[.int .i64 0, .int .i64 0, .int .i64 0, .int .i64 0, .int .i64 0, .int .i64 0, .slice none 0 0, .int .i64 0, .int .i64 0] 35))) (K : Blk U w.heap.size 35 #[.int .i64 0, .int .i64 0, .int .i64 0, .int .i64 0, .int .i64 0, .int .i64 0, .slice none 0 0, .int .i64 0, .int .i64 0]) (B : Below w.heap.size w U) (hgw : g < w.heap.size) (hcap : ¬ cap = 1) (hp : (0 : Int) < (n : Int)) (hp1 : (1 : Int) ≤ (n : Int)) (hlc : (n : Int) ≤ (cap : Int)) (c0 : U.cell? ⟨g, o_, none⟩ = some (.string A)) (t0 : (A.toList == [115, 101, 108, 108]) = false)
    (CN3 : Calls Try.prog 96 #[.slice (some ⟨g, o_ + 1, none⟩) (n - 1) (cap - 1)] U fun e w' => ∃ v, e = .returned (.tuple #[v, .bool true]) ∧ OwnI w' U.heap.size v (zs) ∧ Below U.heap.size U w')
    (hzl : (zs).length ≤ 1048576) (hm1 : ¬ (((zs).length : Nat) : Int) = 0) (kk : A.data.toList = kDig) (hm2 : ¬ (zs.length : Int) = 2) (HX : Hid (rdM L = none)) :
    Calls Try.prog 76 #[.slice (some ⟨g, o_, none⟩) n cap] w (OutRM w (rdM L)) := by
  have hwU := K.lt
  have tJoin : (A.toList == [106, 111, 105, 110]) = false := str_ne A kJoin (by rw [kk]; decide)
  have tInh : (A.toList == [105, 110, 104, 101, 114, 105, 116]) = false := str_ne A kInh (by rw [kk]; decide)
  have tTurns : (A.toList == [116, 117, 114, 110, 115]) = false := str_ne A kTurns (by rw [kk]; decide)
  have tHour : (A.toList == [104, 111, 117, 114]) = false := str_ne A kHour (by rw [kk]; decide)
  have tSwap : (A.toList == [115, 119, 97, 112]) = false := str_ne A kSwap (by rw [kk]; decide)
  have tGate : (A.toList == [103, 97, 116, 101]) = false := str_ne A kGate (by rw [kk]; decide)
  have tDig : (A.toList == [100, 105, 103]) = true := str_eq A kDig kk
  go_enter Try.func76, Try.ntmps76
  go_wp2_with (first | (show wpList _ _ _ _ _ (World.alloc _ _); rw [← HU.out]))
  refine CN3.mono ?_
  rintro e U2 ⟨v, rfl, O, C⟩
  obtain ⟨b, cz, rfl, _⟩ := O.ints
  have K2 := K.next C
  have B2 := bel_tr B C
  have lt2 : w.heap.size < U2.heap.size := K2.lt
  have c2 := (C.cell (p := ⟨g, o_, none⟩) (by have := hwU; show g < _; omega)).trans c0
  have D : Below U2.heap.size U2 (U2.alloc (.cells #[.int .i64 0, .int .i64 0, .int .i64 0, .int .i64 0, .int .i64 0, .int .i64 0, .slice none 0 0, .int .i64 0, .int .i64 0] 35)) := (Below.refl _ _).alloc (Nat.le_refl _) _
  have KE := Blk.new U2 35 #[.int .i64 0, .int .i64 0, .int .i64 0, .int .i64 0, .int .i64 0, .int .i64 0, .slice none 0 0, .int .i64 0, .int .i64 0]
  obtain ⟨U3, hU3⟩ : ∃ U3, U3 = U2.alloc (.cells #[.int .i64 0, .int .i64 0, .int .i64 0, .int .i64 0, .int .i64 0, .int .i64 0, .slice none 0 0, .int .i64 0, .int .i64 0] 35) := ⟨_, rfl⟩
  rw [← hU3] at D KE
  have HU3 := Lib.hid hU3
  have c3 := (D.cell (p := ⟨g, o_, none⟩) (by show g < _; omega)).trans c2
  have KH : Hid (Blk U3 w.heap.size 35 #[.int .i64 0, .int .i64 0, .int .i64 0, .int .i64 0, .int .i64 0, .int .i64 0, .slice none 0 0, .int .i64 0, .int .i64 0]) := Lib.hid (K2.next D)
  have HB := Lib.hid (bel_tr B2 D)
  clear C K B c0 O D KE K2 B2 c2 hU3
  obtain ⟨y1, hy⟩ : ∃ Y_, Y_ = sets9 U3 w.heap.size (.int .i64 0) (.int .i64 0) (.int .i64 0) (.int .i64 0) (.int .i64 0) (.int .i64 0) (.slice none 0 0) (.int .i64 0) (.int .i64 0) := ⟨_, rfl⟩
  have KF := sets9_blk (v0 := .int .i64 0) (v1 := .int .i64 0) (v2 := .int .i64 0) (v3 := .int .i64 0) (v4 := .int .i64 0) (v5 := .int .i64 0) (v6 := .slice none 0 0) (v7 := .int .i64 0) (v8 := .int .i64 0) KH.out
  rw [← hy] at KF
  obtain ⟨z0, z1, z2, z3, z4, z5, z6, z7, z8⟩ := cells9 KF
  have BF := Lib.hid (show Below w.heap.size w y1 by subst hy; exact sets9_below HB.out (Nat.le_refl _))
  have HY := Lib.hid hy
  clear KF hy
  go_wp2_with (first | (show wpList _ _ _ ({ dst := some _, op := _, type := _, pos := _, after := _, guard := _ } :: _) _ (World.alloc _ _); rw [← HU3.out]) | (show wpList _ _ _ ({ dst := _, op := Op.store _ _ _, type := _, pos := _, after := _, guard := _ } :: _) _ _; refine wpList_str9 rfl _ _ _ rfl w.heap.size (.int .i64 0) (.int .i64 0) (.int .i64 0) (.int .i64 0) (.int .i64 0) (.int .i64 0) (.slice none 0 0) (.int .i64 0) (.int .i64 0) rfl rfl KH.out (by kernel_rfl) rfl ?_; rw [← HY.out]))
  refine bodyPost_ret (v := .tuple #[.agg #[.int .i64 0, .int .i64 0, .int .i64 0, .int .i64 0, .int .i64 0, .int .i64 0, .slice none 0 0, .int .i64 0, .int .i64 0], .bool false]) (by simp [results, Try.results76, go_sem, z0, z1, z2, z3, z4, z5, z6, z7, z8]) rfl (by rw [HX.out]; exact outRM_no BF.out)
end Go.Proofs.Ythagafkjlecagaa
