/- Contracts and facts of functions of this program, in build order. Conditions: those stated in each. -/
import Derived.Test.YthagafkjlecagabGreatChecked
import Derived.OrdersHeld
import Derived.WalkKit
import Derived.Below
import Derived.Lib.Hide
import Derived.Outline
import Derived.Deep.LoopGhost
import Derived.Handy
import Derived.Deep.QuietTactic
import Derived.BigQuiet
import Derived.Laws.AppendOwn
import Derived.OwnWalk
import Derived.OpenShut
import Derived.Deep.OwnRows
import Derived.Laws.OwnMore
import Derived.Maps.AppendAt
import Derived.Deep.AppendLies
import Derived.Deep.Draws
import Derived.RegionTactic
import Derived.Deep.Slices
import Derived.ChangeSame
import Derived.ChangeArms
import Derived.ProofKit
set_option maxRecDepth 100000
set_option maxHeartbeats 16000000
namespace Go.Proofs.YthagafkjlecagabGreat
open Go.RowKit
set_option linter.unusedSimpArgs false
set_option linter.unusedVariables false
theorem tk {P : Program} {md : Region.Mode} {l : List Oper} {Q : Exit → Act → World → Prop} {S : World → Prop} {i : Nat} {oi : Oper} {v : Value} {fuel : Nat} {listed : Array Bool} {a : Act} {w : World}
    (hi : l[i]? = some oi) (hy : YieldsIf P l.toArray S oi v a) (h : wpAnyH P md l.toArray Q S fuel (listed.setIfInBounds i true) (a.put oi.dst v) w)
    (hs : Region.noSelect l.toArray = true := by kernel_rfl) (hf : (Region.free md l.toArray listed i && (Region.ready md l.toArray listed).contains i) = true := by kernel_rfl)
    (hS : S w := by assumption) (hQ : ∀ c a w, Q (.panic c) (a.put oi.dst v) w → Q (.panic c) a w := by exact fun _ _ _ h => h) : wpAnyH P md l.toArray Q S (fuel + 1) listed a w := by
  rw [Bool.and_eq_true] at hf
  exact wpAnyH_take (by rw [List.getElem?_toArray]; exact hi) hs hf.1 hf.2 hQ hy hS h
theorem gl : (∀ (l : List Oper) (i : Nat), l.toArray[i]? = l[i]?) ∧ (∀ (x : Oper) (l : List Oper) (i : Nat), (x :: l)[i + 1]? = l[i]?) ∧ (∀ (x : Oper) (l : List Oper), (x :: l)[0]? = some x) :=
  ⟨fun _ _ => List.getElem?_toArray .., fun _ _ _ => List.getElem?_cons_succ .., fun _ _ => List.getElem?_cons_zero ..⟩
theorem pt : (∀ (a : Act) (t : Tmp) (v : Value), a.put (some t) v = { a with tmps := a.tmps.setIfInBounds t v }) ∧ (∀ (a : Act) (v : Value), a.put none v = a) ∧ (∀ (l : List Value) (i : Nat) (v : Value), l.toArray.setIfInBounds i v = (l.set i v).toArray) ∧ (∀ (l : List Bool) (i : Nat) (v : Bool), l.toArray.setIfInBounds i v = (l.set i v).toArray)
    ∧ (∀ (x : Value) (l : List Value) (v : Value), (x :: l).set 0 v = v :: l) ∧ (∀ (x : Value) (l : List Value) (i : Nat) (v : Value), (x :: l).set (i + 1) v = x :: l.set i v) ∧ (∀ (x : Bool) (l : List Bool) (v : Bool), (x :: l).set 0 v = v :: l) ∧ (∀ (x : Bool) (l : List Bool) (i : Nat) (v : Bool), (x :: l).set (i + 1) v = x :: l.set i v) :=
  ⟨fun _ _ _ => rfl, fun _ _ => rfl, fun _ _ _ => List.setIfInBounds_toArray .., fun _ _ _ => List.setIfInBounds_toArray .., fun _ _ _ => rfl, fun _ _ _ _ => rfl, fun _ _ _ => rfl, fun _ _ _ _ => rfl⟩
theorem ret_int {k : IntKind} {a b : Int} (h : a = b) : Ending.returned (.int k a) = .returned (.int k b) := by rw [h]
theorem bcell {W w1 : World} (hb : Below W.heap.size W w1) : (∀ b o, b < W.heap.size → w1.cell? ⟨b, o, none⟩ = W.cell? ⟨b, o, none⟩) ∧ (∀ b o, b < W.heap.size → w1.frozen? ⟨b, o, none⟩ = W.frozen? ⟨b, o, none⟩) :=
 ⟨fun b o h => hb.cell (p := ⟨b, o, none⟩) h, fun b o h => hb.frozen (p := ⟨b, o, none⟩) h⟩
theorem bel_tr {w a b : World} (h1 : Below w.heap.size w a) (h2 : Below a.heap.size a b) : Below w.heap.size w b := h1.trans (h2.mono h1.size)
theorem ret_bool {a b : Bool} (h : a = b) : Ending.returned (.bool a) = .returned (.bool b) := by rw [h]
theorem inRange_yes (n l h : Int) (w : World) (a : l ≤ n) (b : n ≤ h) :
  Calls Tryz.prog 52 #[.int .i64 n, .int .i64 l, .int .i64 h] w fun e w' => e = .returned (.bool true) ∧ w = w' := by
 go_enter Tryz.func52, Tryz.ntmps52
 go_wp2
 go_ret; exact ⟨rfl, rfl⟩
theorem inRange_no (n l h : Int) (w : World) (a : n < l ∨ h < n) :
  Calls Tryz.prog 52 #[.int .i64 n, .int .i64 l, .int .i64 h] w fun e w' => e = .returned (.bool false) ∧ w = w' := by
 by_cases b : n < l
 ·go_enter Tryz.func52, Tryz.ntmps52
  go_wp2
  go_ret; exact ⟨rfl, rfl⟩
 ·have c : h < n := by omega
  have hd : decide (n ≤ h) = false := by simp; omega
  clear a; go_enter Tryz.func52, Tryz.ntmps52
  go_wp2
  go_ret; exact ⟨rfl, rfl⟩
def IsInts (w : World) (a : Option Addr) (zs : List Int) : Prop := zs = [] ∨ ∃ g o, a = some ⟨g, o, none⟩ ∧ ∀ i, i < zs.length → w.cell? ⟨g, o + i, none⟩ = some (.int .i64 (zs.getD i 0))
theorem take_sum (zs : List Int) (k : Nat) (h : k < zs.length) : (zs.take (k + 1)).sum = (zs.take k).sum + zs.getD k 0 := by
 rw [List.take_succ_eq_append_getElem h, List.sum_append, List.getD_eq_getElem?_getD, List.getElem?_eq_getElem h]
 simp
theorem getD_mem {zs : List Int} {k : Nat} (h : k < zs.length) : zs.getD k 0 ∈ zs := by
 rw [List.getD_eq_getElem?_getD, List.getElem?_eq_getElem h]; simp
theorem sum_bd (zs : List Int) (h : ∀ z ∈ zs, -1000000 ≤ z ∧ z ≤ 1000000) : ∀ k, k ≤ zs.length → -1000000 * (k : Int) ≤ (zs.take k).sum ∧ (zs.take k).sum ≤ 1000000 * (k : Int) := by
  intro k
  induction k with
  | zero => intro _; simp
  | succ k ih =>
    intro hk; have h1 := ih (by omega); have h2 := h _ (getD_mem (k := k) (by omega)); rw [take_sum zs k (by omega)]
    omega
theorem stotal (a : Option Addr) (cap : Nat) (zs : List Int) (w : World) (h : IsInts w a zs) (hn : zs.length ≤ 1048576) (hz : ∀ z ∈ zs, -1000000 ≤ z ∧ z ≤ 1000000) :
  Calls Tryz.prog 124 #[.slice a zs.length cap] w fun e w' => e = .returned (.int .i64 zs.sum) ∧ w = w' := by
 rcases h with rfl | ⟨g, o, rfl, hc⟩
 ·go_enter Tryz.func124, Tryz.ntmps124
  go_wp2
  go_rounds 1
  go_ret; exact ⟨rfl, rfl⟩
 ·have HB := Lib.hid (sum_bd zs hz)
  have HC := Lib.hid hc; have HZ := Lib.hid hz; clear hc hz; go_enter Tryz.func124, Tryz.ntmps124
  go_wp2
  go_loop [3, 4] (fun s i => ∃ k : Nat, k ≤ zs.length ∧ i = .int .i64 k ∧ s = .int .i64 (zs.take k).sum) (fun _ i => zs.length - (intOf i).toNat)
  case atStart => exact ⟨0, Nat.zero_le _, rfl, rfl⟩
  case round =>
   obtain ⟨k, hk, rfl, rfl⟩ := hrel; obtain ⟨b0, b1⟩ := HB.out k hk
   by_cases hlt : k < zs.length
   ·have hc := HC.out k hlt
    have ht := take_sum zs k hlt; obtain ⟨z0, z1⟩ := HZ.out _ (getD_mem hlt); generalize zs.getD k 0 = z at hc ht z0 z1; have HT := Lib.hid ht; clear ht
    go_wp2
    go_round
    case rel => exact ⟨k + 1, by omega, by go_num, by rw [HT.out]⟩
    case measure => simp [intOf]; omega
   ·go_wp2
    go_ret; exact ⟨ret_int (by rw [List.take_of_length_le (by omega)]), rfl⟩
theorem isum (a : Option Addr) (cap : Nat) (zs : List Int) (w : World) (h : IsInts w a zs) (hn : zs.length ≤ 1048576) (hz : ∀ z ∈ zs, -1000000 ≤ z ∧ z ≤ 1000000) :
  Calls Tryz.prog 136 #[.slice a zs.length cap] w fun e w' => e = .returned (.int .i64 zs.sum) ∧ w = w' := by
 rcases h with rfl | ⟨g, o, rfl, hc⟩
 ·go_enter Tryz.func136, Tryz.ntmps136
  go_wp2
  go_rounds 1
  go_ret; exact ⟨rfl, rfl⟩
 ·have HB := Lib.hid (sum_bd zs hz)
  have HC := Lib.hid hc; have HZ := Lib.hid hz; clear hc hz; go_enter Tryz.func136, Tryz.ntmps136
  go_wp2
  go_loop [3, 8] (fun s i => ∃ k : Nat, k ≤ zs.length ∧ i = .int .i64 k ∧ s = .int .i64 (zs.take k).sum) (fun _ i => zs.length - (intOf i).toNat)
  case atStart => exact ⟨0, Nat.zero_le _, rfl, rfl⟩
  case round =>
   obtain ⟨k, hk, rfl, rfl⟩ := hrel; obtain ⟨b0, b1⟩ := HB.out k hk
   by_cases hlt : k < zs.length
   ·have hc := HC.out k hlt
    have ht := take_sum zs k hlt; obtain ⟨z0, z1⟩ := HZ.out _ (getD_mem hlt); generalize zs.getD k 0 = z at hc ht z0 z1; have HT := Lib.hid ht; clear ht
    go_wp2
    go_round
    case rel => exact ⟨k + 1, by omega, by go_num, by rw [HT.out]⟩
    case measure => simp [intOf]; omega
   ·go_wp2
    go_ret; exact ⟨ret_int (by rw [List.take_of_length_le (by omega)]), rfl⟩
def allB (zs : List Int) (most : Int) : Bool := zs.all fun z => decide (0 ≤ z) && decide (z ≤ most)
theorem allB_iff (zs : List Int) (most : Int) : allB zs most = true ↔ ∀ z ∈ zs, 0 ≤ z ∧ z ≤ most := by unfold allB; simp
theorem allB_no {zs : List Int} {most : Int} {k : Nat} (h : k < zs.length) (hz : zs.getD k 0 < 0 ∨ most < zs.getD k 0) : allB zs most = false := by
 rw [Bool.eq_false_iff]; intro h2; rw [allB_iff] at h2; have := h2 _ (getD_mem h); omega
theorem allB_yes {zs : List Int} {most : Int} (h : ∀ i, i < zs.length → 0 ≤ zs.getD i 0 ∧ zs.getD i 0 ≤ most) : allB zs most = true := by
 rw [allB_iff]; intro z hz; obtain ⟨i, hi, rfl⟩ := List.getElem_of_mem hz; have := h i hi
 rwa [List.getD_eq_getElem?_getD, List.getElem?_eq_getElem hi, Option.getD_some] at this
theorem iwithin_yes (n m : Int) (w : World) (a : 0 ≤ n) (b : n ≤ m) :
  Calls Tryz.prog 71 #[.int .i64 n, .int .i64 m] w fun e w' => e = .returned (.bool true) ∧ w = w' := by
 go_enter Tryz.func71, Tryz.ntmps71
 go_wp2
 go_ret; exact ⟨rfl, rfl⟩
theorem iwithin_no (n m : Int) (w : World) (a : n < 0 ∨ m < n) :
  Calls Tryz.prog 71 #[.int .i64 n, .int .i64 m] w fun e w' => e = .returned (.bool false) ∧ w = w' := by
 by_cases b : n < 0
 ·go_enter Tryz.func71, Tryz.ntmps71
  go_wp2
  go_ret; exact ⟨rfl, rfl⟩
 ·have c : m < n := by omega
  have hd : decide (n ≤ m) = false := by simp; omega
  clear a; go_enter Tryz.func71, Tryz.ntmps71
  go_wp2
  go_ret; exact ⟨rfl, rfl⟩
theorem iall (a : Option Addr) (cap : Nat) (zs : List Int) (most : Int) (w : World) (h : IsInts w a zs) (hn : zs.length ≤ 1048576) :
  Calls Tryz.prog 135 #[.slice a zs.length cap, .int .i64 most] w fun e w' => e = .returned (.bool (allB zs most)) ∧ w = w' := by
 rcases h with rfl | ⟨g, o, rfl, hc⟩
 ·go_enter Tryz.func135, Tryz.ntmps135
  go_wp2
  go_rounds 1
  go_ret; exact ⟨rfl, rfl⟩
 ·have HC := Lib.hid hc
  clear hc; go_enter Tryz.func135, Tryz.ntmps135
  go_wp2
  go_loop [9] (fun i => ∃ k : Nat, k ≤ zs.length ∧ i = .int .i64 k ∧ Hid (∀ j, j < k → 0 ≤ zs.getD j 0 ∧ zs.getD j 0 ≤ most)) (fun i => zs.length - (intOf i).toNat)
  case atStart => exact ⟨0, Nat.zero_le _, rfl, fun j hj => by omega⟩
  case round =>
   obtain ⟨k, hk, rfl, HA⟩ := hrel
   by_cases hlt : k < zs.length
   ·have hc := HC.out k hlt
    have hno := allB_no (most := most) hlt
    have hyes : 0 ≤ zs.getD k 0 → zs.getD k 0 ≤ most → ∀ j, j < k + 1 → 0 ≤ zs.getD j 0 ∧ zs.getD j 0 ≤ most := fun h0 h1 j hj => by
     by_cases hjk : j = k
     ·subst hjk; exact ⟨h0, h1⟩
     ·exact HA.out j (by omega)
    generalize zs.getD k 0 = z at hc hno hyes; have HN := Lib.hid hno; have HY := Lib.hid hyes; clear hno hyes
    by_cases zb : z < 0 ∨ most < z
    ·go_wp2_with fail
     refine (iwithin_no z most _ zb).mono ?_; rintro e w' ⟨rfl, rfl⟩; go_wp2_with fail; go_ret; exact ⟨ret_bool (HN.out zb).symm, rfl⟩
    ·go_wp2_with fail
     refine (iwithin_yes z most _ (by omega) (by omega)).mono ?_; rintro e w' ⟨rfl, rfl⟩; go_wp2_with fail
     go_round
     case rel => exact ⟨k + 1, by omega, by go_num, HY.out (by omega) (by omega)⟩
     case measure => simp [intOf]; omega
   ·go_wp2
    go_ret; exact ⟨ret_bool (allB_yes (fun j hj => HA.out j (by omega))).symm, rfl⟩
theorem below_drewN {B : Nat} {a w : World} (h : Below B a w) (n : Nat) : Below B a (w.drewN n) := ⟨h.os, h.tape, h.output, h.size, h.block⟩
theorem infoInt : (Tryz.prog.info? 3).map (fun i => (i.zero, i.size, i.bytes)) = some (some (.int .i64 0), 1, 8) := by kernel_rfl
def Row (w : World) (g : Nat) (zs : List Int) : Prop := w.rowIs g 3 zs.length (fun i => .int .i64 (zs.getD i 0))
theorem row_ints {w : World} {g : Nat} {zs : List Int} (h : Row w g zs) : IsInts w (some ⟨g, 0, none⟩) zs := .inr ⟨g, 0, rfl, fun i hi => by
 have := World.rowIs.cell h hi
 simpa using this⟩
theorem row_keep {w w' : World} {g : Nat} {zs : List Int} (h : Row w g zs) (hB : Below w.heap.size w w') : Row w' g zs := World.rowIs.of_block h (hB.block g (World.rowIs.lt h))
theorem ints_below {w w' : World} {a : Option Addr} {zs : List Int} (h : IsInts w a zs) (hB : Below w.heap.size w w') : IsInts w' a zs := by
 rcases h with h | ⟨g, o, ha, hc⟩
 ·exact .inl h
 ·exact .inr ⟨g, o, ha, fun i hi => (hB.cell (p := ⟨g, o + i, none⟩) (World.block_lt_of_cell? w _ (hc i hi))).trans (hc i hi)⟩
def Copied (w : World) (zs : List Int) (e : Ending) (w' : World) : Prop := ∃ g : Nat, e = .returned (.slice (some ⟨g, 0, none⟩) zs.length zs.length) ∧ w.heap.size ≤ g ∧ Row w' g zs ∧ Below w.heap.size w w'
theorem ltoIntS (a : Option Addr) (cap : Nat) (zs : List Int) (w : World) (h : IsInts w a zs) (hn : zs.length ≤ 1048576) :
  Calls Tryz.prog 65 #[.slice a zs.length cap] w (Copied w zs) := by
 rcases h with rfl | ⟨g, o, rfl, hc⟩
 ·have hmk : ∀ W : World, (Instr.makeSlice 32 (.int .i64 0) (.int .i64 0)).run Tryz.prog W = .ok (.slice (some ⟨W.heap.size, 0, none⟩) 0 0) (W.alloc (.cells (madeCells #[.int .i64 0] 0) 3)) := fun W =>
   run_make_row' 32 3 (.int .i64 0) 8 Tryz.underlying32 infoInt rfl .i64 .i64 0 (by omega) (by omega) W
  go_enter Tryz.func65, Tryz.ntmps65
  go_wp2
  go_rounds 1
  go_ret; exact ⟨_, rfl, Nat.le_refl _, (World.rowIs_made w (.int .i64 0) 0 _).congr (fun i hi => by omega), by go_grown⟩
 ·have hmk := run_make_row' (P := Tryz.prog) 32 3 (.int .i64 0) 8 Tryz.underlying32 infoInt rfl .i64 .i64 zs.length (by omega) (by omega)
  have HC := Lib.hid hc; clear hc; go_enter Tryz.func65, Tryz.ntmps65
  go_wp2
  clear hmk
  go_loopw [4] (fun i wr => ∃ k : Nat, k ≤ zs.length ∧ i = .int .i64 k ∧ wr.rowIs w.heap.size 3 zs.length (fun j => if j < k then .int .i64 (zs.getD j 0) else .int .i64 0) ∧ Below w.heap.size w wr) (fun i _ => zs.length - (intOf i).toNat)
  case atStart => exact ⟨0, Nat.zero_le _, rfl, (World.rowIs_made w (.int .i64 0) zs.length _).congr (fun i hi => by simp), by go_grown⟩
  case round =>
   obtain ⟨k, hk, rfl, hrow, hB⟩ := hrel
   by_cases hlt : k < zs.length
   ·have hc0 := HC.out k hlt
    have hc := (hB.cell (p := ⟨g, o + k, none⟩) (World.block_lt_of_cell? w _ hc0)).trans hc0
    have hd : wr.cell? ⟨w.heap.size, k, none⟩ = some (.int .i64 0) := by rw [hrow.cell hlt, if_neg (Nat.lt_irrefl k)]
    have hf := hrow.frozen k
    have hcon : ∀ z : Int, zs.getD k 0 = z → (wr.setCell ⟨w.heap.size, k, none⟩ (.int .i64 z)).rowIs w.heap.size 3 zs.length (fun j => if j < k + 1 then .int .i64 (zs.getD j 0) else .int .i64 0) := fun z hz =>
     (hrow.set k (.int .i64 z)).congr (fun j hj => by
      show (if j = k then Value.int .i64 z else if j < k then .int .i64 (zs.getD j 0) else .int .i64 0) = _
      by_cases hjk : j = k
      ·subst hjk; rw [if_pos rfl, if_pos (by omega), hz]
      ·rw [if_neg hjk]
       by_cases hl : j < k
       ·rw [if_pos hl, if_pos (by omega)]
       ·rw [if_neg hl, if_neg (by omega)])
    have hcon2 := hcon _ rfl; clear hcon hc0; generalize zs.getD k 0 = z at hc hcon2; have HR := Lib.hid hcon2; have HB := Lib.hid hB; clear hcon2 hrow hB
    go_wp2
    go_roundw
    case rel => exact ⟨k + 1, by omega, by go_num, HR.out, HB.out.setCell (Nat.le_refl _) _⟩
    case measure => simp [intOf]; omega
   ·have HR := Lib.hid hrow
    have HB := Lib.hid hB; clear hrow hB
    go_wp2
    go_ret; exact ⟨_, rfl, Nat.le_refl _, HR.out.congr (fun i hi => by rw [if_pos (by omega)]), HB.out⟩
theorem leqIntS (a b : Option Addr) (ca cb : Nat) (zs : List Int) (w : World) (ha : IsInts w a zs) (hb : IsInts w b zs) (hn : zs.length ≤ 1048576) :
  Calls Tryz.prog 85 #[.slice a zs.length ca, .slice b zs.length cb] w fun e w' => e = .returned (.bool true) ∧ Below w.heap.size w w' := by
 rcases ha with rfl | ⟨g, o, rfl, hc⟩
 ·go_enter Tryz.func85, Tryz.ntmps85
  go_wp2
  go_rounds 1
  go_ret; exact ⟨rfl, by go_grown⟩
 ·rcases hb with rfl | ⟨g2, o2, rfl, hc2⟩
  ·go_enter Tryz.func85, Tryz.ntmps85
   go_wp2
   go_rounds 1
   go_ret; exact ⟨rfl, by go_grown⟩
  ·have HC := Lib.hid hc
   have HD := Lib.hid hc2; clear hc hc2; go_enter Tryz.func85, Tryz.ntmps85
   go_wp2
   go_loopw [5] (fun i wr => ∃ k : Nat, k ≤ zs.length ∧ i = .int .i64 k ∧ Below w.heap.size w wr) (fun i _ => zs.length - (intOf i).toNat)
   case atStart => exact ⟨0, Nat.zero_le _, rfl, by go_grown⟩
   case round =>
    obtain ⟨k, hk, rfl, hB⟩ := hrel
    by_cases hlt : k < zs.length
    ·have hc := (hB.cell (p := ⟨g, o + k, none⟩) (World.block_lt_of_cell? w _ (HC.out k hlt))).trans (HC.out k hlt)
     have hd := (hB.cell (p := ⟨g2, o2 + k, none⟩) (World.block_lt_of_cell? w _ (HD.out k hlt))).trans (HD.out k hlt); generalize zs.getD k 0 = z at hc hd
     have i0 : (0 : Int) ≤ (k : Int) := by omega
     have i1 : (k : Int) < (zs.length : Int) := by omega
     go_wp2_with fail
     go_quiet (fail)
     go_wp2
     go_roundw
     case rel => exact ⟨k + 1, by omega, by go_num, below_drewN hB _⟩
     case measure => simp [intOf]; omega
    ·go_wp2
     go_ret; exact ⟨rfl, by go_grown⟩
section
namespace Wsh
def vfB (n d : Int) : Bool := decide (1 ≤ d) && decide (d ≤ 10000) && decide (0 ≤ n) && decide (n ≤ d) && decide (Int.gcd n d = 1)
theorem vfB_iff (n d : Int) : vfB n d = true ↔ (1 ≤ d ∧ d ≤ 10000 ∧ 0 ≤ n ∧ n ≤ d ∧ Int.gcd n d = 1) := by
 unfold vfB; simp [and_assoc]
def rn (n d : Int) : Int := n / (Int.gcd n d : Int)
def rd (n d : Int) : Int := d / (Int.gcd n d : Int)
def redB (n d : Int) : Bool := decide (0 ≤ n) && decide (n ≤ d) && decide (rd n d ≤ 10000)
theorem gcd_step (a b : Int) (ha : 0 ≤ a) (hb : 0 < b) : Int.gcd b (a % b) = Int.gcd a b := by
 rw [Int.gcd_comm a b]; obtain ⟨n, rfl⟩ := Int.eq_ofNat_of_zero_le ha; obtain ⟨m, rfl⟩ := Int.eq_ofNat_of_zero_le (Int.le_of_lt hb); rw [← Int.natCast_emod]; simp only [Int.gcd_natCast_natCast]; rw [Nat.gcd_comm m n, Nat.gcd_comm m (n % m), ← Nat.gcd_rec, Nat.gcd_comm]
theorem gcd_pos (n d : Int) (hd : 0 < d) : 0 < (Int.gcd n d : Int) := by
 have : Int.gcd n d ≠ 0 := by
  intro h; have := Int.gcd_eq_zero_iff.1 h
  omega
 omega
theorem rn_mul (n d : Int) : rn n d * (Int.gcd n d : Int) = n := Int.ediv_mul_cancel (Int.gcd_dvd_left ..)
theorem rd_mul (n d : Int) : rd n d * (Int.gcd n d : Int) = d := Int.ediv_mul_cancel (Int.gcd_dvd_right ..)
theorem rd_pos (n d : Int) (hd : 0 < d) : 0 < rd n d := by
 have h := rd_mul n d; have hg := gcd_pos n d hd
 apply Int.pos_of_mul_pos_left _ hg
 rw [h]; exact hd
theorem gcd_red (n d : Int) (hd : 0 < d) : Int.gcd (rn n d) (rd n d) = 1 := by
 unfold rn rd; exact Int.gcd_ediv_gcd_ediv_gcd (by have := gcd_pos n d hd; omega)
theorem red_valid (n d : Int) (hd : 0 < d) (h : redB n d = true) : vfB (rn n d) (rd n d) = true := by
 unfold redB at h; simp only [Bool.and_eq_true, decide_eq_true_eq] at h; obtain ⟨⟨h1, h2⟩, h3⟩ := h; have hg := gcd_pos n d hd; have hp := rd_pos n d hd; rw [vfB_iff]; refine ⟨by omega, h3, ?_, ?_, gcd_red n d hd⟩
 ·exact Int.ediv_nonneg h1 (by omega)
 ·exact Int.ediv_le_ediv hg h2
theorem red_self (n d : Int) (h : vfB n d = true) : rn n d = n ∧ rd n d = d ∧ redB n d = true := by
 rw [vfB_iff] at h; obtain ⟨h1, h2, h3, h4, h5⟩ := h
 have e1 : rn n d = n := by unfold rn; rw [h5]; simp
 have e2 : rd n d = d := by unfold rd; rw [h5]; simp
 refine ⟨e1, e2, ?_⟩; unfold redB; rw [e2]
 simp [h2, h3, h4]
theorem mul_bd {x y : Int} (hx : 0 ≤ x) (hx' : x ≤ 10000) (hy : 0 ≤ y) (hy' : y ≤ 10000) : 0 ≤ x * y ∧ x * y ≤ 100000000 :=
 ⟨Int.mul_nonneg hx hy, Int.le_trans (Int.mul_le_mul hx' hy' hy (by omega)) (by decide)⟩
theorem mul_pos1 {x y : Int} (hx : 1 ≤ x) (hy : 1 ≤ y) : 1 ≤ x * y := Int.mul_pos (by omega) (by omega)
theorem parts (n f d : Int) (hd : 0 < d) : n * f / d + n * (d - f) / d ≤ n ∧ n - 1 ≤ n * f / d + n * (d - f) / d ∧ (n * f / d + n * (d - f) / d = n ↔ n * f % d = 0) := by
 have e : n * (d - f) = n * d - n * f := Int.mul_sub ..; rw [e]; generalize n * f = x; have h1 := Int.mul_ediv_add_emod x d; have h2 := Int.mul_ediv_add_emod (n * d - x) d; have b1 := Int.emod_nonneg x (show d ≠ 0 by omega); have b2 := Int.emod_lt_of_pos x hd; have c1 := Int.emod_nonneg (n * d - x) (show d ≠ 0 by omega); have c2 := Int.emod_lt_of_pos (n * d - x) hd; generalize x / d = q at *; generalize (n * d - x) / d = p at *; generalize x % d = r at *; generalize (n * d - x) % d = s at *
 have h3 : d * (n - q - p) = r + s := by grind
 have l1 : 0 ≤ n - q - p := by
  apply Int.nonneg_of_mul_nonneg_right (b := n - q - p) (a := d) _ hd
  omega
 have l2 : n - q - p < 2 := by
  apply Int.lt_of_mul_lt_mul_left (a := d) _ (by omega)
  omega
 refine ⟨by omega, by omega, ?_, ?_⟩
 ·intro h
  have : n - q - p = 0 := by omega
  rw [this] at h3
  omega
 ·intro h
  have : n - q - p = 0 := by
   by_cases hz : n - q - p = 1
   ·rw [hz] at h3; omega
   ·omega
  omega
def qn (b : Bool) (x : Int) : Int := if b then x else 0
theorem qn_true (x : Int) : qn true x = x := rfl
theorem qn_false (x : Int) : qn false x = 0 := rfl
theorem redB_no {n d : Int} (h : ¬ (0 ≤ n ∧ n ≤ d)) : redB n d = false := by
 unfold redB; rw [Bool.eq_false_iff]; intro k; simp at k; omega
theorem redB_den {n d : Int} (h : 0 ≤ n ∧ n ≤ d) : redB n d = decide (rd n d ≤ 10000) := by
 unfold redB; simp [h.1, h.2]
theorem rd_le (n d : Int) (hd : 0 < d) : rd n d ≤ d := Int.ediv_le_self _ (by omega)
theorem rn_le (n d : Int) (hn : 0 ≤ n) : 0 ≤ rn n d ∧ rn n d ≤ n := ⟨Int.ediv_nonneg hn (by omega), Int.ediv_le_self _ hn⟩
theorem rn_bd (n d : Int) (hn : 0 ≤ n) (hnd : n ≤ d) (hd : 0 < d) : 0 ≤ rn n d ∧ rn n d ≤ rd n d :=
 ⟨(rn_le n d hn).1, Int.ediv_le_ediv (gcd_pos n d hd) hnd⟩
theorem vfB_red (n d : Int) (hn : 0 ≤ n) (hd : 0 < d) : vfB (rn n d) (rd n d) = redB n d := by
  cases h : redB n d with
  | true => exact red_valid n d hd h
  | false =>
    rw [Bool.eq_false_iff]; intro k; have kk := (vfB_iff _ _).1 k; have hg := gcd_pos n d hd; have h1 := rn_mul n d; have h2 := rd_mul n d
    have : n ≤ d := by
      have h3 := Int.mul_le_mul_of_nonneg_right kk.2.2.2.1 (Int.le_of_lt hg); rw [h1, h2] at h3; exact h3
    rw [redB_den ⟨hn, this⟩] at h
    simp at h
    omega
def cmpI (x y : Int) : Int := if x < y then -1 else if y < x then 1 else 0
theorem cmpI_lt {x y : Int} (h : x < y) : cmpI x y = -1 := by unfold cmpI; rw [if_pos h]
theorem cmpI_gt {x y : Int} (h : y < x) : cmpI x y = 1 := by unfold cmpI; rw [if_neg (by omega), if_pos h]
theorem cmpI_eq {x y : Int} (h : x = y) : cmpI x y = 0 := by unfold cmpI; rw [if_neg (by omega), if_neg (by omega)]
theorem cmpI_nlt {x y : Int} (h : ¬ x < y) : (cmpI x y < 0) = False := by
 rw [eq_iff_iff, iff_false]; unfold cmpI; rw [if_neg h]
 split <;> omega
end Wsh
end
theorem sgcd (a b : Int) (w : World) (ha : 0 ≤ a) (ha' : a ≤ 1000000000) (hb : 0 ≤ b) (hb' : b ≤ 1000000000) :
  Calls Tryz.prog 115 #[.int .i64 a, .int .i64 b] w fun e w' => e = .returned (.int .i64 (Int.gcd a b)) ∧ w = w' := by
 go_enter Tryz.func115, Tryz.ntmps115
 go_wp2
 go_loop [0, 1, 5] (fun x y z => ∃ n m : Int, 0 ≤ n ∧ n ≤ 1000000000 ∧ 0 ≤ m ∧ m ≤ 1000000000 ∧ x = .int .i64 n ∧ y = .int .i64 m ∧ Hid (Int.gcd n m = Int.gcd a b)) (fun _ y _ => (intOf y).toNat)
 case atStart => exact ⟨a, b, ha, ha', hb, hb', rfl, rfl, rfl⟩
 case round =>
  obtain ⟨n, m, hn, hn', hm, hm', rfl, rfl, hg⟩ := hrel
  by_cases h0 : m = 0
  ·have hz : (m != 0) = false := by simp [h0]
   have H := Lib.hid h0; clear h0
   go_wp2
   go_ret; have h1 := H.out; exact ⟨ret_int (by have := hg.out; rw [h1] at this; simp at this; omega), rfl⟩
  ·have hz : (m != 0) = true := by simp [h0]
   have hm1 : 1 ≤ m := by omega
   have hr0 := Int.emod_nonneg n h0; have hr1 := Int.emod_lt_of_pos n (show 0 < m by omega); clear h0
   go_wp2
   go_round
   case rel => exact ⟨m, n % m, by omega, by omega, hr0, by omega, rfl, rfl, by rw [Wsh.gcd_step n m hn (by omega)]; exact hg.out⟩
   case measure => simp [intOf]; omega
theorem igcd (a b : Int) (w : World) (ha : 0 ≤ a) (ha' : a ≤ 1000000000) (hb : 0 ≤ b) (hb' : b ≤ 1000000000) :
    Calls Tryz.prog 148 #[.int .i64 a, .int .i64 b] w fun e w' => e = .returned (.int .i64 (Int.gcd a b)) ∧ w = w' := by
  go_enter Tryz.func148, Tryz.ntmps148
  go_wp2
  go_loop [0, 1] (fun x y => ∃ n m : Int, 0 ≤ n ∧ n ≤ 1000000000 ∧ 0 ≤ m ∧ m ≤ 1000000000 ∧ x = .int .i64 n ∧ y = .int .i64 m ∧ Hid (Int.gcd n m = Int.gcd a b)) (fun x _ => (intOf x).toNat)
  case atStart => exact ⟨a, b, ha, ha', hb, hb', rfl, rfl, rfl⟩
  case round =>
    obtain ⟨n, m, hn, hn', hm, hm', rfl, rfl, hg⟩ := hrel
    by_cases h0 : 0 < n
    · have hr0 := Int.emod_nonneg m (show n ≠ 0 by omega)
      have hr1 := Int.emod_lt_of_pos m h0
      go_wp2
      go_round
      case rel => exact ⟨m % n, n, hr0, by omega, by omega, by omega, rfl, rfl, by rw [Int.gcd_comm, Wsh.gcd_step m n hm h0, Int.gcd_comm]; exact hg.out⟩
      case measure => simp [intOf]; omega
    · go_wp2
      go_ret
      exact ⟨ret_int (by have h1 : n = 0 := by omega
                         have := hg.out; rw [h1] at this; simp at this; omega), rfl⟩
theorem vf_no {n d : Int} (h : ¬ (1 ≤ d ∧ d ≤ 10000 ∧ 0 ≤ n ∧ n ≤ d)) : Wsh.vfB n d = false := by
 rw [Bool.eq_false_iff]; intro k; rw [Wsh.vfB_iff] at k; exact h ⟨k.1, k.2.1, k.2.2.1, k.2.2.2.1⟩
theorem vf_gcd {n d : Int} (h : 1 ≤ d ∧ d ≤ 10000 ∧ 0 ≤ n ∧ n ≤ d) : ((Int.gcd n d : Int) == 1) = Wsh.vfB n d := by
 rw [Bool.eq_iff_iff, Wsh.vfB_iff]; simp; omega
theorem iValid (n d : Int) (w : World) :
  Calls Tryz.prog 129 #[.agg #[.int .i64 n, .int .i64 d]] w fun e w' => e = .returned (.bool (Wsh.vfB n d)) ∧ Below w.heap.size w w' := by
 by_cases h1 : d < 1
 ·go_enter Tryz.func129, Tryz.ntmps129
  go_wp2
  go_ret; exact ⟨ret_bool (vf_no (by omega)).symm, by go_grown⟩
 ·by_cases h2 : 10000 < d
  ·go_enter Tryz.func129, Tryz.ntmps129
   go_wp2
   go_ret; exact ⟨ret_bool (vf_no (by omega)).symm, by go_grown⟩
  ·by_cases h3 : n < 0
   ·go_enter Tryz.func129, Tryz.ntmps129
    go_wp2
    go_ret; exact ⟨ret_bool (vf_no (by omega)).symm, by go_grown⟩
   ·by_cases h4 : d < n
    ·go_enter Tryz.func129, Tryz.ntmps129
     go_wp2
     go_ret; exact ⟨ret_bool (vf_no (by omega)).symm, by go_grown⟩
    ·have hv := vf_gcd (n := n) (d := d) (by omega)
     have HV := Lib.hid hv; clear hv; go_enter Tryz.func129, Tryz.ntmps129; go_wp2_with fail; refine (igcd n d _ (by omega) (by omega) (by omega) (by omega)).mono ?_; rintro e w' ⟨rfl, rfl⟩; go_wp2_with fail; go_ret; exact ⟨ret_bool HV.out, by go_grown⟩
theorem svalid (n d : Int) (w : World) :
  Calls Tryz.prog 87 #[.agg #[.int .i64 n, .int .i64 d]] w fun e w' => e = .returned (.bool (Wsh.vfB n d)) ∧ Below w.heap.size w w' := by
 by_cases h1 : d < 1 ∨ 10000 < d
 ·go_enter Tryz.func87, Tryz.ntmps87
  go_wp2_with fail; refine (inRange_no d 1 10000 _ h1).mono ?_; rintro e w' ⟨rfl, rfl⟩; go_wp2_with fail; go_ret; exact ⟨ret_bool (vf_no (by omega)).symm, by go_grown⟩
 ·by_cases h2 : n < 0 ∨ d < n
  ·go_enter Tryz.func87, Tryz.ntmps87
   go_wp2_with fail; refine (inRange_yes d 1 10000 _ (by omega) (by omega)).mono ?_; rintro e w' ⟨rfl, rfl⟩; go_wp2_with fail; refine (inRange_no n 0 d _ h2).mono ?_; rintro e w' ⟨rfl, rfl⟩; go_wp2_with fail; go_ret; exact ⟨ret_bool (vf_no (by omega)).symm, by go_grown⟩
  ·have hv := vf_gcd (n := n) (d := d) (by omega)
   have HV := Lib.hid hv; clear hv; go_enter Tryz.func87, Tryz.ntmps87; go_wp2_with fail; refine (inRange_yes d 1 10000 _ (by omega) (by omega)).mono ?_; rintro e w' ⟨rfl, rfl⟩; go_wp2_with fail; refine (inRange_yes n 0 d _ (by omega) (by omega)).mono ?_; rintro e w' ⟨rfl, rfl⟩; go_wp2_with fail; refine (sgcd n d _ (by omega) (by omega) (by omega) (by omega)).mono ?_; rintro e w' ⟨rfl, rfl⟩; go_wp2_with fail; go_ret; exact ⟨ret_bool HV.out, by go_grown⟩
abbrev frV (b : Bool) (x y : Int) : Value := .tuple #[.agg #[.int .i64 (Wsh.qn b x), .int .i64 (Wsh.qn b y)], .bool b]
theorem ret_frV {b : Bool} {n d x y x' y' : Int} (hb : Wsh.redB n d = b) (hx : x' = Wsh.qn b x) (hy : y' = Wsh.qn b y) :
  Ending.returned (.tuple #[.agg #[.int .i64 x', .int .i64 y'], .bool b]) = .returned (frV (Wsh.redB n d) x y) := by rw [hb, hx, hy]
theorem swal {n d : Int} {b : Bool} (h : Wsh.redB n d = b) (hn : 0 ≤ n) (hd : 0 < d) : Wsh.vfB (n / (Int.gcd n d : Int)) (d / (Int.gcd n d : Int)) = b := by
 have := Wsh.vfB_red n d hn hd; unfold Wsh.rn Wsh.rd at this; rw [this]; exact h
theorem sred (n d : Int) (w : World) (hn : 0 ≤ n) (hn' : n ≤ 1000000000) (hd : 1 ≤ d) (hd' : d ≤ 100000000) :
    Calls Tryz.prog 120 #[.int .i64 n, .int .i64 d] w fun e w' => e = .returned (frV (Wsh.redB n d) (Wsh.rn n d) (Wsh.rd n d)) ∧ Below w.heap.size w w' := by
  have hg := Wsh.gcd_pos n d (by omega); obtain ⟨b0, b1⟩ := Wsh.rn_le n d (by omega); have b2 := Wsh.rd_le n d (by omega); have b3 := Wsh.rd_pos n d (by omega); unfold Wsh.rn at b0 b1; unfold Wsh.rd at b2 b3
  have hg0 : ((Int.gcd n d : Int) == 0) = false := by simp; omega
  cases hr : Wsh.redB n d with
  | false =>
    have hv := swal hr hn (by omega); clear hr; go_enter Tryz.func120, Tryz.ntmps120; go_wp2_with fail; refine (sgcd n d _ (by omega) (by omega) (by omega) (by omega)).mono ?_; rintro e w' ⟨rfl, rfl⟩; go_wp2_with fail
    go_region
    all_goals
      go_wp2_with fail; refine (svalid _ _ _).mono ?_; rintro e w1 ⟨rfl, hb⟩; obtain ⟨hc, hf⟩ := bcell hb; have hB : Below w.heap.size w w1 := bel_tr (by go_grown) hb; have c0 := hc w.heap.size 0 (by simp; omega); have c1 := hc w.heap.size 1 (by simp; omega); have c2 := hc (w.heap.size + 1) 0 (by simp); have c3 := hc (w.heap.size + 1) 1 (by simp); have f0 := hf w.heap.size 0 (by simp; omega); have f1 := hf w.heap.size 1 (by simp; omega)
      simp [go_sem] at c0 c1 c2 c3 f0 f1
      clear hc hf hb; go_wp2_with fail; refine bodyPost_ret (v := .tuple #[.agg #[.int .i64 0, .int .i64 0], .bool false]) (by simp [results, Tryz.results120, go_sem, c0, c1]) rfl ⟨rfl, by go_grown⟩
  | true =>
    have hv := swal hr hn (by omega); clear hr; go_enter Tryz.func120, Tryz.ntmps120; go_wp2_with fail; refine (sgcd n d _ (by omega) (by omega) (by omega) (by omega)).mono ?_; rintro e w' ⟨rfl, rfl⟩; go_wp2_with fail
    go_region
    all_goals
      go_wp2_with fail; refine (svalid _ _ _).mono ?_; rintro e w1 ⟨rfl, hb⟩; obtain ⟨hc, hf⟩ := bcell hb; have hB : Below w.heap.size w w1 := bel_tr (by go_grown) hb; have c0 := hc w.heap.size 0 (by simp; omega); have c1 := hc w.heap.size 1 (by simp; omega); have c2 := hc (w.heap.size + 1) 0 (by simp); have c3 := hc (w.heap.size + 1) 1 (by simp); have f0 := hf w.heap.size 0 (by simp; omega); have f1 := hf w.heap.size 1 (by simp; omega)
      simp [go_sem] at c0 c1 c2 c3 f0 f1
      clear hc hf hb; go_wp2_with fail; refine bodyPost_ret (v := .tuple #[.agg #[.int .i64 (n / (Int.gcd n d : Int)), .int .i64 (d / (Int.gcd n d : Int))], .bool true]) (by simp [results, Tryz.results120, go_sem, c0, c1]) rfl ⟨rfl, by go_grown⟩
theorem ired (n d : Int) (w : World) (hd : 1 ≤ d) (hd' : d ≤ 100000000) :
  Calls Tryz.prog 130 #[.int .i64 n, .int .i64 d] w fun e w' => e = .returned (frV (Wsh.redB n d) (Wsh.rn n d) (Wsh.rd n d)) ∧ Below w.heap.size w w' := by
 by_cases h1 : n < 0
 ·go_enter Tryz.func130, Tryz.ntmps130
  go_wp2
  go_returns
  exact ⟨ret_frV (Wsh.redB_no (by omega)) rfl rfl, by go_grown⟩
 ·by_cases h2 : d < n
  ·go_enter Tryz.func130, Tryz.ntmps130
   go_wp2
   go_returns
   exact ⟨ret_frV (Wsh.redB_no (by omega)) rfl rfl, by go_grown⟩
  ·have hg := Wsh.gcd_pos n d (by omega)
   have hq := Wsh.redB_den (n := n) (d := d) (by omega); have HQ := Lib.hid hq; clear hq; obtain ⟨b0, b1⟩ := Wsh.rn_bd n d (by omega) (by omega) (by omega); have b2 := Wsh.rd_le n d (by omega); have b3 := Wsh.rd_pos n d (by omega); unfold Wsh.rn at b0 b1; unfold Wsh.rd at b1 b2 b3
   have hg0 : ((Int.gcd n d : Int) == 0) = false := by simp; omega
   by_cases h3 : 10000 < d / (Int.gcd n d : Int)
   ·go_enter Tryz.func130, Tryz.ntmps130
    go_wp2_with fail; refine (igcd n d _ (by omega) (by omega) (by omega) (by omega)).mono ?_; rintro e w' ⟨rfl, rfl⟩; go_wp2_with fail
    go_region
    all_goals
     go_wp2
     go_returns
     exact ⟨ret_frV (by rw [HQ.out]; unfold Wsh.rd; simp; omega) rfl rfl, by go_grown⟩
   ·go_enter Tryz.func130, Tryz.ntmps130
    go_wp2_with fail; refine (igcd n d _ (by omega) (by omega) (by omega) (by omega)).mono ?_; rintro e w' ⟨rfl, rfl⟩; go_wp2_with fail
    go_region
    all_goals
     go_wp2
     go_returns
     exact ⟨ret_frV (by rw [HQ.out]; unfold Wsh.rd; simp; omega) rfl rfl, by go_grown⟩
theorem fr_no1 {va vb r : Bool} {x y : Int} (h : va = false) : Ending.returned (.tuple #[.agg #[.int .i64 0, .int .i64 0], .bool false]) = .returned (frV (va && vb && r) x y) := by rw [h]; rfl
theorem fr_no2 {va vb r : Bool} {x y : Int} (h : vb = false) : Ending.returned (.tuple #[.agg #[.int .i64 0, .int .i64 0], .bool false]) = .returned (frV (va && vb && r) x y) := by rw [h]; cases va <;> rfl
theorem fr_yes {va vb r : Bool} {x y : Int} (ha : va = true) (hb : vb = true) : Ending.returned (frV r x y) = .returned (frV (va && vb && r) x y) := by rw [ha, hb]; rfl
theorem bounds {an ad bn bd : Int} (ha : Wsh.vfB an ad = true) (hb : Wsh.vfB bn bd = true) :
  (0 ≤ an * bd ∧ an * bd ≤ 100000000) ∧ (0 ≤ bn * ad ∧ bn * ad ≤ 100000000) ∧ (1 ≤ ad * bd ∧ ad * bd ≤ 100000000) ∧ (0 ≤ an * bn ∧ an * bn ≤ 100000000) := by
 have ka := (Wsh.vfB_iff _ _).1 ha; have kb := (Wsh.vfB_iff _ _).1 hb; exact ⟨Wsh.mul_bd (by omega) (by omega) (by omega) (by omega), Wsh.mul_bd (by omega) (by omega) (by omega) (by omega), ⟨Wsh.mul_pos1 (by omega) (by omega), (Wsh.mul_bd (by omega) (by omega) (by omega) (by omega)).2⟩, Wsh.mul_bd (by omega) (by omega) (by omega) (by omega)⟩
theorem iAdd (an ad bn bd : Int) (w : World) :
    Calls Tryz.prog 101 #[.agg #[.int .i64 an, .int .i64 ad], .agg #[.int .i64 bn, .int .i64 bd]] w fun e w' => e = .returned (frV (Wsh.vfB an ad && Wsh.vfB bn bd && Wsh.redB (an * bd + bn * ad) (ad * bd)) (Wsh.rn (an * bd + bn * ad) (ad * bd)) (Wsh.rd (an * bd + bn * ad) (ad * bd))) ∧ Below w.heap.size w w' := by
  cases ha : Wsh.vfB an ad with
  | false =>
    go_enter Tryz.func101, Tryz.ntmps101; go_wp2_with fail; refine (iValid an ad _).mono ?_; rintro e w1 ⟨rfl, hb⟩; have hB : Below w.heap.size w w1 := bel_tr (by go_grown) hb; obtain ⟨hc, hf⟩ := bcell hb; have c0 := hc (w.heap.size) 0 (by simp <;> omega); have c1 := hc (w.heap.size) 1 (by simp <;> omega); have c2 := hc (w.heap.size + 1) 0 (by simp <;> omega); have c3 := hc (w.heap.size + 1) 1 (by simp <;> omega); have c4 := hc (w.heap.size + 2) 0 (by simp <;> omega); have c5 := hc (w.heap.size + 2) 1 (by simp <;> omega); have f0 := hf (w.heap.size + 2) 0 (by simp <;> omega); have f1 := hf (w.heap.size + 2) 1 (by simp <;> omega)
    simp [go_sem] at c0 c1 c2 c3 c4 c5 f0 f1
    clear hc hf hb; go_wp2_with fail; refine bodyPost_ret (v := .tuple #[.agg #[.int .i64 0, .int .i64 0], .bool false]) (by simp [results, Tryz.results101, go_sem, c4, c5]) rfl ⟨fr_no1 rfl, by go_grown⟩
  | true =>
    cases hb0 : Wsh.vfB bn bd with
    | false =>
      go_enter Tryz.func101, Tryz.ntmps101; go_wp2_with fail; refine (iValid an ad _).mono ?_; rintro e w1 ⟨rfl, hb⟩; have hB : Below w.heap.size w w1 := bel_tr (by go_grown) hb; have hz := hb.size
      simp at hz
      obtain ⟨hc, hf⟩ := bcell hb; have c0 := hc (w.heap.size) 0 (by simp <;> omega); have c1 := hc (w.heap.size) 1 (by simp <;> omega); have c2 := hc (w.heap.size + 1) 0 (by simp <;> omega); have c3 := hc (w.heap.size + 1) 1 (by simp <;> omega); have c4 := hc (w.heap.size + 2) 0 (by simp <;> omega); have c5 := hc (w.heap.size + 2) 1 (by simp <;> omega); have f0 := hf (w.heap.size + 2) 0 (by simp <;> omega); have f1 := hf (w.heap.size + 2) 1 (by simp <;> omega)
      simp [go_sem] at c0 c1 c2 c3 c4 c5 f0 f1
      clear hc hf hb; go_wp2_with fail; refine (iValid bn bd _).mono ?_; rintro e w2 ⟨rfl, hb⟩; have hB2 : Below w.heap.size w w2 := bel_tr hB hb; obtain ⟨hc, hf⟩ := bcell hb; have d0 := (hc (w.heap.size) 0 (by omega)).trans c0; have d1 := (hc (w.heap.size) 1 (by omega)).trans c1; have d2 := (hc (w.heap.size + 1) 0 (by omega)).trans c2; have d3 := (hc (w.heap.size + 1) 1 (by omega)).trans c3; have d4 := (hc (w.heap.size + 2) 0 (by omega)).trans c4; have d5 := (hc (w.heap.size + 2) 1 (by omega)).trans c5; have g0 := (hf (w.heap.size + 2) 0 (by omega)).trans f0; have g1 := (hf (w.heap.size + 2) 1 (by omega)).trans f1; clear hc hf hb; go_wp2_with fail; refine bodyPost_ret (v := .tuple #[.agg #[.int .i64 0, .int .i64 0], .bool false]) (by simp [results, Tryz.results101, go_sem, d4, d5]) rfl ⟨fr_no2 rfl, by go_grown⟩
    | true =>
      obtain ⟨⟨p1, p2⟩, ⟨p3, p4⟩, ⟨p5, p6⟩, p7, p8⟩ := bounds ha hb0; go_enter Tryz.func101, Tryz.ntmps101; go_wp2_with fail; refine (iValid an ad _).mono ?_; rintro e w1 ⟨rfl, hb⟩; have hB : Below w.heap.size w w1 := bel_tr (by go_grown) hb; have hz := hb.size
      simp at hz
      obtain ⟨hc, hf⟩ := bcell hb; have c0 := hc (w.heap.size) 0 (by simp <;> omega); have c1 := hc (w.heap.size) 1 (by simp <;> omega); have c2 := hc (w.heap.size + 1) 0 (by simp <;> omega); have c3 := hc (w.heap.size + 1) 1 (by simp <;> omega); have c4 := hc (w.heap.size + 2) 0 (by simp <;> omega); have c5 := hc (w.heap.size + 2) 1 (by simp <;> omega); have f0 := hf (w.heap.size + 2) 0 (by simp <;> omega); have f1 := hf (w.heap.size + 2) 1 (by simp <;> omega)
      simp [go_sem] at c0 c1 c2 c3 c4 c5 f0 f1
      clear hc hf hb; go_wp2_with fail; refine (iValid bn bd _).mono ?_; rintro e w2 ⟨rfl, hb⟩; have hB2 : Below w.heap.size w w2 := bel_tr hB hb; have hz2 := hb.size; obtain ⟨hc, hf⟩ := bcell hb; have d0 := (hc (w.heap.size) 0 (by omega)).trans c0; have d1 := (hc (w.heap.size) 1 (by omega)).trans c1; have d2 := (hc (w.heap.size + 1) 0 (by omega)).trans c2; have d3 := (hc (w.heap.size + 1) 1 (by omega)).trans c3; have d4 := (hc (w.heap.size + 2) 0 (by omega)).trans c4; have d5 := (hc (w.heap.size + 2) 1 (by omega)).trans c5; have g0 := (hf (w.heap.size + 2) 0 (by omega)).trans f0; have g1 := (hf (w.heap.size + 2) 1 (by omega)).trans f1; clear hc hf hb; clear c0 c1 c2 c3 c4 c5 f0 f1; go_wp2_with fail; refine (ired (an * bd + bn * ad) (ad * bd) _ (by omega) (by omega)).mono ?_; rintro e w3 ⟨rfl, hb⟩; have hB3 : Below w.heap.size w w3 := bel_tr hB2 hb; obtain ⟨hc, hf⟩ := bcell hb; have c4 := (hc (w.heap.size + 2) 0 (by omega)).trans d4; have c5 := (hc (w.heap.size + 2) 1 (by omega)).trans d5; have f0 := (hf (w.heap.size + 2) 0 (by omega)).trans g0; have f1 := (hf (w.heap.size + 2) 1 (by omega)).trans g1; clear hc hf hb; clear d0 d1 d2 d3 d4 d5 g0 g1; go_wp2_with fail; refine bodyPost_ret (v := .tuple #[.agg #[.int .i64 (Wsh.qn (Wsh.redB (an * bd + bn * ad) (ad * bd)) (Wsh.rn (an * bd + bn * ad) (ad * bd))), .int .i64 (Wsh.qn (Wsh.redB (an * bd + bn * ad) (ad * bd)) (Wsh.rd (an * bd + bn * ad) (ad * bd)))], .bool (Wsh.redB (an * bd + bn * ad) (ad * bd))]) (by simp [results, Tryz.results101, go_sem, c4, c5]) rfl ⟨fr_yes rfl rfl, by go_grown⟩
theorem iSub (an ad bn bd : Int) (w : World) :
    Calls Tryz.prog 160 #[.agg #[.int .i64 an, .int .i64 ad], .agg #[.int .i64 bn, .int .i64 bd]] w fun e w' => e = .returned (frV (Wsh.vfB an ad && Wsh.vfB bn bd && Wsh.redB (an * bd - bn * ad) (ad * bd)) (Wsh.rn (an * bd - bn * ad) (ad * bd)) (Wsh.rd (an * bd - bn * ad) (ad * bd))) ∧ Below w.heap.size w w' := by
  cases ha : Wsh.vfB an ad with
  | false =>
    go_enter Tryz.func160, Tryz.ntmps160; go_wp2_with fail; refine (iValid an ad _).mono ?_; rintro e w1 ⟨rfl, hb⟩; have hB : Below w.heap.size w w1 := bel_tr (by go_grown) hb; obtain ⟨hc, hf⟩ := bcell hb; have c0 := hc (w.heap.size) 0 (by simp <;> omega); have c1 := hc (w.heap.size) 1 (by simp <;> omega); have c2 := hc (w.heap.size + 1) 0 (by simp <;> omega); have c3 := hc (w.heap.size + 1) 1 (by simp <;> omega); have c4 := hc (w.heap.size + 2) 0 (by simp <;> omega); have c5 := hc (w.heap.size + 2) 1 (by simp <;> omega); have f0 := hf (w.heap.size + 2) 0 (by simp <;> omega); have f1 := hf (w.heap.size + 2) 1 (by simp <;> omega)
    simp [go_sem] at c0 c1 c2 c3 c4 c5 f0 f1
    clear hc hf hb; go_wp2_with fail; refine bodyPost_ret (v := .tuple #[.agg #[.int .i64 0, .int .i64 0], .bool false]) (by simp [results, Tryz.results160, go_sem, c4, c5]) rfl ⟨fr_no1 rfl, by go_grown⟩
  | true =>
    cases hb0 : Wsh.vfB bn bd with
    | false =>
      go_enter Tryz.func160, Tryz.ntmps160; go_wp2_with fail; refine (iValid an ad _).mono ?_; rintro e w1 ⟨rfl, hb⟩; have hB : Below w.heap.size w w1 := bel_tr (by go_grown) hb; have hz := hb.size
      simp at hz
      obtain ⟨hc, hf⟩ := bcell hb; have c0 := hc (w.heap.size) 0 (by simp <;> omega); have c1 := hc (w.heap.size) 1 (by simp <;> omega); have c2 := hc (w.heap.size + 1) 0 (by simp <;> omega); have c3 := hc (w.heap.size + 1) 1 (by simp <;> omega); have c4 := hc (w.heap.size + 2) 0 (by simp <;> omega); have c5 := hc (w.heap.size + 2) 1 (by simp <;> omega); have f0 := hf (w.heap.size + 2) 0 (by simp <;> omega); have f1 := hf (w.heap.size + 2) 1 (by simp <;> omega)
      simp [go_sem] at c0 c1 c2 c3 c4 c5 f0 f1
      clear hc hf hb; go_wp2_with fail; refine (iValid bn bd _).mono ?_; rintro e w2 ⟨rfl, hb⟩; have hB2 : Below w.heap.size w w2 := bel_tr hB hb; obtain ⟨hc, hf⟩ := bcell hb; have d0 := (hc (w.heap.size) 0 (by omega)).trans c0; have d1 := (hc (w.heap.size) 1 (by omega)).trans c1; have d2 := (hc (w.heap.size + 1) 0 (by omega)).trans c2; have d3 := (hc (w.heap.size + 1) 1 (by omega)).trans c3; have d4 := (hc (w.heap.size + 2) 0 (by omega)).trans c4; have d5 := (hc (w.heap.size + 2) 1 (by omega)).trans c5; have g0 := (hf (w.heap.size + 2) 0 (by omega)).trans f0; have g1 := (hf (w.heap.size + 2) 1 (by omega)).trans f1; clear hc hf hb; go_wp2_with fail; refine bodyPost_ret (v := .tuple #[.agg #[.int .i64 0, .int .i64 0], .bool false]) (by simp [results, Tryz.results160, go_sem, d4, d5]) rfl ⟨fr_no2 rfl, by go_grown⟩
    | true =>
      obtain ⟨⟨p1, p2⟩, ⟨p3, p4⟩, ⟨p5, p6⟩, p7, p8⟩ := bounds ha hb0; go_enter Tryz.func160, Tryz.ntmps160; go_wp2_with fail; refine (iValid an ad _).mono ?_; rintro e w1 ⟨rfl, hb⟩; have hB : Below w.heap.size w w1 := bel_tr (by go_grown) hb; have hz := hb.size
      simp at hz
      obtain ⟨hc, hf⟩ := bcell hb; have c0 := hc (w.heap.size) 0 (by simp <;> omega); have c1 := hc (w.heap.size) 1 (by simp <;> omega); have c2 := hc (w.heap.size + 1) 0 (by simp <;> omega); have c3 := hc (w.heap.size + 1) 1 (by simp <;> omega); have c4 := hc (w.heap.size + 2) 0 (by simp <;> omega); have c5 := hc (w.heap.size + 2) 1 (by simp <;> omega); have f0 := hf (w.heap.size + 2) 0 (by simp <;> omega); have f1 := hf (w.heap.size + 2) 1 (by simp <;> omega)
      simp [go_sem] at c0 c1 c2 c3 c4 c5 f0 f1
      clear hc hf hb; go_wp2_with fail; refine (iValid bn bd _).mono ?_; rintro e w2 ⟨rfl, hb⟩; have hB2 : Below w.heap.size w w2 := bel_tr hB hb; have hz2 := hb.size; obtain ⟨hc, hf⟩ := bcell hb; have d0 := (hc (w.heap.size) 0 (by omega)).trans c0; have d1 := (hc (w.heap.size) 1 (by omega)).trans c1; have d2 := (hc (w.heap.size + 1) 0 (by omega)).trans c2; have d3 := (hc (w.heap.size + 1) 1 (by omega)).trans c3; have d4 := (hc (w.heap.size + 2) 0 (by omega)).trans c4; have d5 := (hc (w.heap.size + 2) 1 (by omega)).trans c5; have g0 := (hf (w.heap.size + 2) 0 (by omega)).trans f0; have g1 := (hf (w.heap.size + 2) 1 (by omega)).trans f1; clear hc hf hb; clear c0 c1 c2 c3 c4 c5 f0 f1; go_wp2_with fail; refine (ired (an * bd - bn * ad) (ad * bd) _ (by omega) (by omega)).mono ?_; rintro e w3 ⟨rfl, hb⟩; have hB3 : Below w.heap.size w w3 := bel_tr hB2 hb; obtain ⟨hc, hf⟩ := bcell hb; have c4 := (hc (w.heap.size + 2) 0 (by omega)).trans d4; have c5 := (hc (w.heap.size + 2) 1 (by omega)).trans d5; have f0 := (hf (w.heap.size + 2) 0 (by omega)).trans g0; have f1 := (hf (w.heap.size + 2) 1 (by omega)).trans g1; clear hc hf hb; clear d0 d1 d2 d3 d4 d5 g0 g1; go_wp2_with fail; refine bodyPost_ret (v := .tuple #[.agg #[.int .i64 (Wsh.qn (Wsh.redB (an * bd - bn * ad) (ad * bd)) (Wsh.rn (an * bd - bn * ad) (ad * bd))), .int .i64 (Wsh.qn (Wsh.redB (an * bd - bn * ad) (ad * bd)) (Wsh.rd (an * bd - bn * ad) (ad * bd)))], .bool (Wsh.redB (an * bd - bn * ad) (ad * bd))]) (by simp [results, Tryz.results160, go_sem, c4, c5]) rfl ⟨fr_yes rfl rfl, by go_grown⟩
theorem scompare (an ad bn bd : Int) (w : World) (ha : Wsh.vfB an ad = true) (hb : Wsh.vfB bn bd = true) :
  Calls Tryz.prog 146 #[.agg #[.int .i64 an, .int .i64 ad], .agg #[.int .i64 bn, .int .i64 bd]] w fun e w' => e = .returned (.int .i64 (Wsh.cmpI (an * bd) (bn * ad))) ∧ Below w.heap.size w w' := by
 obtain ⟨⟨p1, p2⟩, ⟨p3, p4⟩, ⟨p5, p6⟩, p7, p8⟩ := bounds ha hb; clear ha hb
 by_cases h1 : an * bd < bn * ad
 ·go_enter Tryz.func146, Tryz.ntmps146
  go_wp2
  go_ret; exact ⟨ret_int (Wsh.cmpI_lt h1).symm, by go_grown⟩
 ·by_cases h2 : bn * ad < an * bd
  ·go_enter Tryz.func146, Tryz.ntmps146
   go_wp2
   go_ret; exact ⟨ret_int (Wsh.cmpI_gt h2).symm, by go_grown⟩
  ·go_enter Tryz.func146, Tryz.ntmps146
   go_wp2
   go_ret; exact ⟨ret_int (Wsh.cmpI_eq (by omega)).symm, by go_grown⟩
theorem sadd (an ad bn bd : Int) (w : World) (ha : Wsh.vfB an ad = true) (hb : Wsh.vfB bn bd = true) :
  Calls Tryz.prog 116 #[.agg #[.int .i64 an, .int .i64 ad], .agg #[.int .i64 bn, .int .i64 bd]] w fun e w' => e = .returned (frV (Wsh.redB (an * bd + bn * ad) (ad * bd)) (Wsh.rn (an * bd + bn * ad) (ad * bd)) (Wsh.rd (an * bd + bn * ad) (ad * bd))) ∧ Below w.heap.size w w' := by
 obtain ⟨⟨p1, p2⟩, ⟨p3, p4⟩, ⟨p5, p6⟩, p7, p8⟩ := bounds ha hb; clear ha hb; go_enter Tryz.func116, Tryz.ntmps116; go_wp2_with fail; refine (sred (an * bd + bn * ad) (ad * bd) _ (by omega) (by omega) (by omega) (by omega)).mono ?_; rintro e w1 ⟨rfl, hb⟩; have hB : Below w.heap.size w w1 := bel_tr (by go_grown) hb; obtain ⟨hc, hf⟩ := bcell hb; have c0 := hc (w.heap.size + 2) 0 (by simp <;> omega); have c1 := hc (w.heap.size + 2) 1 (by simp <;> omega); have f0 := hf (w.heap.size + 2) 0 (by simp <;> omega); have f1 := hf (w.heap.size + 2) 1 (by simp <;> omega)
 simp [go_sem] at c0 c1 f0 f1
 clear hc hf hb; go_wp2_with fail; refine bodyPost_ret (v := .tuple #[.agg #[.int .i64 (Wsh.qn (Wsh.redB (an * bd + bn * ad) (ad * bd)) (Wsh.rn (an * bd + bn * ad) (ad * bd))), .int .i64 (Wsh.qn (Wsh.redB (an * bd + bn * ad) (ad * bd)) (Wsh.rd (an * bd + bn * ad) (ad * bd)))], .bool (Wsh.redB (an * bd + bn * ad) (ad * bd))]) (by simp [results, Tryz.results116, go_sem, c0, c1]) rfl ⟨rfl, by go_grown⟩
theorem ssub (an ad bn bd : Int) (w : World) (ha : Wsh.vfB an ad = true) (hb : Wsh.vfB bn bd = true) :
  Calls Tryz.prog 117 #[.agg #[.int .i64 an, .int .i64 ad], .agg #[.int .i64 bn, .int .i64 bd]] w fun e w' => e = .returned (frV (Wsh.redB (an * bd - bn * ad) (ad * bd)) (Wsh.rn (an * bd - bn * ad) (ad * bd)) (Wsh.rd (an * bd - bn * ad) (ad * bd))) ∧ Below w.heap.size w w' := by
 obtain ⟨⟨p1, p2⟩, ⟨p3, p4⟩, ⟨p5, p6⟩, p7, p8⟩ := bounds ha hb
 by_cases h1 : an * bd < bn * ad
 ·have hm : Wsh.cmpI (an * bd) (bn * ad) < 0 := by rw [Wsh.cmpI_lt h1]; decide
  go_enter Tryz.func117, Tryz.ntmps117; go_wp2_with fail; refine (scompare an ad bn bd _ ha hb).mono ?_; rintro e w1 ⟨rfl, hb⟩; have hB : Below w.heap.size w w1 := bel_tr (by go_grown) hb; obtain ⟨hc, hf⟩ := bcell hb; have c0 := hc (w.heap.size + 2) 0 (by simp <;> omega); have c1 := hc (w.heap.size + 2) 1 (by simp <;> omega); have f0 := hf (w.heap.size + 2) 0 (by simp <;> omega); have f1 := hf (w.heap.size + 2) 1 (by simp <;> omega)
  simp [go_sem] at c0 c1 f0 f1
  clear hc hf hb; go_wp2_with fail; refine bodyPost_ret (v := .tuple #[.agg #[.int .i64 0, .int .i64 0], .bool false]) (by simp [results, Tryz.results117, go_sem, c0, c1]) rfl ⟨ret_frV (Wsh.redB_no (by omega)) rfl rfl, by go_grown⟩
 ·have hm : ¬ Wsh.cmpI (an * bd) (bn * ad) < 0 := by rw [Wsh.cmpI_nlt h1]; simp
  go_enter Tryz.func117, Tryz.ntmps117; go_wp2_with fail; refine (scompare an ad bn bd _ ha hb).mono ?_; rintro e w1 ⟨rfl, hb⟩; have hB : Below w.heap.size w w1 := bel_tr (by go_grown) hb; have hz := hb.size
  simp at hz
  obtain ⟨hc, hf⟩ := bcell hb; have c0 := hc (w.heap.size) 0 (by simp <;> omega); have c1 := hc (w.heap.size) 1 (by simp <;> omega); have c2 := hc (w.heap.size + 1) 0 (by simp <;> omega); have c3 := hc (w.heap.size + 1) 1 (by simp <;> omega); have c4 := hc (w.heap.size + 2) 0 (by simp <;> omega); have c5 := hc (w.heap.size + 2) 1 (by simp <;> omega); have f0 := hf (w.heap.size + 2) 0 (by simp <;> omega); have f1 := hf (w.heap.size + 2) 1 (by simp <;> omega)
  simp [go_sem] at c0 c1 c2 c3 c4 c5 f0 f1
  clear hc hf hb; go_wp2_with fail; refine (sred (an * bd - bn * ad) (ad * bd) _ (by omega) (by omega) (by omega) (by omega)).mono ?_; rintro e w2 ⟨rfl, hb⟩; have hB2 : Below w.heap.size w w2 := bel_tr hB hb; obtain ⟨hc, hf⟩ := bcell hb; have d4 := (hc (w.heap.size + 2) 0 (by omega)).trans c4; have d5 := (hc (w.heap.size + 2) 1 (by omega)).trans c5; have g0 := (hf (w.heap.size + 2) 0 (by omega)).trans f0; have g1 := (hf (w.heap.size + 2) 1 (by omega)).trans f1; clear hc hf hb; clear c0 c1 c2 c3 c4 c5 f0 f1; go_wp2_with fail; refine bodyPost_ret (v := .tuple #[.agg #[.int .i64 (Wsh.qn (Wsh.redB (an * bd - bn * ad) (ad * bd)) (Wsh.rn (an * bd - bn * ad) (ad * bd))), .int .i64 (Wsh.qn (Wsh.redB (an * bd - bn * ad) (ad * bd)) (Wsh.rd (an * bd - bn * ad) (ad * bd)))], .bool (Wsh.redB (an * bd - bn * ad) (ad * bd))]) (by simp [results, Tryz.results117, go_sem, d4, d5]) rfl ⟨rfl, by go_grown⟩
abbrev Led := List (Int × Rat)
def shareL : Led → Int → Rat
 | [], _ => 0
 | h :: t, o => if h.1 = o then h.2 else shareL t o
def Asc (L : Led) : Prop := L.Pairwise (fun a b => a.1 < b.1)
def Pos (L : Led) : Prop := ∀ h ∈ L, 0 < h.2
def setP (o : Int) (q : Rat) : Bool → Led → Led × Bool
 | d, [] => ([], d)
 | d, h :: t => ((if !d && decide (o ≤ h.1) then [(o, q)] else []) ++ (if h.1 ≠ o then [h] else []) ++ (setP o q (d || decide (o ≤ h.1)) t).1, (setP o q (d || decide (o ≤ h.1)) t).2)
def setL (L : Led) (o : Int) (q : Rat) : Led := (setP o q (decide (q = 0)) L).1 ++ (if (setP o q (decide (q = 0)) L).2 then [] else [(o, q)])
theorem setP_append (o : Int) (q : Rat) : ∀ (A B : Led) (d : Bool), setP o q d (A ++ B) = ((setP o q d A).1 ++ (setP o q (setP o q d A).2 B).1, (setP o q (setP o q d A).2 B).2) := by
 intro A
 induction A with
 | nil => intro B d; simp [setP]
 | cons h t ih => intro B d; simp only [List.cons_append, setP, ih, List.append_assoc]
theorem setP_done (o : Int) (q : Rat) : ∀ L : Led, setP o q true L = (L.filter (fun h => decide (h.1 ≠ o)), true) := by
  intro L
  induction L with
  | nil => rfl
  | cons h t ih =>
    simp only [setP, Bool.true_or, Bool.not_true, Bool.false_and, ih]
    by_cases e : h.1 = o
    · simp [e]
    · simp [e]
theorem share_mem {L : Led} {o : Int} (h : shareL L o ≠ 0) : ∃ x ∈ L, x.1 = o ∧ x.2 = shareL L o := by
  induction L with
  | nil => exact absurd rfl h
  | cons x t ih =>
    by_cases e : x.1 = o
    · exact ⟨x, by simp, e, by show x.2 = (if x.1 = o then x.2 else shareL t o); rw [if_pos e]⟩
    · have e2 : shareL (x :: t) o = shareL t o := by show (if x.1 = o then x.2 else shareL t o) = _; rw [if_neg e]
      rw [e2] at h ⊢; obtain ⟨y, hy, h1, h2⟩ := ih h; exact ⟨y, by simp [hy], h1, h2⟩
theorem share_filter (L : Led) (o p : Int) : shareL (L.filter (fun h => decide (h.1 ≠ o))) p = if p = o then 0 else shareL L p := by
  induction L with
  | nil => show (0 : Rat) = _; split <;> rfl
  | cons h t ih =>
    by_cases e : h.1 = o
    · rw [List.filter_cons_of_neg (by simp [e]), ih]
      split
      · rfl
      · next n => show _ = (if h.1 = p then h.2 else shareL t p); rw [if_neg (by omega)]
    · rw [List.filter_cons_of_pos (by simp [e])]
      show (if h.1 = p then h.2 else shareL _ p) = _
      rw [ih]
      by_cases ep : h.1 = p
      · rw [if_pos ep, if_neg (by omega)]; show _ = (if h.1 = p then h.2 else shareL t p); rw [if_pos ep]
      · rw [if_neg ep]
        split
        · rfl
        · show _ = (if h.1 = p then h.2 else shareL t p); rw [if_neg ep]
theorem setL_zero (L : Led) (o : Int) : setL L o 0 = L.filter (fun h => decide (h.1 ≠ o)) := by
 unfold setL; rw [show decide ((0 : Rat) = 0) = true from by decide, setP_done]; simp
def insL (o : Int) (q : Rat) : Led → Led
 | [] => [(o, q)]
 | h :: t => if o ≤ h.1 then (o, q) :: (h :: t).filter (fun h => decide (h.1 ≠ o)) else h :: insL o q t
theorem setL_ins {q : Rat} (hq : q ≠ 0) (L : Led) (o : Int) : setL L o q = insL o q L := by
  unfold setL; rw [decide_eq_false hq]
  induction L with
  | nil => rfl
  | cons h t ih =>
    show _ = if o ≤ h.1 then _ else _
    by_cases e : o ≤ h.1
    · rw [if_pos e]
      simp only [setP, Bool.not_false, Bool.true_and, decide_eq_true e, Bool.false_or, setP_done]
      by_cases e2 : h.1 = o
      · simp [e2]
      · simp [e2]
    · rw [if_neg e]
      simp only [setP, Bool.not_false, Bool.true_and, decide_eq_false e, Bool.false_or]; rw [← ih]
      have : h.1 ≠ o := by omega
      simp [this]
theorem ins_share {L : Led} (ha : Asc L) (o : Int) (q : Rat) (p : Int) : shareL (insL o q L) p = if p = o then q else shareL L p := by
  induction L with
  | nil =>
    show (if o = p then q else 0) = (if p = o then q else 0)
    by_cases e : p = o
    · rw [if_pos e, if_pos e.symm]
    · rw [if_neg e, if_neg (fun c => e c.symm)]
  | cons h t ih =>
    have h1 := List.pairwise_cons.1 ha
    show shareL (if o ≤ h.1 then _ else _) p = _
    by_cases e : o ≤ h.1
    · rw [if_pos e]
      show (if o = p then q else shareL _ p) = _
      rw [share_filter]
      by_cases ep : p = o
      · rw [if_pos ep.symm, if_pos ep]
      · rw [if_neg (fun c => ep c.symm), if_neg ep, if_neg ep]
    · rw [if_neg e]
      show (if h.1 = p then h.2 else shareL (insL o q t) p) = _
      rw [ih h1.2]
      by_cases ep : h.1 = p
      · rw [if_pos ep, if_neg (by omega)]; show _ = (if h.1 = p then h.2 else shareL t p); rw [if_pos ep]
      · rw [if_neg ep]
        split
        · rfl
        · show _ = (if h.1 = p then h.2 else shareL t p); rw [if_neg ep]
theorem share_set {L : Led} (ha : Asc L) (o : Int) (q : Rat) (p : Int) : shareL (setL L o q) p = if p = o then q else shareL L p := by
 by_cases hq : q = 0
 ·subst hq; rw [setL_zero, share_filter]
 ·rw [setL_ins hq, ins_share ha]
theorem asc_filter {L : Led} (ha : Asc L) (f : Int × Rat → Bool) : Asc (L.filter f) := List.Pairwise.filter f ha
theorem ins_mem {o : Int} {q : Rat} : ∀ {L : Led} {x : Int × Rat}, x ∈ insL o q L → x = (o, q) ∨ x ∈ L := by
  intro L
  induction L with
  | nil => intro x hx; left; simpa [insL] using hx
  | cons h t ih =>
    intro x hx; unfold insL at hx
    split at hx
    · rcases List.mem_cons.1 hx with hx | hx
      · exact .inl hx
      · exact .inr (List.mem_filter.1 hx).1
    · rcases List.mem_cons.1 hx with hx | hx
      · exact .inr (by simp [hx])
      · rcases ih hx with h | h
        · exact .inl h
        · exact .inr (by simp [h])
theorem asc_ins {L : Led} (ha : Asc L) (o : Int) (q : Rat) : Asc (insL o q L) := by
  induction L with
  | nil => exact List.pairwise_singleton _ _
  | cons h t ih =>
    have h1 := List.pairwise_cons.1 ha; unfold insL
    split
    · next e =>
      refine List.pairwise_cons.2 ⟨fun x hx => ?_, asc_filter ha _⟩; have hm := List.mem_filter.1 hx
      have hne : x.1 ≠ o := by simpa using hm.2
      have hle : h.1 ≤ x.1 := by
        rcases List.mem_cons.1 hm.1 with rfl | hx
        · exact Int.le_refl _
        · exact Int.le_of_lt (h1.1 x hx)
      show o < x.1
      omega
    · next e =>
      refine List.pairwise_cons.2 ⟨fun x hx => ?_, ih h1.2⟩
      rcases ins_mem hx with rfl | hx
      · show h.1 < o; omega
      · exact h1.1 x hx
theorem asc_set {L : Led} (ha : Asc L) (o : Int) (q : Rat) : Asc (setL L o q) := by
 by_cases hq : q = 0
 ·subst hq; rw [setL_zero]; exact asc_filter ha _
 ·rw [setL_ins hq]; exact asc_ins ha o q
def frB (q : Rat) : Bool := decide (0 ≤ q.num) && decide (q.num ≤ (q.den : Int)) && decide ((q.den : Int) ≤ 10000)
theorem frB_iff (q : Rat) : frB q = true ↔ 0 ≤ q.num ∧ q.num ≤ (q.den : Int) ∧ (q.den : Int) ≤ 10000 := by unfold frB; simp [and_assoc]
theorem den_pos (q : Rat) : 1 ≤ (q.den : Int) := by have := q.den_pos; omega
theorem q_mk (q : Rat) : Rat.divInt q.num q.den = q := Rat.num_divInt_den q
theorem rn_q {n d : Int} (h : 0 < d) : Wsh.rn n d = (Rat.divInt n d).num := by
 rw [Rat.num_divInt, Int.sign_eq_one_of_pos h, Int.one_mul, Int.gcd_comm]; rfl
theorem rd_q {n d : Int} (h : 0 < d) : Wsh.rd n d = ((Rat.divInt n d).den : Int) := by
 rw [Rat.den_divInt, if_neg (by omega)]; unfold Wsh.rd; rw [Int.gcd_comm]; have : (d.natAbs : Int) = d := Int.natAbs_of_nonneg (by omega); rw [Int.natCast_ediv, this]
theorem redB_q {n d : Int} (h : 0 < d) : Wsh.redB n d = frB (Rat.divInt n d) := by
 have g := Wsh.gcd_pos n d h; have e1 := Wsh.rn_mul n d; have e2 := Wsh.rd_mul n d; unfold frB Wsh.redB; rw [← rn_q h, ← rd_q h]
 have a1 : 0 ≤ n ↔ 0 ≤ Wsh.rn n d := by
  constructor
  ·intro hn; exact (Wsh.rn_le n d hn).1
  ·intro hn; rw [← e1]; exact Int.mul_nonneg hn (by omega)
 have a2 : n ≤ d ↔ Wsh.rn n d ≤ Wsh.rd n d := by
  constructor
  ·intro hn
   have : Wsh.rn n d * (Int.gcd n d : Int) ≤ Wsh.rd n d * (Int.gcd n d : Int) := by rw [e1, e2]; exact hn
   exact Int.le_of_mul_le_mul_right this g
  ·intro hn
   have := Int.mul_le_mul_of_nonneg_right hn (Int.le_of_lt g); rw [e1, e2] at this; exact this
 rw [decide_eq_decide.2 a1, decide_eq_decide.2 a2]
theorem vf_q {n d : Int} (h : Wsh.vfB n d = true) : (Rat.divInt n d).num = n ∧ ((Rat.divInt n d).den : Int) = d ∧ frB (Rat.divInt n d) = true := by
 have hd := ((Wsh.vfB_iff n d).1 h).1; obtain ⟨a, b, c⟩ := Wsh.red_self n d h; rw [rn_q (by omega)] at a; rw [rd_q (by omega)] at b; rw [redB_q (by omega)] at c; exact ⟨a, b, c⟩
theorem gcd_q (q : Rat) : Int.gcd q.num q.den = 1 := by
 have := q.reduced; unfold Int.gcd
 simpa [Nat.Coprime] using this
theorem q_vf {q : Rat} (h : frB q = true) : Wsh.vfB q.num q.den = true := by
 rw [frB_iff] at h; rw [Wsh.vfB_iff]; exact ⟨den_pos q, h.2.2, h.1, h.2.1, gcd_q q⟩
theorem mul_dpos (p q : Rat) : 0 < (p.den : Int) * (q.den : Int) := Int.mul_pos (by have := den_pos p; omega) (by have := den_pos q; omega)
theorem add_q (p q : Rat) : Rat.divInt (p.num * q.den + q.num * p.den) (p.den * q.den) = p + q := by
 conv => rhs; rw [← q_mk p, ← q_mk q]
 rw [Rat.divInt_add_divInt _ _ (by have := den_pos p; omega) (by have := den_pos q; omega)]
theorem sub_q (p q : Rat) : Rat.divInt (p.num * q.den - q.num * p.den) (p.den * q.den) = p - q := by
 conv => rhs; rw [← q_mk p, ← q_mk q]
 rw [Rat.divInt_sub_divInt _ _ (by have := den_pos p; omega) (by have := den_pos q; omega)]
theorem add_red (p q : Rat) : Wsh.redB (p.num * q.den + q.num * p.den) (p.den * q.den) = frB (p + q) ∧ Wsh.rn (p.num * q.den + q.num * p.den) (p.den * q.den) = (p + q).num ∧ Wsh.rd (p.num * q.den + q.num * p.den) (p.den * q.den) = ((p + q).den : Int) := by
 rw [redB_q (mul_dpos p q), rn_q (mul_dpos p q), rd_q (mul_dpos p q), add_q]; exact ⟨rfl, rfl, rfl⟩
theorem sub_red (p q : Rat) : Wsh.redB (p.num * q.den - q.num * p.den) (p.den * q.den) = frB (p - q) ∧ Wsh.rn (p.num * q.den - q.num * p.den) (p.den * q.den) = (p - q).num ∧ Wsh.rd (p.num * q.den - q.num * p.den) (p.den * q.den) = ((p - q).den : Int) := by
 rw [redB_q (mul_dpos p q), rn_q (mul_dpos p q), rd_q (mul_dpos p q), sub_q]; exact ⟨rfl, rfl, rfl⟩
theorem frB_nonneg {q : Rat} (h : frB q = true) : 0 ≤ q := Rat.num_nonneg.1 ((frB_iff q).1 h).1
theorem num_zero (q : Rat) : q.num = 0 ↔ q = 0 := Rat.num_eq_zero
def totL : Led → Rat
 | [] => 0
 | h :: t => h.2 + totL t
theorem tot_append (A B : Led) : totL (A ++ B) = totL A + totL B := by
 induction A with
 | nil => show totL B = 0 + totL B; grind
 | cons h t ih => show h.2 + totL (t ++ B) = h.2 + totL t + totL B; rw [ih]; grind
structure VL (L : Led) : Prop where
 len : L.length ≤ 12
 own : ∀ h ∈ L, 1 ≤ h.1 ∧ h.1 ≤ 999
 fr : ∀ h ∈ L, frB h.2 = true
 pos : Pos L
 asc : Asc L
 sums : ∀ k, k ≤ L.length → frB (totL (L.take k)) = true
 one : totL L = 1
def vlB (L : Led) : Bool := decide (L.length ≤ 12) && L.all (fun h => decide (1 ≤ h.1) && decide (h.1 ≤ 999)) && L.all (fun h => frB h.2) && L.all (fun h => decide (0 < h.2)) && decide (L.Pairwise (fun a b => a.1 < b.1)) && (List.range (L.length + 1)).all (fun k => frB (totL (L.take k))) && decide (totL L = 1)
theorem vl_iff (L : Led) : vlB L = true ↔ VL L := by
 unfold vlB; simp only [Bool.and_eq_true, decide_eq_true_eq, List.all_eq_true, List.mem_range]
 constructor
 ·rintro ⟨⟨⟨⟨⟨⟨a, b⟩, c⟩, d⟩, e⟩, f⟩, g⟩
  exact ⟨a, b, c, d, e, fun k hk => f k (by omega), g⟩
 ·intro h
  exact ⟨⟨⟨⟨⟨⟨h.len, h.own⟩, h.fr⟩, h.pos⟩, h.asc⟩, fun k hk => h.sums k (by omega)⟩, h.one⟩
theorem frB_zero : frB 0 = true := by decide
def soldL (L : Led) (f t : Int) (p : Rat) : Led := setL (setL L f (shareL L f - p)) t (shareL L t + p)
def sellB (L : Led) (f t : Int) (p : Rat) : Bool :=
 frB (shareL L f - p) && frB (shareL L t + p) && decide (p ≠ 0) && decide (f ≠ t) && decide (1 ≤ t) && decide (t ≤ 999) && vlB (soldL L f t p)
theorem sell_iff (L : Led) (f t : Int) (p : Rat) : sellB L f t p = true ↔ frB (shareL L f - p) = true ∧ frB (shareL L t + p) = true ∧ p ≠ 0 ∧ f ≠ t ∧ 1 ≤ t ∧ t ≤ 999 ∧ VL (soldL L f t p) := by
 unfold sellB; simp [vl_iff, and_assoc]
def giveL (p : Rat) : Led → List Int → Led
 | L, [] => L
 | L, h :: t => giveL p (setL L h (shareL L h + p)) t
theorem give_snoc (p : Rat) : ∀ (hs : List Int) (L : Led) (h : Int), giveL p L (hs ++ [h]) = setL (giveL p L hs) h (shareL (giveL p L hs) h + p) := by
 intro hs
 induction hs with
 | nil => intro L h; rfl
 | cons x t ih => intro L h; exact ih _ h
theorem give_asc (p : Rat) : ∀ (hs : List Int) (L : Led), Asc L → Asc (giveL p L hs) := by
 intro hs
 induction hs with
 | nil => intro L h; exact h
 | cons x t ih => intro L h; exact ih _ (asc_set h _ _)
def lcmTo (L : Led) : Nat → Nat
 | 0 => 1
 | k + 1 => Nat.lcm (lcmTo L k) (L.getD k (0, 0)).2.den
theorem lcm_succ (L : Led) (k : Nat) : lcmTo L (k + 1) = Nat.lcm (lcmTo L k) (L.getD k (0, 0)).2.den := rfl
theorem lcm_pos (L : Led) : ∀ k, 0 < lcmTo L k := by
 intro k
 induction k with
 | zero => exact Nat.one_pos
 | succ k ih => exact Nat.lcm_pos ih (Rat.den_pos _)
theorem lcm_mono (L : Led) (k : Nat) : lcmTo L k ≤ lcmTo L (k + 1) := Nat.le_of_dvd (lcm_pos L (k + 1)) (Nat.dvd_lcm_left _ _)
theorem lcm_mono' (L : Led) : ∀ n k, lcmTo L k ≤ lcmTo L (k + n) := by
 intro n
 induction n with
 | zero => intro k; exact Nat.le_refl _
 | succ n ih => intro k; exact Nat.le_trans (ih k) (lcm_mono L (k + n))
abbrev Hd := Int × Int × Int
abbrev hd0 : Hd := (0, 0, 0)
def ledOf (hs : List Hd) : Led := hs.map fun h => (h.1, Rat.divInt h.2.1 h.2.2)
def rawH (h : Int × Rat) : Hd := (h.1, h.2.num, (h.2.den : Int))
def rawL (L : Led) : List Hd := L.map rawH
def flatH : List Hd → List Int
 | [] => []
 | h :: t => h.1 :: h.2.1 :: h.2.2 :: flatH t
theorem flat_len : ∀ hs : List Hd, (flatH hs).length = hs.length * 3 := by
 intro hs
 induction hs with
 | nil => rfl
 | cons h t ih => show (flatH t).length + 1 + 1 + 1 = (t.length + 1) * 3; rw [ih]; omega
theorem flat_append : ∀ a b : List Hd, flatH (a ++ b) = flatH a ++ flatH b := by
 intro a b
 induction a with
 | nil => rfl
 | cons h t ih => show h.1 :: h.2.1 :: h.2.2 :: flatH (t ++ b) = _; rw [ih]; rfl
theorem flat_get : ∀ (hs : List Hd) (k : Nat), k < hs.length → (flatH hs).getD (k * 3) 0 = (hs.getD k hd0).1 ∧ (flatH hs).getD (k * 3 + 1) 0 = (hs.getD k hd0).2.1 ∧ (flatH hs).getD (k * 3 + 2) 0 = (hs.getD k hd0).2.2 := by
  intro hs
  induction hs with
  | nil => intro k h; simp at h
  | cons h t ih =>
    intro k hk
    cases k with
    | zero => exact ⟨rfl, rfl, rfl⟩
    | succ k =>
      have := ih k (by simpa using hk); rw [show (k + 1) * 3 = k * 3 + 1 + 1 + 1 from by omega]; exact this
theorem flat_take (hs : List Hd) (k : Nat) : (flatH hs).take (k * 3) = flatH (hs.take k) := by
  induction hs generalizing k with
  | nil => simp [flatH]
  | cons h t ih =>
    cases k with
    | zero => rfl
    | succ k =>
      rw [show (k + 1) * 3 = k * 3 + 1 + 1 + 1 from by omega]
      show h.1 :: h.2.1 :: h.2.2 :: (flatH t).take (k * 3) = _
      rw [ih]; rfl
theorem flat_drop (hs : List Hd) (k : Nat) : (flatH hs).drop (k * 3) = flatH (hs.drop k) := by
  induction hs generalizing k with
  | nil => simp [flatH]
  | cons h t ih =>
    cases k with
    | zero => rfl
    | succ k =>
      rw [show (k + 1) * 3 = k * 3 + 1 + 1 + 1 from by omega]
      show (flatH t).drop (k * 3) = _
      rw [ih]; rfl
theorem getD_lt {α : Type} (l : List α) {k : Nat} (h : k < l.length) (d : α) : l.getD k d = l[k] := by
 rw [List.getD_eq_getElem?_getD, List.getElem?_eq_getElem h]; rfl
theorem take_snocD {α : Type} (l : List α) {k : Nat} (h : k < l.length) (d : α) : l.take (k + 1) = l.take k ++ [l.getD k d] := by
 rw [List.take_succ_eq_append_getElem h, getD_lt l h]
theorem led_len (hs : List Hd) : (ledOf hs).length = hs.length := by unfold ledOf; simp
theorem led_raw (L : Led) : ledOf (rawL L) = L := by
 unfold ledOf rawL; rw [List.map_map]
 conv => rhs; rw [← List.map_id L]
 refine List.map_congr_left fun h _ => ?_
 show (h.1, Rat.divInt h.2.num h.2.den) = h
 rw [q_mk]
theorem raw_len (L : Led) : (rawL L).length = L.length := by unfold rawL; simp
theorem raw_get (L : Led) {k : Nat} (h : k < L.length) : (rawL L).getD k hd0 = rawH (L.getD k (0, 0)) := by
 rw [getD_lt _ (by rw [raw_len]; exact h), getD_lt _ h]; unfold rawL; simp
theorem led_get (hs : List Hd) {k : Nat} (h : k < hs.length) : (ledOf hs).getD k (0, 0) = ((hs.getD k hd0).1, Rat.divInt (hs.getD k hd0).2.1 (hs.getD k hd0).2.2) := by
 rw [getD_lt _ (by rw [led_len]; exact h), getD_lt _ h]; unfold ledOf; simp
theorem raw_append (a b : Led) : rawL (a ++ b) = rawL a ++ rawL b := by unfold rawL; simp
theorem raw_take (a : Led) (k : Nat) : rawL (a.take k) = (rawL a).take k := by unfold rawL; simp
theorem raw_drop (a : Led) (k : Nat) : rawL (a.drop k) = (rawL a).drop k := by unfold rawL; simp
def prevO (hs : List Hd) (k : Nat) : Int := if k = 0 then 0 else (hs.getD (k - 1) hd0).1
def okA (hs : List Hd) (k : Nat) : Bool := decide (prevO hs k < (hs.getD k hd0).1) && decide (1 ≤ (hs.getD k hd0).1) && decide ((hs.getD k hd0).1 ≤ 999)
def ascB (hs : List Hd) : Bool := (List.range hs.length).all (okA hs)
def okF (hs : List Hd) (k : Nat) : Bool := Wsh.vfB (hs.getD k hd0).2.1 (hs.getD k hd0).2.2 && decide ((hs.getD k hd0).2.1 ≠ 0)
def sumQ (hs : List Hd) (k : Nat) : Rat := totL ((ledOf hs).take k)
def okS (hs : List Hd) (k : Nat) : Bool := okF hs k && frB (sumQ hs (k + 1))
def allS (hs : List Hd) : Bool := (List.range hs.length).all (okS hs)
def allF (hs : List Hd) : Bool := (List.range hs.length).all (okF hs)
def vlR (hs : List Hd) : Bool := decide (hs.length ≤ 12) && ascB hs && allS hs && decide (sumQ hs hs.length = 1)
theorem rng_all (n : Nat) (f : Nat → Bool) : (List.range n).all f = true ↔ ∀ j, j < n → f j = true := by
 rw [List.all_eq_true]; simp
theorem rng_no {n k : Nat} {f : Nat → Bool} (h : k < n) (hk : f k = false) : (List.range n).all f = false := by
 rw [Bool.eq_false_iff]; intro c; rw [rng_all] at c; rw [c k h] at hk; cases hk
theorem rng_yes {n : Nat} {f : Nat → Bool} (h : ∀ j, j < n → f j = true) : (List.range n).all f = true := (rng_all n f).2 h
theorem rng_more {k : Nat} {f : Nat → Bool} (h : ∀ j, j < k → f j = true) (hk : f k = true) : ∀ j, j < k + 1 → f j = true := fun j hj => by
 by_cases e : j = k
 ·subst e; exact hk
 ·exact h j (by omega)
theorem okF_is {hs : List Hd} {k : Nat} (h : okF hs k = true) : Wsh.vfB (hs.getD k hd0).2.1 (hs.getD k hd0).2.2 = true ∧ (hs.getD k hd0).2.1 ≠ 0 := by
 unfold okF at h; simpa using h
theorem okF_no1 {hs : List Hd} {k : Nat} (h : Wsh.vfB (hs.getD k hd0).2.1 (hs.getD k hd0).2.2 = false) : okF hs k = false := by unfold okF; rw [h]; rfl
theorem okF_no2 {hs : List Hd} {k : Nat} (h : (hs.getD k hd0).2.1 = 0) : okF hs k = false := by unfold okF; rw [h]; simp
theorem okF_yes {hs : List Hd} {k : Nat} (h : Wsh.vfB (hs.getD k hd0).2.1 (hs.getD k hd0).2.2 = true) (h2 : (hs.getD k hd0).2.1 ≠ 0) : okF hs k = true := by unfold okF; rw [h]; simpa using h2
theorem okS_no {hs : List Hd} {k : Nat} (h : okF hs k = false) : okS hs k = false := by unfold okS; rw [h]; rfl
theorem okS_no2 {hs : List Hd} {k : Nat} (h : frB (sumQ hs (k + 1)) = false) : okS hs k = false := by unfold okS; rw [h]; simp
theorem okS_yes {hs : List Hd} {k : Nat} (h : okF hs k = true) (h2 : frB (sumQ hs (k + 1)) = true) : okS hs k = true := by unfold okS; rw [h, h2]; rfl
theorem okS_is {hs : List Hd} {k : Nat} (h : okS hs k = true) : okF hs k = true ∧ frB (sumQ hs (k + 1)) = true := by unfold okS at h; simpa using h
theorem sum_succ {hs : List Hd} {k : Nat} (h : k < hs.length) : sumQ hs (k + 1) = sumQ hs k + Rat.divInt (hs.getD k hd0).2.1 (hs.getD k hd0).2.2 := by
 unfold sumQ; rw [take_snocD (ledOf hs) (by rw [led_len]; exact h) (0, 0), tot_append, led_get hs h]
 show _ + (Rat.divInt _ _ + 0) = _
 grind
theorem sum_red {hs : List Hd} {k : Nat} (h : k < hs.length) (hv : Wsh.vfB (hs.getD k hd0).2.1 (hs.getD k hd0).2.2 = true) :
  Wsh.redB ((sumQ hs k).num * (hs.getD k hd0).2.2 + (hs.getD k hd0).2.1 * (sumQ hs k).den) ((sumQ hs k).den * (hs.getD k hd0).2.2) = frB (sumQ hs (k + 1)) ∧
  Wsh.rn ((sumQ hs k).num * (hs.getD k hd0).2.2 + (hs.getD k hd0).2.1 * (sumQ hs k).den) ((sumQ hs k).den * (hs.getD k hd0).2.2) = (sumQ hs (k + 1)).num ∧
  Wsh.rd ((sumQ hs k).num * (hs.getD k hd0).2.2 + (hs.getD k hd0).2.1 * (sumQ hs k).den) ((sumQ hs k).den * (hs.getD k hd0).2.2) = ((sumQ hs (k + 1)).den : Int) := by
 obtain ⟨a, b, _⟩ := vf_q hv; have := add_red (sumQ hs k) (Rat.divInt (hs.getD k hd0).2.1 (hs.getD k hd0).2.2); rw [a, b, ← sum_succ h] at this; exact this
theorem one_iff {q : Rat} : q = 1 ↔ q.num = (q.den : Int) := by
 constructor
 ·rintro rfl; rfl
 ·intro h
  have := q_mk q; rw [h, Rat.divInt_self' (by have := den_pos q; omega)] at this; exact this.symm
theorem asc_is {hs : List Hd} (h : ascB hs = true) : Asc (ledOf hs) ∧ ∀ x ∈ ledOf hs, 1 ≤ x.1 ∧ x.1 ≤ 999 := by
  unfold ascB at h; rw [rng_all] at h
  have h1 : ∀ k, k < hs.length → prevO hs k < (hs.getD k hd0).1 ∧ 1 ≤ (hs.getD k hd0).1 ∧ (hs.getD k hd0).1 ≤ 999 := fun k hk => by
    have := h k hk; unfold okA at this; simp only [Bool.and_eq_true, decide_eq_true_eq] at this; exact ⟨this.1.1, this.1.2, this.2⟩
  have mono : ∀ n i, i + n + 1 < hs.length → (hs.getD i hd0).1 < (hs.getD (i + n + 1) hd0).1 := by
    intro n
    induction n with
    | zero =>
      intro i hi; have := (h1 (i + 1) hi).1; unfold prevO at this; rw [if_neg (by omega)] at this; exact this
    | succ n ih =>
      intro i hi; have a := ih i (by omega); have := (h1 (i + (n + 1) + 1) hi).1; unfold prevO at this; rw [if_neg (by omega), show i + (n + 1) + 1 - 1 = i + n + 1 from by omega] at this
      omega
  refine ⟨?_, ?_⟩
  · unfold Asc
    rw [List.pairwise_iff_getElem]; intro i j hi hj hij; rw [led_len] at hi hj; have a := mono (j - i - 1) i (by omega); rw [show i + (j - i - 1) + 1 = j from by omega] at a; rw [← getD_lt (ledOf hs) (by rw [led_len]; exact hi) (0, 0), ← getD_lt (ledOf hs) (by rw [led_len]; exact hj) (0, 0), led_get hs hi, led_get hs hj]; exact a
  · intro x hx
    obtain ⟨i, hi, rfl⟩ := List.getElem_of_mem hx; rw [← getD_lt (ledOf hs) hi (0, 0), led_get hs (by rw [led_len] at hi; exact hi)]; exact (h1 i (by rw [led_len] at hi; exact hi)).2
theorem frac_is {hs : List Hd} (h : allF hs = true) : rawL (ledOf hs) = hs ∧ Pos (ledOf hs) ∧ ∀ x ∈ ledOf hs, frB x.2 = true := by
 unfold allF at h; rw [rng_all] at h
 have h1 : ∀ x ∈ hs, Wsh.vfB x.2.1 x.2.2 = true ∧ x.2.1 ≠ 0 := fun x hx => by
  obtain ⟨i, hi, rfl⟩ := List.getElem_of_mem hx; have := okF_is (h i hi)
  rwa [getD_lt _ hi] at this
 refine ⟨?_, ?_, ?_⟩
 ·unfold rawL ledOf
  rw [List.map_map]
  conv => rhs; rw [← List.map_id hs]
  refine List.map_congr_left fun x hx => ?_
  obtain ⟨a, b, _⟩ := vf_q (h1 x hx).1
  show (x.1, (Rat.divInt x.2.1 x.2.2).num, ((Rat.divInt x.2.1 x.2.2).den : Int)) = x
  rw [a, b]
 ·intro x hx
  unfold ledOf at hx; obtain ⟨y, hy, rfl⟩ := List.mem_map.1 hx; obtain ⟨a, b, c⟩ := vf_q (h1 y hy).1; have := frB_nonneg c
  have hn : Rat.divInt y.2.1 y.2.2 ≠ 0 := fun e => (h1 y hy).2 (by rw [← a]; exact (num_zero _).2 e)
  show 0 < Rat.divInt y.2.1 y.2.2
  grind
 ·intro x hx
  unfold ledOf at hx; obtain ⟨y, hy, rfl⟩ := List.mem_map.1 hx; exact (vf_q (h1 y hy).1).2.2
theorem all_frac {hs : List Hd} (h : allS hs = true) : allF hs = true := by
 unfold allS at h; unfold allF; rw [rng_all] at h ⊢; exact fun j hj => (okS_is (h j hj)).1
theorem vlR_is {hs : List Hd} (h : vlR hs = true) : rawL (ledOf hs) = hs ∧ VL (ledOf hs) := by
  unfold vlR at h; simp only [Bool.and_eq_true, decide_eq_true_eq] at h; obtain ⟨⟨⟨h1, h2⟩, h3⟩, h4⟩ := h; obtain ⟨f1, f2, f3⟩ := frac_is (all_frac h3); obtain ⟨a1, a2⟩ := asc_is h2; refine ⟨f1, ⟨by rw [led_len]; exact h1, a2, f3, f2, a1, fun k hk => ?_, ?_⟩⟩
  · cases k with
    | zero => exact frB_zero
    | succ k =>
      unfold allS at h3; rw [rng_all] at h3; rw [led_len] at hk; exact (okS_is (h3 k hk)).2
  · have := h4
    unfold sumQ at this
    rwa [List.take_of_length_le (by rw [led_len]; exact Nat.le_refl _)] at this
theorem vlR_raw {L : Led} (h : VL L) : vlR (rawL L) = true := by
 have get : ∀ k, k < L.length → (rawL L).getD k hd0 = rawH L[k]! := fun k hk => by
  rw [raw_get L hk, getD_lt _ hk, List.getElem!_eq_getElem?_getD, List.getElem?_eq_getElem hk]; rfl
 unfold vlR; simp only [Bool.and_eq_true, decide_eq_true_eq]; refine ⟨⟨⟨by rw [raw_len]; exact h.len, ?_⟩, ?_⟩, ?_⟩
 ·refine rng_yes fun k hk => ?_
  rw [raw_len] at hk; unfold okA; simp only [Bool.and_eq_true, decide_eq_true_eq]; have o := h.own _ (List.getElem_mem hk); rw [raw_get L hk, getD_lt _ hk]; refine ⟨⟨?_, o.1⟩, o.2⟩; unfold prevO
  by_cases e : k = 0
  ·rw [if_pos e]; exact Int.lt_of_lt_of_le (by decide) o.1
  ·rw [if_neg e, raw_get L (by omega), getD_lt _ (by omega)]
   exact (List.pairwise_iff_getElem.1 h.asc) (k - 1) k (by omega) hk (by omega)
 ·refine rng_yes fun k hk => ?_
  rw [raw_len] at hk; refine okS_yes (okF_yes ?_ ?_) ?_
  ·rw [raw_get L hk, getD_lt _ hk]; exact q_vf (h.fr _ (List.getElem_mem hk))
  ·rw [raw_get L hk, getD_lt _ hk]
   have := h.pos _ (List.getElem_mem hk); intro c; rw [(num_zero _).1 c] at this; exact absurd this (by decide)
  ·unfold sumQ; rw [led_raw]; exact h.sums _ (by omega)
 ·unfold sumQ; rw [led_raw, raw_len, List.take_of_length_le (Nat.le_refl _)]; exact h.one
theorem vlR_vl (L : Led) : vlR (rawL L) = vlB L := by
 rw [Bool.eq_iff_iff, vl_iff]; refine ⟨fun h => ?_, vlR_raw⟩; have := (vlR_is h).2
 rwa [led_raw] at this
def shR : List Hd → Int → Int × Int
 | [], _ => (0, 1)
 | h :: t, o => if h.1 = o then h.2 else shR t o
theorem shR_raw (L : Led) (o : Int) : shR (rawL L) o = ((shareL L o).num, ((shareL L o).den : Int)) := by
  induction L with
  | nil => rfl
  | cons h t ih =>
    show (if h.1 = o then (h.2.num, (h.2.den : Int)) else shR (rawL t) o) = _
    show _ = ((if h.1 = o then h.2 else shareL t o).num, ((if h.1 = o then h.2 else shareL t o).den : Int))
    by_cases e : h.1 = o
    · rw [if_pos e, if_pos e]
    · rw [if_neg e, if_neg e]; exact ih
theorem shR_at {hs : List Hd} {o : Int} {k : Nat} (hk : k < hs.length) (h : ∀ j, j < k → (hs.getD j hd0).1 ≠ o) (he : (hs.getD k hd0).1 = o) : shR hs o = (hs.getD k hd0).2 := by
  induction hs generalizing k with
  | nil => simp at hk
  | cons x t ih =>
    show (if x.1 = o then x.2 else shR t o) = _
    cases k with
    | zero => have he : x.1 = o := he
              rw [if_pos he]; rfl
    | succ k =>
      have h0 : x.1 ≠ o := h 0 (by omega); rw [if_neg h0]; exact ih (by simpa using hk) (fun j hj => h (j + 1) (by omega)) he
theorem shR_none {hs : List Hd} {o : Int} (h : ∀ j, j < hs.length → (hs.getD j hd0).1 ≠ o) : shR hs o = (0, 1) := by
  induction hs with
  | nil => rfl
  | cons x t ih =>
    show (if x.1 = o then x.2 else shR t o) = _
    have h0 : x.1 ≠ o := h 0 (by simp); rw [if_neg h0]; exact ih (fun j hj => h (j + 1) (by simpa using hj))
def skipL (L : Led) (o : Int) (k : Nat) : Nat := if k < L.length ∧ (L.getD k (0, 0)).1 = o then k + 1 else k
theorem filter_far {L : Led} {o : Int} (h : ∀ x ∈ L, x.1 ≠ o) : L.filter (fun h => decide (h.1 ≠ o)) = L := by
 rw [List.filter_eq_self]; intro a ha; simpa using h a ha
theorem with_set {L : Led} (ha : Asc L) (o : Int) (q : Rat) : ∀ {k : Nat}, k ≤ L.length → (∀ j, j < k → (L.getD j (0, 0)).1 < o) → (k < L.length → o ≤ (L.getD k (0, 0)).1) →
    setL L o q = L.take k ++ (if q = 0 then [] else [(o, q)]) ++ L.drop (skipL L o k) := by
  have tail : ∀ {h : Int × Rat} {t : Led}, Asc (h :: t) → o ≤ h.1 → (h :: t).filter (fun h => decide (h.1 ≠ o)) = (h :: t).drop (skipL (h :: t) o 0) := by
    intro h t ha ho; have h1 := List.pairwise_cons.1 ha; have ht : t.filter (fun h => decide (h.1 ≠ o)) = t := filter_far (fun x hx => by have := h1.1 x hx; omega)
    by_cases e : h.1 = o
    · rw [show skipL (h :: t) o 0 = 1 from by unfold skipL; rw [if_pos ⟨by simp, e⟩], List.filter_cons_of_neg (by simp [e]), ht]; rfl
    · rw [show skipL (h :: t) o 0 = 0 from by unfold skipL; rw [if_neg (fun c => e c.2)], List.filter_cons_of_pos (by simp [e]), ht]; rfl
  induction L with
  | nil =>
    intro k hk _ _
    obtain rfl : k = 0 := by simpa using hk
    by_cases hq : q = 0
    · rw [hq, setL_zero]; rfl
    · rw [setL_ins hq, if_neg hq]; rfl
  | cons h t ih =>
    intro k hk h1 h2; have hp := List.pairwise_cons.1 ha
    cases k with
    | zero =>
      have ho : o ≤ h.1 := h2 (by simp)
      by_cases hq : q = 0
      · rw [hq, setL_zero, tail ha ho, if_pos rfl]; rfl
      · rw [setL_ins hq, if_neg hq]
        show (if o ≤ h.1 then _ else _) = _
        rw [if_pos ho, tail ha ho]; rfl
    | succ k =>
      have ho : h.1 < o := h1 0 (by omega); have := ih hp.2 (k := k) (by simpa using hk) (fun j hj => h1 (j + 1) (by omega)) (fun hl => h2 (by simpa using hl))
      have es : skipL (h :: t) o (k + 1) = skipL t o k + 1 := by
        have eg : (h :: t).getD (k + 1) (0, 0) = t.getD k (0, 0) := rfl; unfold skipL; rw [eg]
        by_cases c : k < t.length ∧ (t.getD k (0, 0)).1 = o
        · rw [if_pos c, if_pos ⟨by have := c.1; simpa using this, c.2⟩]
        · rw [if_neg c, if_neg (fun d => c ⟨by simpa using d.1, d.2⟩)]
      rw [es]
      show _ = h :: (t.take k ++ _ ++ t.drop (skipL t o k))
      rw [← this]
      by_cases hq : q = 0
      · rw [hq, setL_zero, setL_zero, List.filter_cons_of_pos (by simp; omega)]
      · rw [setL_ins hq, setL_ins hq]
        show (if o ≤ h.1 then _ else _) = _
        rw [if_neg (by omega)]
def setTo (L : Led) (o : Int) (q : Rat) (k : Nat) : Led × Bool := setP o q (decide (q = 0)) (L.take k)
theorem setTo_zero (L : Led) (o : Int) (q : Rat) : setTo L o q 0 = ([], decide (q = 0)) := rfl
theorem setTo_succ {L : Led} (o : Int) (q : Rat) {k : Nat} (h : k < L.length) :
  setTo L o q (k + 1) = ((setTo L o q k).1 ++ ((if !(setTo L o q k).2 && decide (o ≤ (L.getD k (0, 0)).1) then [(o, q)] else []) ++ (if (L.getD k (0, 0)).1 ≠ o then [L.getD k (0, 0)] else [])), (setTo L o q k).2 || decide (o ≤ (L.getD k (0, 0)).1)) := by
 unfold setTo; rw [take_snocD L h (0, 0), setP_append]
 simp [setP]
theorem setTo_end (L : Led) (o : Int) (q : Rat) : setL L o q = (setTo L o q L.length).1 ++ (if (setTo L o q L.length).2 then [] else [(o, q)]) := by
 unfold setTo setL; rw [List.take_of_length_le (Nat.le_refl _)]
theorem setTo_len (L : Led) (o : Int) (q : Rat) : ∀ k, k ≤ L.length → (setTo L o q k).1.length ≤ 2 * k := by
  intro k
  induction k with
  | zero => intro _; simp [setTo_zero]
  | succ k ih =>
    intro h; have := ih (by omega); rw [setTo_succ o q (by omega)]; simp only [List.length_append]
    have a : (if !(setTo L o q k).2 && decide (o ≤ (L.getD k (0, 0)).1) then [(o, q)] else [] : Led).length ≤ 1 := by split <;> simp
    have b : (if (L.getD k (0, 0)).1 ≠ o then [L.getD k (0, 0)] else [] : Led).length ≤ 1 := by split <;> simp
    omega
def shareIs (n d : Int) (q : Rat) : Prop := (n = q.num ∧ d = (q.den : Int)) ∨ (n = 0 ∧ q = 0)
theorem shareIs_zero {n d : Int} {q : Rat} (h : shareIs n d q) : decide (q = 0) = decide (n = 0) := by
 rcases h with ⟨h, _⟩ | ⟨h, h2⟩
 ·rw [h, decide_eq_decide]; exact (num_zero q).symm
 ·rw [h, h2]; rfl
theorem shareIs_raw {n d : Int} {q : Rat} (h : shareIs n d q) (hq : q ≠ 0) (o : Int) : rawH (o, q) = (o, n, d) := by
 rcases h with ⟨h, h1⟩ | ⟨h, h2⟩
 ·rw [h, h1]; rfl
 ·exact absurd h2 hq
theorem share_ok (b : Bool) (q : Rat) : shareIs (Wsh.qn b q.num) (Wsh.qn b (q.den : Int)) (if b then q else 0) := by
 cases b with
 | true => exact .inl ⟨rfl, rfl⟩
 | false => exact .inr ⟨rfl, rfl⟩
theorem share_no : shareIs 0 1 0 := .inl ⟨rfl, rfl⟩
theorem fr_set {L : Led} (h : ∀ x ∈ L, frB x.2 = true) (o : Int) {q : Rat} (hq : frB q = true) : ∀ x ∈ setL L o q, frB x.2 = true := by
 by_cases e : q = 0
 ·rw [e, setL_zero]; exact fun x hx => h x (List.mem_filter.1 hx).1
 ·rw [setL_ins e]
  intro x hx
  rcases ins_mem hx with rfl | hx
  ·exact hq
  ·exact h x hx
theorem share_frA {L : Led} (h : ∀ x ∈ L, frB x.2 = true) (o : Int) : frB (shareL L o) = true := by
 by_cases e : shareL L o = 0
 ·rw [e]; exact frB_zero
 ·obtain ⟨x, hx, _, h2⟩ := share_mem e
  rw [← h2]; exact h x hx
theorem set_len {L : Led} (o : Int) (q : Rat) : (setL L o q).length ≤ L.length + 1 := by
  by_cases e : q = 0
  · rw [e, setL_zero]; have := List.length_filter_le (fun h : Int × Rat => decide (h.1 ≠ o)) L; omega
  · rw [setL_ins e]
    induction L with
    | nil => simp [insL]
    | cons h t ih =>
      unfold insL
      split
      · have := List.length_filter_le (fun h : Int × Rat => decide (h.1 ≠ o)) (h :: t); simp only [List.length_cons] at this ⊢; omega
      · simp only [List.length_cons]; omega
def IsHs (w : World) (a : Option Addr) (hs : List Hd) : Prop := hs = [] ∨ ∃ g o, a = some ⟨g, o, none⟩ ∧ ∀ i, i < hs.length → w.cell? ⟨g, o + i * 3, none⟩ = some (.int .i64 (hs.getD i hd0).1) ∧ w.cell? ⟨g, o + i * 3 + 1, none⟩ = some (.int .i64 (hs.getD i hd0).2.1) ∧ w.cell? ⟨g, o + i * 3 + 2, none⟩ = some (.int .i64 (hs.getD i hd0).2.2)
theorem hs_below {w w' : World} {a : Option Addr} {hs : List Hd} (h : IsHs w a hs) (hB : Below w.heap.size w w') : IsHs w' a hs := by
 rcases h with h | ⟨g, o, ha, hc⟩
 ·exact .inl h
 ·refine .inr ⟨g, o, ha, fun i hi => ?_⟩
  obtain ⟨c0, c1, c2⟩ := hc i hi; exact ⟨(hB.cell (p := ⟨g, _, none⟩) (World.block_lt_of_cell? w _ c0)).trans c0, (hB.cell (p := ⟨g, _, none⟩) (World.block_lt_of_cell? w _ c1)).trans c1, (hB.cell (p := ⟨g, _, none⟩) (World.block_lt_of_cell? w _ c2)).trans c2⟩
theorem iowner_yes (n : Int) (w : World) (h1 : 1 ≤ n) (h2 : n ≤ 999) :
  Calls Tryz.prog 102 #[.int .i64 n] w fun e w' => e = .returned (.bool true) ∧ w = w' := by
 go_enter Tryz.func102, Tryz.ntmps102
 go_wp2
 go_ret; exact ⟨rfl, rfl⟩
theorem iowner_no (n : Int) (w : World) (h : n < 1 ∨ 999 < n) :
  Calls Tryz.prog 102 #[.int .i64 n] w fun e w' => e = .returned (.bool false) ∧ w = w' := by
 by_cases h1 : 1 ≤ n
 ·have hd : decide (n ≤ 999) = false := by simp; omega
  clear h; go_enter Tryz.func102, Tryz.ntmps102
  go_wp2
  go_ret; exact ⟨rfl, rfl⟩
 ·have hd : decide (1 ≤ n) = false := by simpa using h1
  clear h; go_enter Tryz.func102, Tryz.ntmps102
  go_wp2
  go_ret; exact ⟨rfl, rfl⟩
theorem okA_def (hs : List Hd) (k : Nat) : okA hs k = (decide (prevO hs k < (hs.getD k hd0).1) && decide (1 ≤ (hs.getD k hd0).1) && decide ((hs.getD k hd0).1 ≤ 999)) := rfl
theorem prev_succ (hs : List Hd) (k : Nat) : prevO hs (k + 1) = (hs.getD k hd0).1 := by unfold prevO; rw [if_neg (by omega)]; rfl
theorem iasc (a : Option Addr) (cap : Nat) (hs : List Hd) (w : World) (h : IsHs w a hs) (hn : hs.length ≤ 1048576) :
  Calls Tryz.prog 99 #[.slice a hs.length cap] w fun e w' => e = .returned (.bool (ascB hs)) ∧ Below w.heap.size w w' := by
 rcases h with rfl | ⟨g, o, rfl, hc⟩
 ·go_enter Tryz.func99, Tryz.ntmps99
  go_wp2
  go_rounds 1
  go_ret; exact ⟨rfl, by go_grown⟩
 ·have HC := Lib.hid hc
  clear hc; go_enter Tryz.func99, Tryz.ntmps99
  go_wp2
  go_loopw [3, 8] (fun l i wr => ∃ k : Nat, k ≤ hs.length ∧ i = .int .i64 k ∧ l = .int .i64 (prevO hs k) ∧ Hid (∀ j, j < k → okA hs j = true) ∧ Below w.heap.size w wr) (fun _ i _ => hs.length - (intOf i).toNat)
  case atStart => exact ⟨0, Nat.zero_le _, rfl, rfl, fun j hj => by omega, by go_grown⟩
  case round =>
   obtain ⟨k, hk, rfl, rfl, HA, hB⟩ := hrel
   by_cases hlt : k < hs.length
   ·obtain ⟨d0, d1, d2⟩ := HC.out k hlt
    have c0 := (hB.cell (p := ⟨g, _, none⟩) (World.block_lt_of_cell? w _ d0)).trans d0; have c1 := (hB.cell (p := ⟨g, _, none⟩) (World.block_lt_of_cell? w _ d1)).trans d1; have c2 := (hB.cell (p := ⟨g, _, none⟩) (World.block_lt_of_cell? w _ d2)).trans d2; have hok := okA_def hs k; have hpv := prev_succ hs k; clear d0 d1 d2; generalize hs.getD k hd0 = hh at c0 c1 c2 hok hpv; obtain ⟨x, n, d⟩ := hh; generalize prevO hs k = p at hok; dsimp only at c0 c1 c2 hok hpv; have HO := Lib.hid hok; have HP := Lib.hid hpv; have HB := Lib.hid hB; clear hok hpv hB
    by_cases h1 : x ≤ p
    ·have HN : Hid (ascB hs = false) := rng_no hlt (by rw [HO.out, decide_eq_false (by omega : ¬ p < x)]; rfl)
     go_wp2_with fail; go_ret; exact ⟨ret_bool HN.out.symm, HB.out.alloc HB.out.size _⟩
    ·have e1 : decide (x ≤ p) = false := by simpa using h1
     by_cases h2 : 1 ≤ x ∧ x ≤ 999
     ·have HY : Hid (∀ j, j < k + 1 → okA hs j = true) := rng_more HA.out (by rw [HO.out]; simp; omega)
      go_wp2_with fail; refine (iowner_yes x _ h2.1 h2.2).mono ?_; rintro e w' ⟨rfl, rfl⟩; go_wp2_with fail
      go_roundw
      case rel => exact ⟨k + 1, by omega, by go_num, by rw [HP.out], HY.out, HB.out.alloc HB.out.size _⟩
      case measure => simp [intOf]; omega
     ·have HN : Hid (ascB hs = false) := rng_no hlt (by rw [HO.out]; simp; omega)
      go_wp2_with fail; refine (iowner_no x _ (by omega)).mono ?_; rintro e w' ⟨rfl, rfl⟩; go_wp2_with fail; go_ret; exact ⟨ret_bool HN.out.symm, HB.out.alloc HB.out.size _⟩
   ·go_wp2_with fail
    go_ret; exact ⟨ret_bool (rng_yes (fun j hj => HA.out j (by omega))).symm, hB⟩
section
def Blk (w : World) (g : Nat) (t : TypeId) (cs : Array Value) : Prop := w.heap[g]? = some (.cells cs t (0, 0))
section
variable {w w' : World} {g : Nat} {t : TypeId} {cs : Array Value}
theorem Blk.lt (h : Blk w g t cs) : g < w.heap.size := by
 rcases Nat.lt_or_ge g w.heap.size with hlt | hge
 ·exact hlt
 ·unfold Blk at h; rw [Array.getElem?_eq_none hge] at h; cases h
theorem Blk.cell (h : Blk w g t cs) (i : Nat) : w.cell? ⟨g, i, none⟩ = cs[i]? := cell_of_row w g i cs t (0, 0) h
theorem Blk.frozen (h : Blk w g t cs) (i : Nat) : w.frozen? ⟨g, i, none⟩ = false := by
 unfold Blk at h
 simp [World.frozen?, h]
theorem Blk.new (w : World) (t : TypeId) (cs : Array Value) : Blk (w.alloc (.cells cs t)) w.heap.size t cs := heap_alloc_new w _
theorem Blk.alloc (h : Blk w g t cs) (o : Obj) : Blk (w.alloc o) g t cs := (Below.heap_alloc w o g h.lt).trans h
theorem Blk.drew (h : Blk w g t cs) : Blk w.drew g t cs := h
theorem Blk.set_ (h : Blk w g t cs) (i : Nat) (u : Value) : Blk (w.setCell ⟨g, i, none⟩ u) g t (cs.setIfInBounds i u) := by
 unfold Blk at h ⊢
 simp [World.setCell, Array.getElem?_modify, h]
theorem Blk.far (h : Blk w g t cs) {p : Addr} (hp : g ≠ p.block) (u : Value) : Blk (w.setCell p u) g t cs := (Below.heap_setCell w p u g hp).trans h
theorem Blk.below {B : Nat} (h : Blk w g t cs) (hb : Below B w w') (hg : g < B) : Blk w' g t cs := (hb.block g hg).trans h
theorem Blk.next (h : Blk w g t cs) (hb : Below w.heap.size w w') : Blk w' g t cs := h.below hb h.lt
theorem Blk.grown {row : Option Nat} (h : Blk w g t cs) (hb : w.grownBy w' row) (hg : some g ≠ row) : Blk w' g t cs := (hb.block g h.lt hg).trans h
theorem Blk.two {x y : Value} (h : Blk w g t #[x, y]) (u v : Value) : Blk ((w.setCell ⟨g, 0, none⟩ u).setCell ⟨g, 1, none⟩ v) g t #[u, v] := (h.set_ 0 u).set_ 1 v
end
theorem blk_two {w : World} {g : Nat} {t : TypeId} {x y : Value} (h : Blk w g t #[x, y]) : w.cell? ⟨g, 0, none⟩ = some x ∧ w.cell? ⟨g, 1, none⟩ = some y ∧ w.frozen? ⟨g, 0, none⟩ = false ∧ w.frozen? ⟨g, 1, none⟩ = false ∧ g < w.heap.size := ⟨h.cell 0, h.cell 1, h.frozen 0, h.frozen 1, h.lt⟩
end
theorem inoShare (w : World) : Calls Tryz.prog 100 #[] w fun e w' => e = .returned (.agg #[.int .i64 0, .int .i64 1]) ∧ Below w.heap.size w w' := by
 go_enter Tryz.func100, Tryz.ntmps100
 go_wp2
 refine bodyPost_ret (v := .agg #[.int .i64 0, .int .i64 1]) (by simp [results, Tryz.results100, go_sem]) rfl ⟨rfl, by go_grown⟩
theorem iAddQ {an ad bn bd x y : Int} (w : World) (hb : (Wsh.vfB an ad && Wsh.vfB bn bd && Wsh.redB (an * bd + bn * ad) (ad * bd)) = true) (hx : Wsh.rn (an * bd + bn * ad) (ad * bd) = x) (hy : Wsh.rd (an * bd + bn * ad) (ad * bd) = y) :
  Calls Tryz.prog 101 #[.agg #[.int .i64 an, .int .i64 ad], .agg #[.int .i64 bn, .int .i64 bd]] w fun e w' => e = .returned (.tuple #[.agg #[.int .i64 x, .int .i64 y], .bool true]) ∧ Below w.heap.size w w' := by
 have := iAdd an ad bn bd w; rw [hb, hx, hy] at this; exact this
theorem iAddN {an ad bn bd : Int} (w : World) (hb : (Wsh.vfB an ad && Wsh.vfB bn bd && Wsh.redB (an * bd + bn * ad) (ad * bd)) = false) :
  Calls Tryz.prog 101 #[.agg #[.int .i64 an, .int .i64 ad], .agg #[.int .i64 bn, .int .i64 bd]] w fun e w' => e = .returned (.tuple #[.agg #[.int .i64 0, .int .i64 0], .bool false]) ∧ Below w.heap.size w w' := by
 have := iAdd an ad bn bd w; rw [hb] at this; exact this
theorem vl_no0 {hs : List Hd} (h : 12 < hs.length) : vlR hs = false := by unfold vlR; rw [decide_eq_false (by omega : ¬ hs.length ≤ 12)]; rfl
theorem vl_no1 {hs : List Hd} (h : ascB hs = false) : vlR hs = false := by unfold vlR; rw [h]; simp
theorem vl_no2 {hs : List Hd} {k : Nat} (hk : k < hs.length) (h : okS hs k = false) : vlR hs = false := by unfold vlR allS; rw [rng_no hk h]; simp
theorem vl_end {hs : List Hd} (h1 : hs.length ≤ 12) (h2 : ascB hs = true) (h3 : ∀ j, j < hs.length → okS hs j = true) : vlR hs = decide ((sumQ hs hs.length).num = ((sumQ hs hs.length).den : Int)) := by
 unfold vlR allS; rw [decide_eq_true h1, h2, rng_yes h3, decide_eq_decide.2 one_iff]; rfl
theorem sum_fr {hs : List Hd} {k : Nat} (h : ∀ j, j < k → okS hs j = true) : frB (sumQ hs k) = true := by
 cases k with
 | zero => exact frB_zero
 | succ k => exact (okS_is (h k (by omega))).2
theorem cells_at {w wr : World} {g o : Nat} {hs : List Hd} (hc : ∀ i, i < hs.length → w.cell? ⟨g, o + i * 3, none⟩ = some (.int .i64 (hs.getD i hd0).1) ∧ w.cell? ⟨g, o + i * 3 + 1, none⟩ = some (.int .i64 (hs.getD i hd0).2.1) ∧ w.cell? ⟨g, o + i * 3 + 2, none⟩ = some (.int .i64 (hs.getD i hd0).2.2)) (hB : Below w.heap.size w wr) {k : Nat} (hk : k < hs.length) :
  wr.cell? ⟨g, o + k * 3, none⟩ = some (.int .i64 (hs.getD k hd0).1) ∧ wr.cell? ⟨g, o + k * 3 + 1, none⟩ = some (.int .i64 (hs.getD k hd0).2.1) ∧ wr.cell? ⟨g, o + k * 3 + 2, none⟩ = some (.int .i64 (hs.getD k hd0).2.2) := by
 obtain ⟨d0, d1, d2⟩ := hc k hk; exact ⟨(hB.cell (p := ⟨g, _, none⟩) (World.block_lt_of_cell? w _ d0)).trans d0, (hB.cell (p := ⟨g, _, none⟩) (World.block_lt_of_cell? w _ d1)).trans d1, (hB.cell (p := ⟨g, _, none⟩) (World.block_lt_of_cell? w _ d2)).trans d2⟩
theorem iVL (a : Option Addr) (cap : Nat) (hs : List Hd) (w : World) (h : IsHs w a hs) (hn : hs.length ≤ 1048576) :
    Calls Tryz.prog 66 #[.slice a hs.length cap] w fun e w' => e = .returned (.bool (vlR hs)) ∧ Below w.heap.size w w' := by
  by_cases h12 : 12 < hs.length
  · go_enter Tryz.func66, Tryz.ntmps66
    go_wp2_with fail; go_ret; exact ⟨ret_bool (vl_no0 h12).symm, by go_grown⟩
  have g12 : decide (12 < (hs.length : Int)) = false := by simp; omega
  cases ha : ascB hs with
  | false =>
    have HN := Lib.hid (vl_no1 ha); have IA := iasc a cap hs w h hn; rw [ha] at IA; clear ha; go_enter Tryz.func66, Tryz.ntmps66; go_wp2_with fail; refine IA.mono ?_; rintro e w1 ⟨rfl, hb⟩; go_wp2_with fail; go_ret; exact ⟨ret_bool HN.out.symm, hb⟩
  | true =>
    have HA := Lib.hid ha; have IA := iasc a cap hs w h hn; rw [ha] at IA; clear ha; go_enter Tryz.func66, Tryz.ntmps66; go_wp2_with fail; refine IA.mono ?_; rintro e w1 ⟨rfl, hb⟩; clear IA; go_wp2_with fail; refine (inoShare _).mono ?_; rintro e w2 ⟨rfl, hb2⟩; have hB := bel_tr hb hb2
    obtain ⟨S, hS⟩ : ∃ S, S = w2.heap.size := ⟨_, rfl⟩
    have hSw : w.heap.size ≤ S := by rw [hS]; exact hB.size
    rcases h with rfl | ⟨g, o, rfl, hc⟩
    · go_wp2_with fail
      refine wp_loop_rounds 1 ?_; rw [rounds_succ]; go_wp2_with fail; go_ret; exact ⟨rfl, hB.alloc hB.size _⟩
    · have HC := Lib.hid hc
      clear hc; go_wp2_with fail; rw [← hS]; have hB0 : Below w.heap.size w (w2.alloc (.cells #[.int .i64 0, .int .i64 1] 49)) := hB.alloc hB.size _
      have hS0 : Blk (w2.alloc (.cells #[.int .i64 0, .int .i64 1] 49)) S 49 #[.int .i64 0, .int .i64 1] := by rw [hS]; exact Blk.new _ _ _
      clear hS hb hb2
      go_loopw [19] (fun i wr => ∃ k : Nat, k ≤ hs.length ∧ i = .int .i64 k ∧ Hid (∀ j, j < k → okS hs j = true) ∧ Blk wr S 49 #[.int .i64 (sumQ hs k).num, .int .i64 ((sumQ hs k).den : Int)] ∧ Below w.heap.size w wr) (fun i _ => hs.length - (intOf i).toNat)
      case atStart => exact ⟨0, Nat.zero_le _, rfl, fun j hj => by omega, hS0, hB0⟩
      case round =>
        clear hB0 hS0 hB; obtain ⟨k, hk, rfl, HK, hS, hB⟩ := hrel
        by_cases hlt : k < hs.length
        · obtain ⟨c0, c1, c2⟩ := cells_at HC.out hB hlt
          have n0 : (hs.getD k hd0).2.1 = 0 → vlR hs = false := fun e => vl_no2 hlt (okS_no (okF_no2 e))
          have n1 : Wsh.vfB (hs.getD k hd0).2.1 (hs.getD k hd0).2.2 = false → vlR hs = false := fun e => vl_no2 hlt (okS_no (okF_no1 e))
          have n2 : frB (sumQ hs (k + 1)) = false → vlR hs = false := fun e => vl_no2 hlt (okS_no2 e)
          have y2 : Wsh.vfB (hs.getD k hd0).2.1 (hs.getD k hd0).2.2 = true → (hs.getD k hd0).2.1 ≠ 0 → frB (sumQ hs (k + 1)) = true → ∀ j, j < k + 1 → okS hs j = true := fun a b c => rng_more HK.out (okS_yes (okF_yes a b) c)
          have sr := sum_red hlt; have qf := q_vf (sum_fr HK.out); generalize hs.getD k hd0 = hh at c0 c1 c2 n0 n1 n2 y2 sr; obtain ⟨x, n, d⟩ := hh; dsimp only at c0 c1 c2 n0 n1 n2 y2 sr; obtain ⟨s0, s1, s2, s3, s4⟩ := blk_two hS; have N0 := Lib.hid n0; have N1 := Lib.hid n1; have N2 := Lib.hid n2; have Y2 := Lib.hid y2; have SR := Lib.hid sr; have QF := Lib.hid qf; have HS := Lib.hid hS; have HB := Lib.hid hB; clear n0 n1 n2 y2 sr qf hS hB
          by_cases hz : n = 0
          · have e : (n == 0) = true := by simpa using hz
            have HN := Lib.hid (N0.out hz); clear hz; go_wp2_with fail; go_ret; exact ⟨ret_bool HN.out.symm, HB.out.alloc HB.out.size _⟩
          · have e : (n == 0) = false := by simpa using hz
            have HZ := Lib.hid hz; clear hz
            cases hv : Wsh.vfB n d with
            | false =>
              have HN := Lib.hid (N1.out hv); have HV := Lib.hid hv; clear hv; go_wp2_with fail; refine (iAddN _ (by rw [HV.out]; simp)).mono ?_; rintro e w3 ⟨rfl, hb⟩; go_wp2_with fail; go_ret; exact ⟨ret_bool HN.out.symm, (bel_tr (HB.out.alloc HB.out.size _) hb).alloc (bel_tr (HB.out.alloc HB.out.size _) hb).size _⟩
            | true =>
              obtain ⟨r1, r2, r3⟩ := SR.out hv
              cases hf : frB (sumQ hs (k + 1)) with
              | false =>
                have HN := Lib.hid (N2.out hf); have HR : Hid _ := r1.trans hf; clear hv hf r1 r2 r3; go_wp2_with fail; refine (iAddN _ (by rw [HR.out]; simp)).mono ?_; rintro e w3 ⟨rfl, hb⟩; go_wp2_with fail; go_ret; exact ⟨ret_bool HN.out.symm, (bel_tr (HB.out.alloc HB.out.size _) hb).alloc (bel_tr (HB.out.alloc HB.out.size _) hb).size _⟩
              | true =>
                have HY := Lib.hid (Y2.out hv HZ.out hf); have HR := Lib.hid (r1.trans hf); have H2 := Lib.hid r2; have H3 := Lib.hid r3; have HV := Lib.hid hv; clear hv hf r1 r2 r3; go_wp2_with fail; refine (iAddQ _ (by rw [QF.out, HV.out, HR.out]; rfl) H2.out H3.out).mono ?_; rintro e w3 ⟨rfl, hb⟩; have hB3 := bel_tr (HB.out.alloc HB.out.size _) hb; have hS3 := (HS.out.alloc _).next hb; obtain ⟨t0, t1, t2, t3, t4⟩ := blk_two hS3; clear s0 s1 s2 s3 s4 c0 c1 c2; go_wp2_with fail
                go_roundw
                case rel => exact ⟨k + 1, by omega, by go_num, HY.out, (hS3.two _ _).alloc _, ((hB3.setCell (by exact hSw) _).setCell (by exact hSw) _).alloc (by simpa using hB3.size) _⟩
                case measure => simp [intOf]; omega
        · obtain rfl : hs.length = k := by omega
          obtain ⟨s0, s1, s2, s3, s4⟩ := blk_two hS; have HN := Lib.hid (vl_end (by omega) HA.out HK.out); generalize (sumQ hs hs.length).num = x at s0 HN; generalize ((sumQ hs hs.length).den : Int) = y at s1 HN; clear hS; go_wp2_with fail; go_ret; exact ⟨ret_bool HN.out.symm, hB⟩
theorem getD_setZ {zs : List Int} {i : Nat} (j : Nat) (z : Int) (hi : i < zs.length) : (zs.set i z).getD j 0 = if j = i then z else zs.getD j 0 := by
 rw [List.getD_eq_getElem?_getD, List.getD_eq_getElem?_getD, List.getElem?_set]
 by_cases e : i = j
 ·subst e; rw [if_pos rfl, if_pos hi, if_pos rfl]; rfl
 ·rw [if_neg e, if_neg (fun c => e c.symm)]
theorem ext_z {l l' : List Int} (hl : l.length = l'.length) (h : ∀ i, i < l.length → l.getD i 0 = l'.getD i 0) : l = l' := by
 apply List.ext_getElem hl
 intro i h1 h2; have := h i h1
 rwa [List.getD_eq_getElem?_getD, List.getElem?_eq_getElem h1, List.getD_eq_getElem?_getD, List.getElem?_eq_getElem h2] at this
theorem own_ints {w : World} {base : Nat} {v : Value} {zs : List Int} (h : w.ownsRow base 3 1 v zs.length (zs.map (Value.int .i64))) : ∃ (b : Option Addr) (cap : Nat), v = .slice b zs.length cap ∧ IsInts w b zs := by
 have h0 := h
 rcases h.2 with ⟨hv, hn⟩ | ⟨g, cap, cur, hv, _⟩
 ·exact ⟨none, 0, by rw [hv, hn], .inl (List.eq_nil_of_length_eq_zero hn)⟩
 ·subst hv
  refine ⟨some ⟨g, 0, none⟩, cap, rfl, .inr ⟨g, 0, rfl, fun i hi => ?_⟩⟩; have := h0.cellAt i (by omega); rw [List.getElem?_map, List.getElem?_eq_getElem hi] at this; rw [Nat.zero_add, this, List.getD_eq_getElem?_getD, List.getElem?_eq_getElem hi]
  rfl
theorem take_map (l : List Int) (k : Nat) (h : k < l.length) : (l.take (k + 1)).map (Value.int .i64) = (l.take k).map (Value.int .i64) ++ [.int .i64 (l.getD k 0)] := by
 rw [List.take_succ_eq_append_getElem h, List.map_append, List.getD_eq_getElem?_getD, List.getElem?_eq_getElem h]; rfl
def OwnI (w : World) (base : Nat) (v : Value) (zs : List Int) : Prop := w.ownsRow base 3 1 v zs.length (zs.map (Value.int .i64))
theorem OwnI.nil (w : World) (base : Nat) : OwnI w base (.slice none 0 0) [] := World.ownsRow_nil w base 3 1
theorem OwnI.new {w W : World} (h : Below w.heap.size w W) : OwnI (W.alloc (.cells #[] 3)) w.heap.size (.slice (some ⟨W.heap.size, 0, none⟩) 0 0) [] :=
 ⟨by simp, .inr ⟨W.heap.size, 0, #[], rfl, h.size, Go.Deep.blk_alloc_new _ _, Nat.le_refl _, by unfold maxLen; omega, rfl, rfl⟩⟩
theorem OwnI.snoc {w : World} {base : Nat} {v : Value} {zs : List Int} {z : Int} (h : w.ownsRow base 3 1 v (zs.length + 1) (zs.map (Value.int .i64) ++ [.int .i64 z])) : OwnI w base v (zs ++ [z]) := by
 unfold OwnI; rw [List.length_append, List.map_append]; exact h
theorem OwnI.ints {w : World} {base : Nat} {v : Value} {zs : List Int} (h : OwnI w base v zs) : ∃ (b : Option Addr) (cap : Nat), v = .slice b zs.length cap ∧ IsInts w b zs := own_ints h
theorem OwnI.of_block {w w' : World} {base : Nat} {v : Value} {zs : List Int} (h : OwnI w base v zs) (hb : Below w.heap.size w w') : OwnI w' base v zs := by
 refine ⟨h.1, ?_⟩
 rcases h.2 with h0 | ⟨g, cap, cur, hv, hg, hb0, r⟩
 ·exact .inl h0
 ·exact .inr ⟨g, cap, cur, hv, hg, (hb.block g (Blk.lt hb0)).trans hb0, r⟩
def OutI (w : World) (R : List Int) (e : Ending) (w' : World) : Prop := ∃ v, e = .returned v ∧ OwnI w' w.heap.size v R ∧ Below w.heap.size w w'
theorem outI_nil {w w' : World} (h : Below w.heap.size w w') : OutI w [] (.returned (.slice none 0 0)) w' := ⟨_, rfl, OwnI.nil _ _, h⟩
theorem OwnI.grow {W : World} {base : Nat} {v : Value} {zs : List Int} (h : OwnI W base v zs) : ∀ q, v.ownBlock = some q → base ≤ q := fun q hq => (World.ownsRow.lt h q hq).1
theorem OwnI.at_ {w : World} {base n c : Nat} {b : Option Addr} {zs : List Int} (h : OwnI w base (.slice b n c) zs) : IsInts w b zs := by
 obtain ⟨b', c', e, hi⟩ := OwnI.ints h; injection e with e1 e2 e3; subst e1; exact hi
theorem OwnI.len_ {w : World} {base n c : Nat} {b : Option Addr} {zs : List Int} (h : OwnI w base (.slice b n c) zs) : n = zs.length := by
 obtain ⟨b', c', e, hi⟩ := OwnI.ints h; injection e with e1 e2 e3
theorem OwnI.apart {w w' : World} {base : Nat} {v : Value} {zs : List Int} {row : Option Nat} (h : OwnI w base v zs) (hg : w.grownBy w' row) (hr : ∀ q, row = some q → q < base) : OwnI w' base v zs :=
  World.ownsRow.kept h hg (by
    cases e : v.ownBlock with
    | none => exact .inl rfl
    | some k =>
      refine .inr (fun c => ?_); have a := hr k c.symm; have b := (World.ownsRow.lt h k e).1
      omega)
theorem below_gv {w a b : World} {row : Option Nat} (h : Below w.heap.size w a) (hG : a.grownBy b row) (hg : ∀ q, row = some q → w.heap.size ≤ q) : Below w.heap.size w b := h.grown hG h.size hg
theorem vals_set (zs : List Int) (j : Nat) (z : Int) : (zs.map (Value.int .i64)).set j (.int .i64 z) = (zs.set j z).map (Value.int .i64) := by rw [List.map_set]
theorem OwnI.of_row {w : World} {base g n : Nat} {f : Nat → Value} {zs : List Int} (h : w.rowIs g 3 n f) (hl : zs.length = n) (hf : ∀ j, j < n → f j = .int .i64 (zs.getD j 0)) (hb : base ≤ g) (hn : n ≤ 1048576) : OwnI w base (.slice (some ⟨g, 0, none⟩) n n) zs := by
 obtain ⟨cs, hh, hs, hc⟩ := h; refine ⟨by simp, .inr ⟨g, n, cs, by rw [hl], hb, hh, by omega, by unfold maxLen; omega, by omega, ?_⟩⟩
 apply List.ext_getElem?
 intro j; rw [List.getElem?_take, List.getElem?_map]
 by_cases e : j < zs.length
 ·rw [if_pos (by omega), Array.getElem?_toList, hc j (by omega), hf j (by omega), List.getD_eq_getElem?_getD, List.getElem?_eq_getElem e]; rfl
 ·rw [if_neg (by omega), List.getElem?_eq_none (by omega)]; rfl
theorem OwnI.made {w W : World} (h : Below w.heap.size w W) (n : Nat) (hn : n ≤ 1048576) : OwnI (W.alloc (.cells (madeCells #[.int .i64 0] n) 3)) w.heap.size (.slice (some ⟨W.heap.size, 0, none⟩) n n) (List.replicate n 0) :=
 OwnI.of_row (World.rowIs_made W (.int .i64 0) n 3) (List.length_replicate ..) (fun j hj => by rw [List.getD_eq_getElem?_getD, List.getElem?_replicate, if_pos hj]; rfl) h.size hn
theorem OwnI.set_ {w : World} {base g n c : Nat} {zs : List Int} (h : OwnI w base (.slice (some ⟨g, 0, none⟩) n c) zs) (j : Nat) (z : Int) : OwnI (w.setCell ⟨g, j, none⟩ (.int .i64 z)) base (.slice (some ⟨g, 0, none⟩) n c) (zs.set j z) := by
 obtain rfl := h.len_; have a := (World.ownsRow.stored h j (.int .i64 z)).1; rw [vals_set] at a; unfold OwnI; rw [List.length_set]; exact a
theorem OwnI.cell {w : World} {base g n c : Nat} {zs : List Int} (h : OwnI w base (.slice (some ⟨g, 0, none⟩) n c) zs) {j : Nat} (hj : j < zs.length) : w.cell? ⟨g, j, none⟩ = some (.int .i64 (zs.getD j 0)) := by
 rcases h.at_ with e | ⟨g', o', e, hc⟩
 ·rw [e] at hj; simp at hj
 ·injection e with e; injection e with e1 e2 e3; subst e1 e2
  have := hc j hj; rw [Nat.zero_add] at this; exact this
theorem OwnI.frozen {w : World} {base g n c : Nat} {zs : List Int} (h : OwnI w base (.slice (some ⟨g, 0, none⟩) n c) zs) (j : Nat) : w.frozen? ⟨g, j, none⟩ = false := by
 obtain rfl := h.len_; exact World.ownsRow.frozenAt h j
theorem OwnI.blk {w : World} {base g n c : Nat} {zs : List Int} (h : OwnI w base (.slice (some ⟨g, 0, none⟩) n c) zs) : base ≤ g ∧ g < w.heap.size := World.ownsRow.lt h g rfl
def mixZ (zs : List Int) (k : Nat) : List Int := (List.range zs.length).map fun i => if i < k then zs.getD i 0 else 0
theorem mix_len (zs : List Int) (k : Nat) : (mixZ zs k).length = zs.length := by unfold mixZ; simp
theorem mix_get (zs : List Int) (k : Nat) {i : Nat} (h : i < zs.length) : (mixZ zs k).getD i 0 = if i < k then zs.getD i 0 else 0 := by
 unfold mixZ; rw [List.getD_eq_getElem?_getD, List.getElem?_map, List.getElem?_range h]; rfl
theorem mix_all {zs : List Int} {k : Nat} (h : zs.length ≤ k) : mixZ zs k = zs := by
 refine ext_z (mix_len zs k) (fun i hi => ?_); rw [mix_len] at hi; rw [mix_get zs k hi, if_pos (by omega)]
theorem mix_none {zs : List Int} {k : Nat} (h : ∀ i, i < k → i < zs.length → zs.getD i 0 = 0) : mixZ zs k = List.replicate zs.length 0 := by
 refine ext_z (by rw [mix_len, List.length_replicate]) (fun i hi => ?_); rw [mix_len] at hi
 have e : (List.replicate zs.length (0 : Int)).getD i 0 = 0 := by rw [List.getD_eq_getElem?_getD, List.getElem?_replicate, if_pos hi]; rfl
 rw [mix_get zs k hi, e]
 split
 ·rename_i c; exact h i c hi
 ·rfl
theorem mix_set {zs : List Int} {k : Nat} (h : k < zs.length) : (mixZ zs k).set k (zs.getD k 0) = mixZ zs (k + 1) := by
 refine ext_z (by rw [List.length_set, mix_len, mix_len]) (fun i hi => ?_); rw [List.length_set, mix_len] at hi; rw [getD_setZ i _ (by rw [mix_len]; exact h), mix_get zs k hi, mix_get zs (k + 1) hi]
 by_cases e : i = k
 ·subst e; rw [if_pos rfl, if_pos (by omega)]
 ·rw [if_neg e]
  by_cases c : i < k
  ·rw [if_pos c, if_pos (by omega)]
  ·rw [if_neg c, if_neg (by omega)]
theorem g_set2 {w wr : World} {g j : Nat} {v : Value} (h : w.grownBy wr (some g)) : w.grownBy (wr.setCell ⟨g, j, none⟩ v) (some g) :=
 ⟨h.os, h.tape, h.output, by simpa [World.setCell] using h.size, fun i hi hne => (Below.heap_setCell wr ⟨g, j, none⟩ v i (by rintro rfl; exact hne rfl)).trans (h.block i hi hne)⟩
theorem g_of {w w' : World} (h : Below w.heap.size w w') (row : Option Nat) : w.grownBy w' row := ⟨h.os, h.tape, h.output, h.size, fun i hi _ => h.block i hi⟩
theorem lmarkS (g cap : Nat) (zs : List Int) (w : World) (s : Int) (h : Row w g zs) (hn : zs.length ≤ 1048576) (hs0 : 0 ≤ s) (hs1 : s ≤ 1000000000000) :
  Calls Tryz.prog 86 #[.slice (some ⟨g, 0, none⟩) zs.length cap, .int .i64 s] w fun e w' => e = .returned (.int .i64 (s + (zs.length : Int))) ∧ w.grownBy w' (some g) := by
 have H := Lib.hid h; clear h; go_enter Tryz.func86, Tryz.ntmps86
 go_wp2
 go_loopw [1, 5] (fun k i wr => ∃ j : Nat, j ≤ zs.length ∧ i = .int .i64 j ∧ k = .int .i64 (s + (j : Int)) ∧ (∃ f : Nat → Value, wr.rowIs g 3 zs.length f ∧ (∀ i, ∃ z : Int, f i = .int .i64 z)) ∧ w.grownBy wr (some g)) (fun _ i _ => zs.length - (intOf i).toNat)
 case atStart => exact ⟨0, Nat.zero_le _, rfl, by simp, ⟨_, H.out, fun i => ⟨_, rfl⟩⟩, g_of (Below.refl _ _) _⟩
 case round =>
  obtain ⟨j, hj, rfl, rfl, ⟨f, hrow, hfz⟩, hG⟩ := hrel
  by_cases hlt : j < zs.length
  ·have hd := hrow.cell hlt
   obtain ⟨z, hz⟩ := hfz j; rw [hz] at hd; have hf := hrow.frozen j
   have hcon : (wr.setCell ⟨g, j, none⟩ (.int .i64 (s + (j : Int)))).rowIs g 3 zs.length (fun i => if i = j then .int .i64 (s + (j : Int)) else f i) :=
    hrow.set j (.int .i64 (s + (j : Int)))
   have hfz2 : ∀ i, ∃ z : Int, (fun i => if i = j then Value.int .i64 (s + (j : Int)) else f i) i = .int .i64 z := fun i => by
    by_cases e : i = j
    ·exact ⟨_, if_pos e⟩
    ·obtain ⟨z, hz⟩ := hfz i; exact ⟨z, (if_neg e).trans hz⟩
   have HR := Lib.hid hcon; have HG := Lib.hid hG; have HF := Lib.hid hfz2; clear hcon hrow hG hfz hfz2 hz
   go_wp2
   go_roundw
   case rel => exact ⟨j + 1, by omega, by go_num, by go_num, ⟨_, HR.out, HF.out⟩, g_set2 HG.out⟩
   case measure => simp [intOf]; omega
  ·have HG := Lib.hid hG
   clear hrow hG hfz
   go_wp2
   go_ret; exact ⟨ret_int (by omega), HG.out⟩
theorem OwnI.form_ {w : World} {base n c : Nat} {b : Option Addr} {zs : List Int} (h : OwnI w base (.slice b n c) zs) (hl : 0 < zs.length) : ∃ g, b = some ⟨g, 0, none⟩ ∧ base ≤ g := by
 obtain rfl := h.len_; obtain ⟨g, cap, hv, hg, _⟩ := World.ownsRow.form h hl; injection hv with e1 e2 e3; exact ⟨g, e1, hg⟩
section
theorem block_of_add (a : Addr) (n : Nat) : (a.add n).block = a.block := by unfold Addr.add; split <;> rfl
theorem add_of_add (a : Addr) (i j : Nat) : (a.add i).add j = a.add (i + j) := by
 unfold Addr.add
 by_cases hi : i = 0 <;> by_cases hj : j = 0 <;> simp [hi, hj, Nat.add_assoc]
def Reads (w : World) (B size : Nat) (A : Option Addr) (n : Nat) (xs : List Value) : Prop :=
 xs.length = n * size ∧ (0 < n → ∃ ad, A = some ad ∧ ad.block < B ∧ ∀ j u, xs[j]? = some u → w.cell? (ad.add j) = some u)
section
variable {w w' : World} {B B' size n : Nat} {A : Option Addr} {xs : List Value}
theorem Reads.keep (h : Reads w B size A n xs) (hk : ∀ p : Addr, p.block < B → w'.cell? p = w.cell? p) : Reads w' B size A n xs :=
 ⟨h.1, fun hn => by
  obtain ⟨ad, e, hb, hc⟩ := h.2 hn
  exact ⟨ad, e, hb, fun j u hu => (hk _ (by rw [block_of_add]; exact hb)).trans (hc j u hu)⟩⟩
theorem Reads.below (h : Reads w B size A n xs) (hb : Below B w w') : Reads w' B size A n xs := h.keep fun _ hp => hb.cell hp
theorem Reads.alloc (h : Reads w B size A n xs) (hB : B ≤ w.heap.size) (o : Obj) : Reads (w.alloc o) B size A n xs := h.keep fun p hp => World.cell?_alloc_lt w o p (by omega)
theorem Reads.cut (h : Reads w B size A n xs) {k cap : Nat} (hk : k ≤ n) (hc : n ≤ cap) :
  Reads w B size (if cap = k then A else A.map (·.add (k * size))) (n - k) (xs.drop (k * size)) := by
 refine ⟨by rw [List.length_drop, h.1, Nat.sub_mul], fun hn => ?_⟩; obtain ⟨ad, rfl, hb, hcell⟩ := h.2 (by omega); rw [if_neg (by omega)]; refine ⟨ad.add (k * size), rfl, by rw [block_of_add]; exact hb, fun j u hu => ?_⟩; rw [add_of_add]; exact hcell _ u (by rw [← hu, List.getElem?_drop])
theorem Reads.of_own {base : Nat} {e : TypeId} {c : Nat} (h : w.ownsRow base e size (.slice A n c) n xs) : Reads w w.heap.size size A n xs := by
 refine ⟨h.1, fun hn => ?_⟩; obtain ⟨g, cap, hv, _, hlt⟩ := h.form hn
 have hA : A = some ⟨g, 0, none⟩ := by injection hv
 subst hA; exact ⟨_, rfl, hlt, h.cells (g := g) rfl⟩
end
section
variable {P : Program} (w : World)
theorem run_append_of_nil (base : Nat) (t ty e : TypeId) (i : TypeInfo) (size : Nat) (ht : P.underlying t = some (.slice e)) (hi : P.info? e = some i)
  (v : Value) (n : Nat) (xs : List Value) (hown : w.ownsRow base e size v n xs) (c : Nat) : (Builtin.append_ #[t, t] ty #[v, .slice none 0 c]).run P w = .ok v w := by
 rcases hown.2 with ⟨rfl, rfl⟩ | ⟨g, cap, cur, rfl, _, _, hnc, _⟩
 ·simp [Builtin.append_, run_underlying ht, sizeOf, typeInfo, hi, Builtin.lenOf, Builtin.firstCells]
 ·simp [Builtin.append_, run_underlying ht, sizeOf, typeInfo, hi, Builtin.lenOf, Builtin.firstCells, hnc, storeCells]
theorem run_append_any (base : Nat) (t ty e : TypeId) (i : TypeInfo) (z : Value) (size bytes : Nat) (ht : P.underlying t = some (.slice e)) (hi : P.info? e = some i) (hz : i.zero = some z)
  (hsize : i.size = size) (hby : i.bytes = bytes) (hzs : z.cells.size = size) (hsz : 0 < size)
  (v : Value) (n : Nat) (xs : List Value) (hown : w.ownsRow base e size v n xs)
  (B : Nat) (A : Option Addr) (m c : Nat) (news : List Value) (hr : Reads w B size A m news) (h1 : ∀ u ∈ news, u.oneCell' = true)
  (h63 : n + m ≤ maxLen) (hbytes : (n + m) * bytes ≤ 140737488355328) (hbase : base ≤ w.heap.size) :
  ∃ v' w', (Builtin.append_ #[t, t] ty #[v, .slice A m c]).run P w = .ok v' w' ∧ w'.ownsRow base e size v' (n + m) (xs ++ news) ∧ w.grownBy w' v.ownBlock ∧
   (v'.ownBlock = v.ownBlock ∨ v'.ownBlock = some w.heap.size) := by
 rcases A with _ | ad
 ·have hm : m = 0 := by
   rcases Nat.eq_zero_or_pos m with h0 | h0
   ·exact h0
   ·obtain ⟨ad, h, _⟩ := hr.2 h0
    cases h
  subst hm; have hn : news = [] := List.eq_nil_of_length_eq_zero (by simpa using hr.1); subst hn; exact ⟨v, w, run_append_of_nil w base t ty e i size ht hi v n xs hown c, by simpa using hown, World.grownBy.refl w _, .inl rfl⟩
 ·have hcells : ∀ j u, news[j]? = some u → w.cell? (ad.add j) = some u := by
   intro j u hu
   rcases Nat.eq_zero_or_pos m with h0 | h0
   ·subst h0
    have hn : news = [] := List.eq_nil_of_length_eq_zero (by simpa using hr.1); subst hn
    simp at hu
   ·obtain ⟨ad', h, _, hc⟩ := hr.2 h0
    injection h with h; subst h; exact hc j u hu
  obtain ⟨v', w', hrun, h2, h3, _, h5⟩ := run_append_own_at (P := P) w base t ty e i z size bytes ht hi hz hsize hby hzs hsz v n xs hown ad m c news hr.1 hcells h1 h63 hbytes hbase; exact ⟨v', w', hrun, h2, h3, h5⟩
theorem wp_append_any {o : Oper} {a : Act} {K : Act → World → Prop} {Q : Exit → Act → World → Prop} (s x : Operand) (t : TypeId)
  (ho : o.op = .call { callee := .builtin .append, args := #[s, x], argTypes := #[t, t] })
  (base : Nat) (e : TypeId) (i : TypeInfo) (z : Value) (size bytes : Nat) (ht : P.underlying t = some (.slice e)) (hi : P.info? e = some i) (hz : i.zero = some z)
  (hsize : i.size = size) (hby : i.bytes = bytes) (hzs : z.cells.size = size) (hsz : 0 < size)
  (v : Value) (n : Nat) (xs : List Value) (hs : a.eval s = v) (hown : w.ownsRow base e size v n xs)
  (B : Nat) (A : Option Addr) (m c : Nat) (news : List Value) (hx : a.eval x = .slice A m c) (hr : Reads w B size A m news) (h1 : ∀ u ∈ news, u.oneCell' = true)
  (h63 : n + m ≤ maxLen) (hbytes : (n + m) * bytes ≤ 140737488355328) (hbase : base ≤ w.heap.size)
  (h : ∀ v' w', w'.ownsRow base e size v' (n + m) (xs ++ news) → w.grownBy w' v.ownBlock → (v'.ownBlock = v.ownBlock ∨ v'.ownBlock = some w.heap.size) → K (a.put o.dst v') w') : o.wp P a w K Q := by
 obtain ⟨v', w', hrun, h2, h3, h4⟩ := run_append_any (P := P) w base t o.type e i z size bytes ht hi hz hsize hby hzs hsz v n xs hown B A m c news hr h1 h63 hbytes hbase; unfold Oper.wp execOp; simp only [ho, resolve, invoke, builtin, Sem.run_bind, Sem.run_pure, Result.andThen_ok, List.map_toArray, List.map_cons, List.map_nil, hs, hx, hrun]; exact h v' w' h2 h3 h4
theorem wpList_append_any {ops : Array Oper} {rest : List Oper} {o : Oper} {a : Act} {Q : Exit → Act → World → Prop} (hgd : o.guard = none) (s x : Operand) (t : TypeId)
  (ho : o.op = .call { callee := .builtin .append, args := #[s, x], argTypes := #[t, t] })
  (base : Nat) (e : TypeId) (i : TypeInfo) (z : Value) (size bytes : Nat) (ht : P.underlying t = some (.slice e)) (hi : P.info? e = some i) (hz : i.zero = some z)
  (hsize : i.size = size) (hby : i.bytes = bytes) (hzs : z.cells.size = size) (hsz : 0 < size)
  (v : Value) (n : Nat) (xs : List Value) (hs : a.eval s = v) (hown : w.ownsRow base e size v n xs)
  (B : Nat) (A : Option Addr) (m c : Nat) (news : List Value) (hx : a.eval x = .slice A m c) (hr : Reads w B size A m news) (h1 : ∀ u ∈ news, u.oneCell' = true)
  (h63 : n + m ≤ maxLen) (hbytes : (n + m) * bytes ≤ 140737488355328) (hbase : base ≤ w.heap.size)
  (h : ∀ v' w', w'.ownsRow base e size v' (n + m) (xs ++ news) → w.grownBy w' v.ownBlock → (v'.ownBlock = v.ownBlock ∨ v'.ownBlock = some w.heap.size) → wpList P ops Q rest (a.put o.dst v') w') : wpList P ops Q (o :: rest) a w :=
 wpList_plain hgd fun _ hK => wp_append_any w s x t ho base e i z size bytes ht hi hz hsize hby hzs hsz v n xs hs hown B A m c news hx hr h1 h63 hbytes hbase fun v' w' h2 h3 h4 => hK _ _ (h v' w' h2 h3 h4)
theorem step_append_any {ops : Array Oper} {o : Oper} {a : Act} {K : Act → World → Prop} {Q : Exit → Act → World → Prop} {E : Prop} (hgd : o.guard = none) (s x : Operand) (t : TypeId)
  (ho : o.op = .call { callee := .builtin .append, args := #[s, x], argTypes := #[t, t] })
  (base : Nat) (e : TypeId) (i : TypeInfo) (z : Value) (size bytes : Nat) (ht : P.underlying t = some (.slice e)) (hi : P.info? e = some i) (hz : i.zero = some z)
  (hsize : i.size = size) (hby : i.bytes = bytes) (hzs : z.cells.size = size) (hsz : 0 < size)
  (v : Value) (n : Nat) (xs : List Value) (hs : a.eval s = v) (hown : w.ownsRow base e size v n xs)
  (B : Nat) (A : Option Addr) (m c : Nat) (news : List Value) (hx : a.eval x = .slice A m c) (hr : Reads w B size A m news) (h1 : ∀ u ∈ news, u.oneCell' = true)
  (h63 : n + m ≤ maxLen) (hbytes : (n + m) * bytes ≤ 140737488355328) (hbase : base ≤ w.heap.size)
  (h : ∀ v' w', w'.ownsRow base e size v' (n + m) (xs ++ news) → w.grownBy w' v.ownBlock → (v'.ownBlock = v.ownBlock ∨ v'.ownBlock = some w.heap.size) → K (a.put o.dst v') w') :
  if Region.wanted o (yielded ops a.tmps) = true then Oper.wp P o a w K Q else E := by
 have hw : Region.wanted o (yielded ops a.tmps) = true := by simp [Region.wanted, hgd]
 rw [if_pos hw]; exact wp_append_any w s x t ho base e i z size bytes ht hi hz hsize hby hzs hsz v n xs hs hown B A m c news hx hr h1 h63 hbytes hbase h
end
end
def valsH (hs : List Hd) : List Value := (flatH hs).map (Value.int .i64)
theorem vals_len (hs : List Hd) : (valsH hs).length = hs.length * 3 := by unfold valsH; rw [List.length_map, flat_len]
theorem vals_append (a b : List Hd) : valsH (a ++ b) = valsH a ++ valsH b := by unfold valsH; rw [flat_append, List.map_append]
theorem vals_drop (hs : List Hd) (k : Nat) : (valsH hs).drop (k * 3) = valsH (hs.drop k) := by unfold valsH; rw [← List.map_drop, flat_drop]
theorem vals_one (hs : List Hd) : ∀ u ∈ valsH hs, u.oneCell' = true := fun u hu => by
 unfold valsH at hu; obtain ⟨z, _, rfl⟩ := List.mem_map.1 hu
 rfl
theorem vals_get {hs : List Hd} {k : Nat} (h : k < hs.length) : (valsH hs)[k * 3]? = some (.int .i64 (hs.getD k hd0).1) ∧ (valsH hs)[k * 3 + 1]? = some (.int .i64 (hs.getD k hd0).2.1) ∧ (valsH hs)[k * 3 + 2]? = some (.int .i64 (hs.getD k hd0).2.2) := by
 obtain ⟨a, b, c⟩ := flat_get hs k h; have hl := flat_len hs
 have get : ∀ j, j < (flatH hs).length → (valsH hs)[j]? = some (.int .i64 ((flatH hs).getD j 0)) := fun j hj => by
  unfold valsH; rw [List.getElem?_map, List.getElem?_eq_getElem hj, List.getD_eq_getElem?_getD, List.getElem?_eq_getElem hj]; rfl
 rw [get _ (by omega), get _ (by omega), get _ (by omega), a, b, c]; exact ⟨rfl, rfl, rfl⟩
theorem add_off (g o j : Nat) : (⟨g, o, none⟩ : Addr).add j = ⟨g, o + j, none⟩ := by
 unfold Addr.add
 by_cases h : j = 0
 ·subst h; simp
 ·simp [h]
theorem hs_reads {w : World} {a : Option Addr} {hs : List Hd} (h : IsHs w a hs) : Reads w w.heap.size 3 a hs.length (valsH hs) := by
 refine ⟨vals_len hs, fun hn => ?_⟩
 rcases h with rfl | ⟨g, o, rfl, hc⟩
 ·exact absurd hn (by simp)
 ·refine ⟨⟨g, o, none⟩, rfl, ?_, fun j u hu => ?_⟩
  ·exact World.block_lt_of_cell? w _ (hc 0 hn).1
  ·have hl := vals_len hs
   have hj : j < (valsH hs).length := by
    rcases Nat.lt_or_ge j (valsH hs).length with h | h
    ·exact h
    ·rw [List.getElem?_eq_none h] at hu; cases hu
   have hk : j / 3 < hs.length := by omega
   obtain ⟨c0, c1, c2⟩ := hc _ hk; obtain ⟨v0, v1, v2⟩ := vals_get hk
   have hm : j % 3 = 0 ∨ j % 3 = 1 ∨ j % 3 = 2 := by omega
   rw [add_off]
   rcases hm with e | e | e
   ·have ej : j = j / 3 * 3 := by omega
    rw [ej] at hu ⊢; rw [v0] at hu; rw [c0, ← hu]
   ·have ej : j = j / 3 * 3 + 1 := by omega
    rw [ej] at hu ⊢; rw [v1] at hu; rw [← Nat.add_assoc, c1, ← hu]
   ·have ej : j = j / 3 * 3 + 2 := by omega
    rw [ej] at hu ⊢; rw [v2] at hu; rw [← Nat.add_assoc, c2, ← hu]
theorem reads_hs {w : World} {B : Nat} {a : Option Addr} {hs : List Hd} (h : Reads w B 3 a hs.length (valsH hs)) (hsp : ∀ ad, a = some ad → ad.spot = none) : IsHs w a hs := by
 by_cases hn : hs = []
 ·exact .inl hn
 ·obtain ⟨ad, rfl, _, hc⟩ := h.2 (by cases hs with | nil => exact absurd rfl hn | cons _ _ => simp)
  obtain ⟨g, o, sp⟩ := ad; obtain rfl : sp = none := hsp _ rfl; refine .inr ⟨g, o, rfl, fun i hi => ?_⟩; obtain ⟨v0, v1, v2⟩ := vals_get hi; have e0 := hc _ _ v0; have e1 := hc _ _ v1; have e2 := hc _ _ v2; rw [add_off] at e0 e1 e2; rw [← Nat.add_assoc] at e1 e2; exact ⟨e0, e1, e2⟩
theorem infoH : (Tryz.prog.info? 103).map (fun i => (i.zero, i.size, i.bytes)) = some (some (.agg #[.int .i64 0, .int .i64 0, .int .i64 0]), 3, 24) := by kernel_rfl
def OwnH (w : World) (base : Nat) (v : Value) (hs : List Hd) : Prop := w.ownsRow base 103 3 v hs.length (valsH hs)
theorem hs_take {w : World} {g o : Nat} {hs : List Hd} (hc : ∀ i, i < hs.length → w.cell? ⟨g, o + i * 3, none⟩ = some (.int .i64 (hs.getD i hd0).1) ∧ w.cell? ⟨g, o + i * 3 + 1, none⟩ = some (.int .i64 (hs.getD i hd0).2.1) ∧ w.cell? ⟨g, o + i * 3 + 2, none⟩ = some (.int .i64 (hs.getD i hd0).2.2)) (k : Nat) : IsHs w (some ⟨g, o, none⟩) (hs.take k) := by
 refine .inr ⟨g, o, rfl, fun i hi => ?_⟩; rw [List.length_take] at hi
 have e : (hs.take k).getD i hd0 = hs.getD i hd0 := by
  rw [List.getD_eq_getElem?_getD, List.getD_eq_getElem?_getD, List.getElem?_take_of_lt (by omega)]
 rw [e]; exact hc i (by omega)
theorem new_cells (w : World) (cs : List Value) (t : TypeId) : ∀ j u, cs[j]? = some u → (w.alloc (.cells cs.toArray t)).cell? ((⟨w.heap.size, 0, none⟩ : Addr).add j) = some u := fun j u hu => by
 rw [add_off, Nat.zero_add, (Blk.new w t cs.toArray).cell j, ← hu]; simp
def Flat (w : World) (g : Nat) (t : TypeId) (zs : List Int) : Prop := ∃ cs : Array Value, w.heap[g]? = some (.cells cs t (0, 0)) ∧ ∀ j, j < zs.length → cs[j]? = some (.int .i64 (zs.getD j 0))
theorem Flat.cell {w : World} {g : Nat} {t : TypeId} {zs : List Int} (h : Flat w g t zs) {j : Nat} (hj : j < zs.length) : w.cell? ⟨g, j, none⟩ = some (.int .i64 (zs.getD j 0)) := by
 obtain ⟨cs, hb, hc⟩ := h; rw [cell_of_row w g j cs t (0, 0) hb]; exact hc j hj
theorem Flat.frozen {w : World} {g : Nat} {t : TypeId} {zs : List Int} (h : Flat w g t zs) (j : Nat) : w.frozen? ⟨g, j, none⟩ = false := by
 obtain ⟨cs, hb, hc⟩ := h
 simp [World.frozen?, hb]
theorem Flat.lt {w : World} {g : Nat} {t : TypeId} {zs : List Int} (h : Flat w g t zs) : g < w.heap.size := by
 obtain ⟨cs, hb, hc⟩ := h; exact Blk.lt hb
theorem Flat.of_block {w w' : World} {g : Nat} {t : TypeId} {zs : List Int} (h : Flat w g t zs) (e : w'.heap[g]? = w.heap[g]?) : Flat w' g t zs := by
 obtain ⟨cs, hb, hc⟩ := h; exact ⟨cs, e.trans hb, hc⟩
theorem Flat.next {w w' : World} {g : Nat} {t : TypeId} {zs : List Int} (h : Flat w g t zs) (hb : Below w.heap.size w w') : Flat w' g t zs := h.of_block (hb.block g h.lt)
theorem getD_setF {zs : List Int} {i j : Nat} {z : Int} (hi : i < zs.length) : (zs.set i z).getD j 0 = if j = i then z else zs.getD j 0 := by
 rw [List.getD_eq_getElem?_getD, List.getD_eq_getElem?_getD, List.getElem?_set]
 by_cases e : i = j
 ·subst e; rw [if_pos rfl, if_pos hi, if_pos rfl]; rfl
 ·rw [if_neg e, if_neg (fun c => e c.symm)]
theorem Flat.set_ {w : World} {g : Nat} {t : TypeId} {zs : List Int} (h : Flat w g t zs) {i : Nat} (hi : i < zs.length) (z : Int) : Flat (w.setCell ⟨g, i, none⟩ (.int .i64 z)) g t (zs.set i z) := by
 obtain ⟨cs, hb, hc⟩ := h; refine ⟨cs.setIfInBounds i (.int .i64 z), Blk.set_ hb i _, fun j hj => ?_⟩; rw [List.length_set] at hj
 have hs : i < cs.size := by
  have := hc i hi
  rcases Nat.lt_or_ge i cs.size with h | h
  ·exact h
  ·rw [Array.getElem?_eq_none h] at this; cases this
 rw [Array.getElem?_setIfInBounds, getD_setF hi]
 by_cases e : i = j
 ·subst e; rw [if_pos rfl, if_pos hs, if_pos rfl]
 ·rw [if_neg e, if_neg (fun c => e c.symm)]; exact hc j hj
theorem Flat.row {w : World} {g : Nat} {t : TypeId} {n : Nat} {f : Nat → Value} {zs : List Int} (h : w.rowIs g t n f) (hl : zs.length ≤ n) (hf : ∀ j, j < zs.length → f j = .int .i64 (zs.getD j 0)) : Flat w g t zs := by
 obtain ⟨cs, hb, _, hc⟩ := h; exact ⟨cs, hb, fun j hj => by rw [hc j (by omega), hf j hj]⟩
theorem Flat.own {w : World} {base : Nat} {e : TypeId} {size n : Nat} {v : Value} {zs : List Int} (h : w.ownsRow base e size v n (zs.map (Value.int .i64))) : (v = .slice none 0 0 ∧ n = 0) ∨ ∃ g cap, v = .slice (some ⟨g, 0, none⟩) n cap ∧ base ≤ g ∧ Flat w g e zs ∧ n ≤ cap := by
 rcases h.2 with h0 | ⟨g, cap, cur, rfl, hg, hb, hnc, _, _, ht⟩
 ·exact .inl h0
 ·refine .inr ⟨g, cap, rfl, hg, ⟨cur, hb, fun j hj => ?_⟩, hnc⟩
  have hl := h.1; rw [List.length_map] at hl
  have : (List.take (n * size) cur.toList)[j]? = some (.int .i64 (zs.getD j 0)) := by
   rw [ht, List.getElem?_map, List.getElem?_eq_getElem hj, List.getD_eq_getElem?_getD, List.getElem?_eq_getElem hj]; rfl
  rw [List.getElem?_take_of_lt (by omega)] at this
  simpa using this
theorem Flat.hs {w : World} {g : Nat} {t : TypeId} {hs : List Hd} (h : Flat w g t (flatH hs)) : IsHs w (some ⟨g, 0, none⟩) hs := by
 refine .inr ⟨g, 0, rfl, fun i hi => ?_⟩; obtain ⟨a, b, c⟩ := flat_get hs i hi; have hl := flat_len hs; rw [Nat.zero_add]; exact ⟨by rw [h.cell (by omega), a], by rw [h.cell (by omega), b], by rw [h.cell (by omega), c]⟩
section
open Go.ChangeShapes Go.WideShapes Go.RowKit Go.Deep
abbrev Ac := Int × Int
abbrev ac0 : Ac := (0, 0)
def flatAc : List Ac → List Int
 | [] => []
 | h :: t => h.1 :: h.2 :: flatAc t
theorem flatAc_len : ∀ xs : List Ac, (flatAc xs).length = xs.length * 2 := by
 intro xs
 induction xs with
 | nil => rfl
 | cons h t ih => show (flatAc t).length + 1 + 1 = (t.length + 1) * 2; rw [ih]; omega
theorem flatAc_append : ∀ a b : List Ac, flatAc (a ++ b) = flatAc a ++ flatAc b := by
 intro a b
 induction a with
 | nil => rfl
 | cons h t ih => show h.1 :: h.2 :: flatAc (t ++ b) = _; rw [ih]; rfl
theorem flatAc_get : ∀ (xs : List Ac) (k : Nat), k < xs.length → (flatAc xs).getD (k * 2) 0 = (xs.getD k ac0).1 ∧ (flatAc xs).getD (k * 2 + 1) 0 = (xs.getD k ac0).2 := by
  intro xs
  induction xs with
  | nil => intro k h; simp at h
  | cons h t ih =>
    intro k hk
    cases k with
    | zero => exact ⟨rfl, rfl⟩
    | succ k =>
      have := ih k (by simpa using hk); rw [show (k + 1) * 2 = k * 2 + 1 + 1 from by omega]; exact this
theorem flatAc_take (xs : List Ac) (k : Nat) : (flatAc xs).take (k * 2) = flatAc (xs.take k) := by
  induction xs generalizing k with
  | nil => simp [flatAc]
  | cons h t ih =>
    cases k with
    | zero => rfl
    | succ k =>
      rw [show (k + 1) * 2 = k * 2 + 1 + 1 from by omega]
      show h.1 :: h.2 :: (flatAc t).take (k * 2) = _
      rw [ih]; rfl
theorem flatAc_drop (xs : List Ac) (k : Nat) : (flatAc xs).drop (k * 2) = flatAc (xs.drop k) := by
  induction xs generalizing k with
  | nil => simp [flatAc]
  | cons h t ih =>
    cases k with
    | zero => rfl
    | succ k =>
      rw [show (k + 1) * 2 = k * 2 + 1 + 1 from by omega]
      show (flatAc t).drop (k * 2) = _
      rw [ih]; rfl
def IsAc (w : World) (a : Option Addr) (xs : List Ac) : Prop := xs = [] ∨ ∃ g o, a = some ⟨g, o, none⟩ ∧ ∀ i, i < xs.length → w.cell? ⟨g, o + i * 2, none⟩ = some (.int .i64 (xs.getD i ac0).1) ∧ w.cell? ⟨g, o + i * 2 + 1, none⟩ = some (.int .i64 (xs.getD i ac0).2)
theorem ac_below {w w' : World} {a : Option Addr} {xs : List Ac} (h : IsAc w a xs) (hB : Below w.heap.size w w') : IsAc w' a xs := by
 rcases h with h | ⟨g, o, ha, hc⟩
 ·exact .inl h
 ·refine .inr ⟨g, o, ha, fun i hi => ?_⟩
  obtain ⟨c0, c1⟩ := hc i hi
  have kp : ∀ p v, w.cell? ⟨g, p, none⟩ = some v → w'.cell? ⟨g, p, none⟩ = some v := fun p v c => (hB.cell (p := ⟨g, p, none⟩) (World.block_lt_of_cell? w _ c)).trans c
  exact ⟨kp _ _ c0, kp _ _ c1⟩
theorem ac_at {w wr : World} {g o : Nat} {xs : List Ac} (hc : ∀ i, i < xs.length → w.cell? ⟨g, o + i * 2, none⟩ = some (.int .i64 (xs.getD i ac0).1) ∧ w.cell? ⟨g, o + i * 2 + 1, none⟩ = some (.int .i64 (xs.getD i ac0).2)) (hB : Below w.heap.size w wr) {k : Nat} (hk : k < xs.length) :
  wr.cell? ⟨g, o + k * 2, none⟩ = some (.int .i64 (xs.getD k ac0).1) ∧ wr.cell? ⟨g, o + k * 2 + 1, none⟩ = some (.int .i64 (xs.getD k ac0).2) := by
 obtain ⟨c0, c1⟩ := hc k hk
 have kp : ∀ p v, w.cell? ⟨g, p, none⟩ = some v → wr.cell? ⟨g, p, none⟩ = some v := fun p v c => (hB.cell (p := ⟨g, p, none⟩) (World.block_lt_of_cell? w _ c)).trans c
 exact ⟨kp _ _ c0, kp _ _ c1⟩
theorem Flat.ac {w : World} {g : Nat} {t : TypeId} {xs : List Ac} (h : Flat w g t (flatAc xs)) : IsAc w (some ⟨g, 0, none⟩) xs := by
 refine .inr ⟨g, 0, rfl, fun i hi => ?_⟩; obtain ⟨a0, a1⟩ := flatAc_get xs i hi; have hl := flatAc_len xs; rw [Nat.zero_add]; exact ⟨by rw [h.cell (by omega), a0], by rw [h.cell (by omega), a1]⟩
theorem ac_take {w : World} {g o : Nat} {xs : List Ac} (hc : ∀ i, i < xs.length → w.cell? ⟨g, o + i * 2, none⟩ = some (.int .i64 (xs.getD i ac0).1) ∧ w.cell? ⟨g, o + i * 2 + 1, none⟩ = some (.int .i64 (xs.getD i ac0).2)) (k : Nat) : IsAc w (some ⟨g, o, none⟩) (xs.take k) := by
 refine .inr ⟨g, o, rfl, fun i hi => ?_⟩; rw [List.length_take] at hi
 have e : (xs.take k).getD i ac0 = xs.getD i ac0 := by
  rw [List.getD_eq_getElem?_getD, List.getD_eq_getElem?_getD, List.getElem?_take_of_lt (by omega)]
 rw [e]; exact hc i (by omega)
def valsAc (xs : List Ac) : List Value := (flatAc xs).map (Value.int .i64)
theorem valsAc_len (xs : List Ac) : (valsAc xs).length = xs.length * 2 := by unfold valsAc; rw [List.length_map, flatAc_len]
theorem valsAc_append (a b : List Ac) : valsAc (a ++ b) = valsAc a ++ valsAc b := by unfold valsAc; rw [flatAc_append, List.map_append]
theorem valsAc_one (xs : List Ac) : ∀ u ∈ valsAc xs, u.oneCell' = true := fun u hu => by
 unfold valsAc at hu; obtain ⟨z, _, rfl⟩ := List.mem_map.1 hu
 rfl
theorem valsAc_get {xs : List Ac} {k : Nat} (h : k < xs.length) : (valsAc xs)[k * 2]? = some (.int .i64 (xs.getD k ac0).1) ∧ (valsAc xs)[k * 2 + 1]? = some (.int .i64 (xs.getD k ac0).2) := by
 obtain ⟨a0, a1⟩ := flatAc_get xs k h; have hl := flatAc_len xs
 have get : ∀ j, j < (flatAc xs).length → (valsAc xs)[j]? = some (.int .i64 ((flatAc xs).getD j 0)) := fun j hj => by
  unfold valsAc; rw [List.getElem?_map, List.getElem?_eq_getElem hj, List.getD_eq_getElem?_getD, List.getElem?_eq_getElem hj]; rfl
 rw [get _ (by omega), get _ (by omega), a0, a1]; exact ⟨rfl, rfl⟩
theorem ac_reads {w : World} {a : Option Addr} {xs : List Ac} (h : IsAc w a xs) : Reads w w.heap.size 2 a xs.length (valsAc xs) := by
 refine ⟨valsAc_len xs, fun hn => ?_⟩
 rcases h with rfl | ⟨g, o, rfl, hc⟩
 ·exact absurd hn (by simp)
 ·refine ⟨⟨g, o, none⟩, rfl, ?_, fun j u hu => ?_⟩
  ·exact World.block_lt_of_cell? w _ (hc 0 hn).1
  ·have hl := valsAc_len xs
   have hj : j < (valsAc xs).length := by
    rcases Nat.lt_or_ge j (valsAc xs).length with h | h
    ·exact h
    ·rw [List.getElem?_eq_none h] at hu; cases hu
   have hk : j / 2 < xs.length := by omega
   obtain ⟨c0, c1⟩ := hc _ hk; obtain ⟨v0, v1⟩ := valsAc_get hk
   have hm : j % 2 = 0 ∨ j % 2 = 1 := by omega
   rw [add_off]
   rcases hm with e | e
   ·have ej : j = j / 2 * 2 := by omega
    rw [ej] at hu ⊢; rw [v0] at hu; rw [c0, ← hu]
   ·have ej : j = j / 2 * 2 + 1 := by omega
    rw [ej] at hu ⊢; rw [v1] at hu; rw [← Nat.add_assoc, c1, ← hu]
theorem infoAc : (Tryz.prog.info? 114).map (fun i => (i.zero, i.size, i.bytes)) = some (some (.agg #[.int .i64 0, .int .i64 0]), 2, 16) := by kernel_rfl
def OwnAc (w : World) (base : Nat) (v : Value) (xs : List Ac) : Prop := w.ownsRow base 114 2 v xs.length (valsAc xs)
def AcIn (w : World) (a : Option Addr) (len cap : Nat) (xs : List Ac) : Prop := xs.length = len ∧ IsAc w a xs ∧ len ≤ cap ∧ cap ≤ maxLen
theorem open_ac {H : Type} {enc : TypeId × Value → H} {w : World} {base : Nat} {spare : Nat → Bool} {held : Bool} {fuel : Nat} {cs : List Value} {x : DataW H × List MemPlace} (h : DataW.trod enc Tryz.prog w base spare held fuel 116 cs = some x) : ∃ x0 x1 : Int, cs = [.int .i64 x0, .int .i64 x1] := by
  obtain ⟨y0, y1, n', _, hl, h0, h1⟩ := trod_struct2 Tryz.underlying116 h; obtain ⟨x0, e0, _, _⟩ := DataW.trod_int Tryz.underlying3 h0; obtain ⟨x1, e1, _, _⟩ := DataW.trod_int Tryz.underlying3 h1
  have hc : Tryz.prog.cellsOf 116 = 2 := by kernel_rfl
  have hi : Tryz.prog.cellsOf 3 = 1 := by kernel_rfl
  have hl := hl.trans hc; dsimp only at e0 e1; rw [hi] at e0 e1
  match cs, hl with
  | [a0, a1], _ =>
    refine ⟨x0, x1, ?_⟩
    simp at e0 e1
    rw [e0, e1]
theorem open_acs {H : Type} {enc : TypeId × Value → H} {w : World} {base : Nat} {spare : Nat → Bool} {held : Bool} {fuel : Nat} {a : Option Addr} {len cap : Nat} {x : DataW H × List MemPlace} (h : DataW.trod enc Tryz.prog w base spare held fuel 27 [.slice a len cap] = some x) : ∃ xs, AcIn w a len cap xs := by
 rcases open_slice Tryz.underlying27 h with ⟨hcs, _⟩ | ⟨ad, l, c, m, n', D, Pq, hcs, hb, hl, hm, hmm, hx, hi⟩
 ·simp at hcs
  obtain ⟨rfl, rfl, rfl⟩ := hcs; exact ⟨[], rfl, .inl rfl, Nat.le_refl _, Nat.zero_le _⟩
 ·simp at hcs
  obtain ⟨rfl, rfl, rfl⟩ := hcs
  have hc : Tryz.prog.cellsOf 116 = 2 := by kernel_rfl
  have hmn : len ≤ m := by rw [hmm]; split <;> omega
  have each : ∀ i, i < len → ∃ z : Ac, w.cell? (ad.add (i * 2)) = some (.int .i64 z.1) ∧ w.cell? (ad.add (i * 2 + 1)) = some (.int .i64 z.2) := fun i hin => by
   obtain ⟨cs', h1, h2⟩ := hi i (by omega); obtain ⟨x0, x1, rfl⟩ := open_ac h2; rw [hc] at h1; obtain ⟨_, _, hat⟩ := World.cells?_some h1; have a0 := hat 0 (by omega); have a1 := hat 1 (by omega); rw [add_add] at a0 a1; exact ⟨(x0, x1), a0, a1⟩
  obtain ⟨f, hf⟩ : ∃ f : Nat → Ac, ∀ i, i < len → w.cell? (ad.add (i * 2)) = some (.int .i64 (f i).1) ∧ w.cell? (ad.add (i * 2 + 1)) = some (.int .i64 (f i).2) :=
   ⟨fun i => if hh : i < len then Classical.choose (each i hh) else ac0, fun i hh => by simp only [dif_pos hh]; exact Classical.choose_spec (each i hh)⟩
  refine ⟨(List.range len).map f, by simp, ?_, hl, hm⟩
  by_cases h0 : len = 0
  ·subst h0; exact .inl rfl
  ·obtain ⟨b, off, spot⟩ := ad
   have hsp := (hf 0 (by omega)).1
   have hspot : spot = none := by simpa [Addr.add] using World.cell?_spot hsp
   subst hspot; refine .inr ⟨b, off, rfl, fun i hin => ?_⟩
   have hin' : i < len := by simpa using hin
   have e : ((List.range len).map f).getD i ac0 = f i := by
    rw [List.getD_eq_getElem?_getD, List.getElem?_map, List.getElem?_range hin']; rfl
   obtain ⟨q0, q1⟩ := hf i hin'; rw [add_off] at q0 q1; rw [e]; exact ⟨q0, by rw [Nat.add_assoc]; exact q1⟩
end
section
open Go.ChangeShapes Go.WideShapes Go.RowKit Go.Deep
abbrev Tn := Int × Int
abbrev tn0 : Tn := (0, 0)
def flatTn : List Tn → List Int
 | [] => []
 | h :: t => h.1 :: h.2 :: flatTn t
theorem flatTn_len : ∀ xs : List Tn, (flatTn xs).length = xs.length * 2 := by
 intro xs
 induction xs with
 | nil => rfl
 | cons h t ih => show (flatTn t).length + 1 + 1 = (t.length + 1) * 2; rw [ih]; omega
theorem flatTn_append : ∀ a b : List Tn, flatTn (a ++ b) = flatTn a ++ flatTn b := by
 intro a b
 induction a with
 | nil => rfl
 | cons h t ih => show h.1 :: h.2 :: flatTn (t ++ b) = _; rw [ih]; rfl
theorem flatTn_get : ∀ (xs : List Tn) (k : Nat), k < xs.length → (flatTn xs).getD (k * 2) 0 = (xs.getD k tn0).1 ∧ (flatTn xs).getD (k * 2 + 1) 0 = (xs.getD k tn0).2 := by
  intro xs
  induction xs with
  | nil => intro k h; simp at h
  | cons h t ih =>
    intro k hk
    cases k with
    | zero => exact ⟨rfl, rfl⟩
    | succ k =>
      have := ih k (by simpa using hk); rw [show (k + 1) * 2 = k * 2 + 1 + 1 from by omega]; exact this
def IsTn (w : World) (a : Option Addr) (xs : List Tn) : Prop := xs = [] ∨ ∃ g o, a = some ⟨g, o, none⟩ ∧ ∀ i, i < xs.length → w.cell? ⟨g, o + i * 2, none⟩ = some (.int .i64 (xs.getD i tn0).1) ∧ w.cell? ⟨g, o + i * 2 + 1, none⟩ = some (.int .i64 (xs.getD i tn0).2)
theorem tn_below {w w' : World} {a : Option Addr} {xs : List Tn} (h : IsTn w a xs) (hB : Below w.heap.size w w') : IsTn w' a xs := by
 rcases h with h | ⟨g, o, ha, hc⟩
 ·exact .inl h
 ·refine .inr ⟨g, o, ha, fun i hi => ?_⟩
  obtain ⟨c0, c1⟩ := hc i hi
  have kp : ∀ p v, w.cell? ⟨g, p, none⟩ = some v → w'.cell? ⟨g, p, none⟩ = some v := fun p v c => (hB.cell (p := ⟨g, p, none⟩) (World.block_lt_of_cell? w _ c)).trans c
  exact ⟨kp _ _ c0, kp _ _ c1⟩
theorem tn_at {w wr : World} {g o : Nat} {xs : List Tn} (hc : ∀ i, i < xs.length → w.cell? ⟨g, o + i * 2, none⟩ = some (.int .i64 (xs.getD i tn0).1) ∧ w.cell? ⟨g, o + i * 2 + 1, none⟩ = some (.int .i64 (xs.getD i tn0).2)) (hB : Below w.heap.size w wr) {k : Nat} (hk : k < xs.length) :
  wr.cell? ⟨g, o + k * 2, none⟩ = some (.int .i64 (xs.getD k tn0).1) ∧ wr.cell? ⟨g, o + k * 2 + 1, none⟩ = some (.int .i64 (xs.getD k tn0).2) := by
 obtain ⟨c0, c1⟩ := hc k hk
 have kp : ∀ p v, w.cell? ⟨g, p, none⟩ = some v → wr.cell? ⟨g, p, none⟩ = some v := fun p v c => (hB.cell (p := ⟨g, p, none⟩) (World.block_lt_of_cell? w _ c)).trans c
 exact ⟨kp _ _ c0, kp _ _ c1⟩
theorem Flat.tn {w : World} {g : Nat} {t : TypeId} {xs : List Tn} (h : Flat w g t (flatTn xs)) : IsTn w (some ⟨g, 0, none⟩) xs := by
 refine .inr ⟨g, 0, rfl, fun i hi => ?_⟩; obtain ⟨a0, a1⟩ := flatTn_get xs i hi; have hl := flatTn_len xs; rw [Nat.zero_add]; exact ⟨by rw [h.cell (by omega), a0], by rw [h.cell (by omega), a1]⟩
def valsTn (xs : List Tn) : List Value := (flatTn xs).map (Value.int .i64)
theorem valsTn_len (xs : List Tn) : (valsTn xs).length = xs.length * 2 := by unfold valsTn; rw [List.length_map, flatTn_len]
theorem valsTn_append (a b : List Tn) : valsTn (a ++ b) = valsTn a ++ valsTn b := by unfold valsTn; rw [flatTn_append, List.map_append]
theorem valsTn_one (xs : List Tn) : ∀ u ∈ valsTn xs, u.oneCell' = true := fun u hu => by
 unfold valsTn at hu; obtain ⟨z, _, rfl⟩ := List.mem_map.1 hu
 rfl
theorem valsTn_get {xs : List Tn} {k : Nat} (h : k < xs.length) : (valsTn xs)[k * 2]? = some (.int .i64 (xs.getD k tn0).1) ∧ (valsTn xs)[k * 2 + 1]? = some (.int .i64 (xs.getD k tn0).2) := by
 obtain ⟨a0, a1⟩ := flatTn_get xs k h; have hl := flatTn_len xs
 have get : ∀ j, j < (flatTn xs).length → (valsTn xs)[j]? = some (.int .i64 ((flatTn xs).getD j 0)) := fun j hj => by
  unfold valsTn; rw [List.getElem?_map, List.getElem?_eq_getElem hj, List.getD_eq_getElem?_getD, List.getElem?_eq_getElem hj]; rfl
 rw [get _ (by omega), get _ (by omega), a0, a1]; exact ⟨rfl, rfl⟩
theorem tn_reads {w : World} {a : Option Addr} {xs : List Tn} (h : IsTn w a xs) : Reads w w.heap.size 2 a xs.length (valsTn xs) := by
 refine ⟨valsTn_len xs, fun hn => ?_⟩
 rcases h with rfl | ⟨g, o, rfl, hc⟩
 ·exact absurd hn (by simp)
 ·refine ⟨⟨g, o, none⟩, rfl, ?_, fun j u hu => ?_⟩
  ·exact World.block_lt_of_cell? w _ (hc 0 hn).1
  ·have hl := valsTn_len xs
   have hj : j < (valsTn xs).length := by
    rcases Nat.lt_or_ge j (valsTn xs).length with h | h
    ·exact h
    ·rw [List.getElem?_eq_none h] at hu; cases hu
   have hk : j / 2 < xs.length := by omega
   obtain ⟨c0, c1⟩ := hc _ hk; obtain ⟨v0, v1⟩ := valsTn_get hk
   have hm : j % 2 = 0 ∨ j % 2 = 1 := by omega
   rw [add_off]
   rcases hm with e | e
   ·have ej : j = j / 2 * 2 := by omega
    rw [ej] at hu ⊢; rw [v0] at hu; rw [c0, ← hu]
   ·have ej : j = j / 2 * 2 + 1 := by omega
    rw [ej] at hu ⊢; rw [v1] at hu; rw [← Nat.add_assoc, c1, ← hu]
theorem infoTn : (Tryz.prog.info? 108).map (fun i => (i.zero, i.size, i.bytes)) = some (some (.agg #[.int .i64 0, .int .i64 0]), 2, 16) := by kernel_rfl
def TnIn (w : World) (a : Option Addr) (len cap : Nat) (xs : List Tn) : Prop := xs.length = len ∧ IsTn w a xs ∧ len ≤ cap ∧ cap ≤ maxLen
theorem open_tn {H : Type} {enc : TypeId × Value → H} {w : World} {base : Nat} {spare : Nat → Bool} {held : Bool} {fuel : Nat} {cs : List Value} {x : DataW H × List MemPlace} (h : DataW.trod enc Tryz.prog w base spare held fuel 110 cs = some x) : ∃ x0 x1 : Int, cs = [.int .i64 x0, .int .i64 x1] := by
  obtain ⟨y0, y1, n', _, hl, h0, h1⟩ := trod_struct2 Tryz.underlying110 h; obtain ⟨x0, e0, _, _⟩ := DataW.trod_int Tryz.underlying3 h0; obtain ⟨x1, e1, _, _⟩ := DataW.trod_int Tryz.underlying3 h1
  have hc : Tryz.prog.cellsOf 110 = 2 := by kernel_rfl
  have hi : Tryz.prog.cellsOf 3 = 1 := by kernel_rfl
  have hl := hl.trans hc; dsimp only at e0 e1; rw [hi] at e0 e1
  match cs, hl with
  | [a0, a1], _ =>
    refine ⟨x0, x1, ?_⟩
    simp at e0 e1
    rw [e0, e1]
theorem open_tns {H : Type} {enc : TypeId × Value → H} {w : World} {base : Nat} {spare : Nat → Bool} {held : Bool} {fuel : Nat} {a : Option Addr} {len cap : Nat} {x : DataW H × List MemPlace} (h : DataW.trod enc Tryz.prog w base spare held fuel 23 [.slice a len cap] = some x) : ∃ xs, TnIn w a len cap xs := by
 rcases open_slice Tryz.underlying23 h with ⟨hcs, _⟩ | ⟨ad, l, c, m, n', D, Pl, hcs, hb, hl, hm, hmm, hx, hi⟩
 ·simp at hcs
  obtain ⟨rfl, rfl, rfl⟩ := hcs; exact ⟨[], rfl, .inl rfl, Nat.le_refl _, Nat.zero_le _⟩
 ·simp at hcs
  obtain ⟨rfl, rfl, rfl⟩ := hcs
  have hc : Tryz.prog.cellsOf 110 = 2 := by kernel_rfl
  have hmn : len ≤ m := by rw [hmm]; split <;> omega
  have each : ∀ i, i < len → ∃ z : Tn, w.cell? (ad.add (i * 2)) = some (.int .i64 z.1) ∧ w.cell? (ad.add (i * 2 + 1)) = some (.int .i64 z.2) := fun i hin => by
   obtain ⟨cs', h1, h2⟩ := hi i (by omega); obtain ⟨x0, x1, rfl⟩ := open_tn h2; rw [hc] at h1; obtain ⟨_, _, hat⟩ := World.cells?_some h1; have a0 := hat 0 (by omega); have a1 := hat 1 (by omega); rw [add_add] at a0 a1; exact ⟨(x0, x1), a0, a1⟩
  obtain ⟨f, hf⟩ : ∃ f : Nat → Tn, ∀ i, i < len → w.cell? (ad.add (i * 2)) = some (.int .i64 (f i).1) ∧ w.cell? (ad.add (i * 2 + 1)) = some (.int .i64 (f i).2) :=
   ⟨fun i => if hh : i < len then Classical.choose (each i hh) else tn0, fun i hh => by simp only [dif_pos hh]; exact Classical.choose_spec (each i hh)⟩
  refine ⟨(List.range len).map f, by simp, ?_, hl, hm⟩
  by_cases h0 : len = 0
  ·subst h0; exact .inl rfl
  ·obtain ⟨b, off, spot⟩ := ad
   have hsp := (hf 0 (by omega)).1
   have hspot : spot = none := by simpa [Addr.add] using World.cell?_spot hsp
   subst hspot; refine .inr ⟨b, off, rfl, fun i hin => ?_⟩
   have hin' : i < len := by simpa using hin
   have e : ((List.range len).map f).getD i tn0 = f i := by
    rw [List.getD_eq_getElem?_getD, List.getElem?_map, List.getElem?_range hin']; rfl
   obtain ⟨q0, q1⟩ := hf i hin'; rw [add_off] at q0 q1; rw [e]; exact ⟨q0, by rw [Nat.add_assoc]; exact q1⟩
end
def sumT : List Tn → Int
 | [] => 0
 | h :: t => h.2 + sumT t
theorem sumT_append (a b : List Tn) : sumT (a ++ b) = sumT a + sumT b := by
 induction a with
 | nil => show sumT b = 0 + sumT b; omega
 | cons h t ih => show h.2 + sumT (t ++ b) = h.2 + sumT t + sumT b; rw [ih]; omega
theorem sumT_succ {ts : List Tn} {k : Nat} (h : k < ts.length) : sumT (ts.take (k + 1)) = sumT (ts.take k) + (ts.getD k tn0).2 := by
 rw [take_snocD ts h tn0, sumT_append]
 show _ + ((ts.getD k tn0).2 + 0) = _
 omega
def okT (ts : List Tn) (k : Nat) : Bool := decide (1 ≤ (ts.getD k tn0).1) && decide ((ts.getD k tn0).1 ≤ 999) && decide (1 ≤ (ts.getD k tn0).2) && decide ((ts.getD k tn0).2 ≤ 336)
theorem okT_iff (ts : List Tn) (k : Nat) : okT ts k = true ↔ 1 ≤ (ts.getD k tn0).1 ∧ (ts.getD k tn0).1 ≤ 999 ∧ 1 ≤ (ts.getD k tn0).2 ∧ (ts.getD k tn0).2 ≤ 336 := by
 unfold okT; simp only [Bool.and_eq_true, decide_eq_true_eq, and_assoc]
theorem okT_no {ts : List Tn} {k : Nat} (h : ¬ (1 ≤ (ts.getD k tn0).1 ∧ (ts.getD k tn0).1 ≤ 999 ∧ 1 ≤ (ts.getD k tn0).2 ∧ (ts.getD k tn0).2 ≤ 336)) : okT ts k = false := by
 rw [Bool.eq_false_iff]; exact fun c => h ((okT_iff ts k).1 c)
def allT (ts : List Tn) : Bool := (List.range ts.length).all (okT ts)
def vtB (ts : List Tn) : Bool := decide (1 ≤ ts.length) && decide (ts.length ≤ 24) && allT ts && decide (sumT ts ≤ 336)
theorem sumT_bd {ts : List Tn} : ∀ k, k ≤ ts.length → (∀ j, j < k → okT ts j = true) → (k : Int) ≤ sumT (ts.take k) ∧ sumT (ts.take k) ≤ 336 * (k : Int) := by
  intro k
  induction k with
  | zero => intro _ _; exact ⟨by show (0 : Int) ≤ 0; omega, by show (0 : Int) ≤ 336 * ((0 : Nat) : Int); omega⟩
  | succ k ih =>
    intro hk h; have a := ih (by omega) (fun j hj => h j (by omega)); have b := (okT_iff ts k).1 (h k (by omega)); rw [sumT_succ (by omega)]
    omega
theorem sumT_all (ts : List Tn) : sumT (ts.take ts.length) = sumT ts := by rw [List.take_of_length_le (Nat.le_refl _)]
theorem vt_is {ts : List Tn} (h : vtB ts = true) : 1 ≤ ts.length ∧ ts.length ≤ 24 ∧ (∀ j, j < ts.length → okT ts j = true) ∧ 1 ≤ sumT ts ∧ sumT ts ≤ 336 := by
 unfold vtB allT at h; simp only [Bool.and_eq_true, decide_eq_true_eq, rng_all] at h; obtain ⟨⟨⟨a, b⟩, c⟩, d⟩ := h; have := (sumT_bd ts.length (Nat.le_refl _) c).1; rw [sumT_all] at this; exact ⟨a, b, c, by omega, d⟩
theorem vt_no0 {ts : List Tn} (h : ts.length < 1) : vtB ts = false := by unfold vtB; rw [decide_eq_false (by omega : ¬ 1 ≤ ts.length)]; rfl
theorem vt_no1 {ts : List Tn} (h : 24 < ts.length) : vtB ts = false := by unfold vtB; rw [decide_eq_false (by omega : ¬ ts.length ≤ 24)]; simp
theorem vt_no2 {ts : List Tn} {k : Nat} (hk : k < ts.length) (h : okT ts k = false) : vtB ts = false := by unfold vtB allT; rw [rng_no hk h]; simp
theorem vt_end {ts : List Tn} (h1 : 1 ≤ ts.length) (h2 : ts.length ≤ 24) (h3 : ∀ j, j < ts.length → okT ts j = true) : vtB ts = decide (sumT ts ≤ 336) := by
 unfold vtB allT; rw [decide_eq_true h1, decide_eq_true h2, rng_yes h3]; rfl
def idxT : List Tn → Int → Nat
 | [], _ => 0
 | h :: r, t => if t < h.2 then 0 else idxT r (t - h.2) + 1
theorem sumT_pos : ∀ (k : Nat) (ts : List Tn), (∀ j, j < k → 0 ≤ (ts.getD j tn0).2) → 0 ≤ sumT (ts.take k) := by
  intro k
  induction k with
  | zero => intro ts _; exact Int.le_refl _
  | succ k ih =>
    intro ts h
    cases ts with
    | nil => exact Int.le_refl _
    | cons x r =>
      have a := ih r (fun j hj => h (j + 1) (by omega)); have b : 0 ≤ x.2 := h 0 (by omega)
      show 0 ≤ x.2 + sumT (r.take k)
      omega
theorem idx_at : ∀ (k : Nat) (ts : List Tn) (t : Int), k < ts.length → (∀ j, j < ts.length → 0 ≤ (ts.getD j tn0).2) → sumT (ts.take k) ≤ t → t < sumT (ts.take (k + 1)) → idxT ts t = k := by
  intro k
  induction k with
  | zero =>
    intro ts t hk hp h1 h2
    cases ts with
    | nil => simp at hk
    | cons x r =>
      have h2 : t < x.2 + 0 := h2
      show (if t < x.2 then 0 else _) = 0
      rw [if_pos (by omega)]
  | succ k ih =>
    intro ts t hk hp h1 h2
    cases ts with
    | nil => simp at hk
    | cons x r =>
      have h1 : x.2 + sumT (r.take k) ≤ t := h1; have h2 : t < x.2 + sumT (r.take (k + 1)) := h2
      have hk' : k < r.length := by simpa using hk
      have p := sumT_pos k r (fun j hj => hp (j + 1) (by simp; omega))
      show (if t < x.2 then 0 else idxT r (t - x.2) + 1) = k + 1
      rw [if_neg (by omega), ih r (t - x.2) hk' (fun j hj => hp (j + 1) (by simp; omega)) (by omega) (by omega)]
theorem idx_lt : ∀ (ts : List Tn) (t : Int), t < sumT ts → 0 ≤ t → idxT ts t < ts.length := by
  intro ts
  induction ts with
  | nil => intro t h h0; have h : t < 0 := h; omega
  | cons x r ih =>
    intro t h h0; have h : t < x.2 + sumT r := h
    show (if t < x.2 then 0 else idxT r (t - x.2) + 1) < r.length + 1
    by_cases c : t < x.2
    · rw [if_pos c]; omega
    · rw [if_neg c]; have := ih (t - x.2) (by omega) (by omega); omega
def whoT (ts : List Tn) (t : Int) : Int := (ts.getD (idxT ts t) tn0).1
def whoM (ts : List Tn) (t : Int) : Int := whoT ts (t % sumT ts)
def ownT (ts : List Tn) : List Int := (List.range (sumT ts).toNat).map fun (j : Nat) => whoT ts (j : Int)
theorem ownT_len (ts : List Tn) : (ownT ts).length = (sumT ts).toNat := by unfold ownT; simp
theorem ownT_get (ts : List Tn) {j : Nat} (h : j < (sumT ts).toNat) : (ownT ts).getD j 0 = whoT ts (j : Int) := by
 unfold ownT; rw [List.getD_eq_getElem?_getD, List.getElem?_map, List.getElem?_range h]; rfl
def whoV (ts : List Tn) (t : Int) : Int := if vtB ts && (decide (0 ≤ t) && decide (t ≤ 5000)) then whoM ts t else -1
section
open Go.ChangeShapes Go.WideShapes Go.RowKit Go.Deep
abbrev Nd := Int × Int × Int × Int × Int
abbrev nd0 : Nd := (0, 0, 0, 0, 0)
def flatNd : List Nd → List Int
 | [] => []
 | h :: t => h.1 :: h.2.1 :: h.2.2.1 :: h.2.2.2.1 :: h.2.2.2.2 :: flatNd t
theorem flatNd_len : ∀ xs : List Nd, (flatNd xs).length = xs.length * 5 := by
 intro xs
 induction xs with
 | nil => rfl
 | cons h t ih => show (flatNd t).length + 1 + 1 + 1 + 1 + 1 = (t.length + 1) * 5; rw [ih]; omega
theorem flatNd_append : ∀ a b : List Nd, flatNd (a ++ b) = flatNd a ++ flatNd b := by
 intro a b
 induction a with
 | nil => rfl
 | cons h t ih => show h.1 :: h.2.1 :: h.2.2.1 :: h.2.2.2.1 :: h.2.2.2.2 :: flatNd (t ++ b) = _; rw [ih]; rfl
theorem flatNd_get : ∀ (xs : List Nd) (k : Nat), k < xs.length → (flatNd xs).getD (k * 5) 0 = (xs.getD k nd0).1 ∧ (flatNd xs).getD (k * 5 + 1) 0 = (xs.getD k nd0).2.1 ∧ (flatNd xs).getD (k * 5 + 2) 0 = (xs.getD k nd0).2.2.1 ∧ (flatNd xs).getD (k * 5 + 3) 0 = (xs.getD k nd0).2.2.2.1 ∧ (flatNd xs).getD (k * 5 + 4) 0 = (xs.getD k nd0).2.2.2.2 := by
  intro xs
  induction xs with
  | nil => intro k h; simp at h
  | cons h t ih =>
    intro k hk
    cases k with
    | zero => exact ⟨rfl, rfl, rfl, rfl, rfl⟩
    | succ k =>
      have := ih k (by simpa using hk); rw [show (k + 1) * 5 = k * 5 + 1 + 1 + 1 + 1 + 1 from by omega]; exact this
def IsNd (w : World) (a : Option Addr) (xs : List Nd) : Prop := xs = [] ∨ ∃ g o, a = some ⟨g, o, none⟩ ∧ ∀ i, i < xs.length → w.cell? ⟨g, o + i * 5, none⟩ = some (.int .i64 (xs.getD i nd0).1) ∧ w.cell? ⟨g, o + i * 5 + 1, none⟩ = some (.int .i64 (xs.getD i nd0).2.1) ∧ w.cell? ⟨g, o + i * 5 + 2, none⟩ = some (.int .i64 (xs.getD i nd0).2.2.1) ∧ w.cell? ⟨g, o + i * 5 + 3, none⟩ = some (.int .i64 (xs.getD i nd0).2.2.2.1) ∧ w.cell? ⟨g, o + i * 5 + 4, none⟩ = some (.int .i64 (xs.getD i nd0).2.2.2.2)
theorem nd_below {w w' : World} {a : Option Addr} {xs : List Nd} (h : IsNd w a xs) (hB : Below w.heap.size w w') : IsNd w' a xs := by
 rcases h with h | ⟨g, o, ha, hc⟩
 ·exact .inl h
 ·refine .inr ⟨g, o, ha, fun i hi => ?_⟩
  obtain ⟨c0, c1, c2, c3, c4⟩ := hc i hi
  have kp : ∀ p v, w.cell? ⟨g, p, none⟩ = some v → w'.cell? ⟨g, p, none⟩ = some v := fun p v c => (hB.cell (p := ⟨g, p, none⟩) (World.block_lt_of_cell? w _ c)).trans c
  exact ⟨kp _ _ c0, kp _ _ c1, kp _ _ c2, kp _ _ c3, kp _ _ c4⟩
theorem nd_at {w wr : World} {g o : Nat} {xs : List Nd} (hc : ∀ i, i < xs.length → w.cell? ⟨g, o + i * 5, none⟩ = some (.int .i64 (xs.getD i nd0).1) ∧ w.cell? ⟨g, o + i * 5 + 1, none⟩ = some (.int .i64 (xs.getD i nd0).2.1) ∧ w.cell? ⟨g, o + i * 5 + 2, none⟩ = some (.int .i64 (xs.getD i nd0).2.2.1) ∧ w.cell? ⟨g, o + i * 5 + 3, none⟩ = some (.int .i64 (xs.getD i nd0).2.2.2.1) ∧ w.cell? ⟨g, o + i * 5 + 4, none⟩ = some (.int .i64 (xs.getD i nd0).2.2.2.2)) (hB : Below w.heap.size w wr) {k : Nat} (hk : k < xs.length) :
  wr.cell? ⟨g, o + k * 5, none⟩ = some (.int .i64 (xs.getD k nd0).1) ∧ wr.cell? ⟨g, o + k * 5 + 1, none⟩ = some (.int .i64 (xs.getD k nd0).2.1) ∧ wr.cell? ⟨g, o + k * 5 + 2, none⟩ = some (.int .i64 (xs.getD k nd0).2.2.1) ∧ wr.cell? ⟨g, o + k * 5 + 3, none⟩ = some (.int .i64 (xs.getD k nd0).2.2.2.1) ∧ wr.cell? ⟨g, o + k * 5 + 4, none⟩ = some (.int .i64 (xs.getD k nd0).2.2.2.2) := by
 obtain ⟨c0, c1, c2, c3, c4⟩ := hc k hk
 have kp : ∀ p v, w.cell? ⟨g, p, none⟩ = some v → wr.cell? ⟨g, p, none⟩ = some v := fun p v c => (hB.cell (p := ⟨g, p, none⟩) (World.block_lt_of_cell? w _ c)).trans c
 exact ⟨kp _ _ c0, kp _ _ c1, kp _ _ c2, kp _ _ c3, kp _ _ c4⟩
theorem Flat.nd {w : World} {g : Nat} {t : TypeId} {xs : List Nd} (h : Flat w g t (flatNd xs)) : IsNd w (some ⟨g, 0, none⟩) xs := by
 refine .inr ⟨g, 0, rfl, fun i hi => ?_⟩; obtain ⟨a0, a1, a2, a3, a4⟩ := flatNd_get xs i hi; have hl := flatNd_len xs; rw [Nat.zero_add]; exact ⟨by rw [h.cell (by omega), a0], by rw [h.cell (by omega), a1], by rw [h.cell (by omega), a2], by rw [h.cell (by omega), a3], by rw [h.cell (by omega), a4]⟩
def valsNd (xs : List Nd) : List Value := (flatNd xs).map (Value.int .i64)
theorem valsNd_len (xs : List Nd) : (valsNd xs).length = xs.length * 5 := by unfold valsNd; rw [List.length_map, flatNd_len]
theorem valsNd_one (xs : List Nd) : ∀ u ∈ valsNd xs, u.oneCell' = true := fun u hu => by
 unfold valsNd at hu; obtain ⟨z, _, rfl⟩ := List.mem_map.1 hu
 rfl
theorem valsNd_get {xs : List Nd} {k : Nat} (h : k < xs.length) : (valsNd xs)[k * 5]? = some (.int .i64 (xs.getD k nd0).1) ∧ (valsNd xs)[k * 5 + 1]? = some (.int .i64 (xs.getD k nd0).2.1) ∧ (valsNd xs)[k * 5 + 2]? = some (.int .i64 (xs.getD k nd0).2.2.1) ∧ (valsNd xs)[k * 5 + 3]? = some (.int .i64 (xs.getD k nd0).2.2.2.1) ∧ (valsNd xs)[k * 5 + 4]? = some (.int .i64 (xs.getD k nd0).2.2.2.2) := by
 obtain ⟨a0, a1, a2, a3, a4⟩ := flatNd_get xs k h; have hl := flatNd_len xs
 have get : ∀ j, j < (flatNd xs).length → (valsNd xs)[j]? = some (.int .i64 ((flatNd xs).getD j 0)) := fun j hj => by
  unfold valsNd; rw [List.getElem?_map, List.getElem?_eq_getElem hj, List.getD_eq_getElem?_getD, List.getElem?_eq_getElem hj]; rfl
 rw [get _ (by omega), get _ (by omega), get _ (by omega), get _ (by omega), get _ (by omega), a0, a1, a2, a3, a4]; exact ⟨rfl, rfl, rfl, rfl, rfl⟩
theorem nd_reads {w : World} {a : Option Addr} {xs : List Nd} (h : IsNd w a xs) : Reads w w.heap.size 5 a xs.length (valsNd xs) := by
 refine ⟨valsNd_len xs, fun hn => ?_⟩
 rcases h with rfl | ⟨g, o, rfl, hc⟩
 ·exact absurd hn (by simp)
 ·refine ⟨⟨g, o, none⟩, rfl, ?_, fun j u hu => ?_⟩
  ·exact World.block_lt_of_cell? w _ (hc 0 hn).1
  ·have hl := valsNd_len xs
   have hj : j < (valsNd xs).length := by
    rcases Nat.lt_or_ge j (valsNd xs).length with h | h
    ·exact h
    ·rw [List.getElem?_eq_none h] at hu; cases hu
   have hk : j / 5 < xs.length := by omega
   obtain ⟨c0, c1, c2, c3, c4⟩ := hc _ hk; obtain ⟨v0, v1, v2, v3, v4⟩ := valsNd_get hk
   have hm : j % 5 = 0 ∨ j % 5 = 1 ∨ j % 5 = 2 ∨ j % 5 = 3 ∨ j % 5 = 4 := by omega
   rw [add_off]
   rcases hm with e | e | e | e | e
   ·have ej : j = j / 5 * 5 := by omega
    rw [ej] at hu ⊢; rw [v0] at hu; rw [c0, ← hu]
   ·have ej : j = j / 5 * 5 + 1 := by omega
    rw [ej] at hu ⊢; rw [v1] at hu; rw [← Nat.add_assoc, c1, ← hu]
   ·have ej : j = j / 5 * 5 + 2 := by omega
    rw [ej] at hu ⊢; rw [v2] at hu; rw [← Nat.add_assoc, c2, ← hu]
   ·have ej : j = j / 5 * 5 + 3 := by omega
    rw [ej] at hu ⊢; rw [v3] at hu; rw [← Nat.add_assoc, c3, ← hu]
   ·have ej : j = j / 5 * 5 + 4 := by omega
    rw [ej] at hu ⊢; rw [v4] at hu; rw [← Nat.add_assoc, c4, ← hu]
theorem infoNd : (Tryz.prog.info? 100).map (fun i => (i.zero, i.size, i.bytes)) = some (some (.agg #[.int .i64 0, .int .i64 0, .int .i64 0, .int .i64 0, .int .i64 0]), 5, 40) := by kernel_rfl
def NdIn (w : World) (a : Option Addr) (len cap : Nat) (xs : List Nd) : Prop := xs.length = len ∧ IsNd w a xs ∧ len ≤ cap ∧ cap ≤ maxLen
theorem trod_struct5 {H : Type} {enc : TypeId × Value → H} {w : World} {base : Nat} {spare : Nat → Bool} {held : Bool} {t : TypeId} {f0 f1 f2 f3 f4 : Field} {fuel : Nat} {cs : List Value} {x : DataW H × List MemPlace} (ht : Tryz.prog.underlying t = some (.struct #[f0, f1, f2, f3, f4])) (h : DataW.trod enc Tryz.prog w base spare held fuel t cs = some x) :
  ∃ y0 y1 y2 y3 y4 n, cs.length = Tryz.prog.cellsOf t ∧ DataW.trod enc Tryz.prog w base spare held n f0.type ((cs.drop f0.offset).take (Tryz.prog.cellsOf f0.type)) = some y0 ∧
   DataW.trod enc Tryz.prog w base spare held n f1.type ((cs.drop f1.offset).take (Tryz.prog.cellsOf f1.type)) = some y1 ∧ DataW.trod enc Tryz.prog w base spare held n f2.type ((cs.drop f2.offset).take (Tryz.prog.cellsOf f2.type)) = some y2 ∧
   DataW.trod enc Tryz.prog w base spare held n f3.type ((cs.drop f3.offset).take (Tryz.prog.cellsOf f3.type)) = some y3 ∧ DataW.trod enc Tryz.prog w base spare held n f4.type ((cs.drop f4.offset).take (Tryz.prog.cellsOf f4.type)) = some y4 := by
 obtain ⟨xs, n, _, rfl, hl, hlen, hf⟩ := DataW.trod_struct ht h
 match xs, hlen with
 | [y0, y1, y2, y3, y4], _ => exact ⟨y0, y1, y2, y3, y4, n, hl, by simpa using hf 0 f0 rfl, by simpa using hf 1 f1 rfl, by simpa using hf 2 f2 rfl, by simpa using hf 3 f3 rfl, by simpa using hf 4 f4 rfl⟩
theorem open_nd {H : Type} {enc : TypeId × Value → H} {w : World} {base : Nat} {spare : Nat → Bool} {held : Bool} {fuel : Nat} {cs : List Value} {x : DataW H × List MemPlace} (h : DataW.trod enc Tryz.prog w base spare held fuel 112 cs = some x) : ∃ x0 x1 x2 x3 x4 : Int, cs = [.int .i64 x0, .int .i64 x1, .int .i64 x2, .int .i64 x3, .int .i64 x4] := by
  obtain ⟨y0, y1, y2, y3, y4, n', hl, h0, h1, h2, h3, h4⟩ := trod_struct5 Tryz.underlying112 h; obtain ⟨x0, e0, _, _⟩ := DataW.trod_int Tryz.underlying3 h0; obtain ⟨x1, e1, _, _⟩ := DataW.trod_int Tryz.underlying3 h1; obtain ⟨x2, e2, _, _⟩ := DataW.trod_int Tryz.underlying3 h2; obtain ⟨x3, e3, _, _⟩ := DataW.trod_int Tryz.underlying3 h3; obtain ⟨x4, e4, _, _⟩ := DataW.trod_int Tryz.underlying3 h4
  have hc : Tryz.prog.cellsOf 112 = 5 := by kernel_rfl
  have hi : Tryz.prog.cellsOf 3 = 1 := by kernel_rfl
  have hl := hl.trans hc; dsimp only at e0 e1 e2 e3 e4; rw [hi] at e0 e1 e2 e3 e4
  match cs, hl with
  | [a0, a1, a2, a3, a4], _ =>
    refine ⟨x0, x1, x2, x3, x4, ?_⟩
    simp at e0 e1 e2 e3 e4
    rw [e0, e1, e2, e3, e4]
theorem open_nds {H : Type} {enc : TypeId × Value → H} {w : World} {base : Nat} {spare : Nat → Bool} {held : Bool} {fuel : Nat} {a : Option Addr} {len cap : Nat} {x : DataW H × List MemPlace} (h : DataW.trod enc Tryz.prog w base spare held fuel 24 [.slice a len cap] = some x) : ∃ xs, NdIn w a len cap xs := by
 rcases open_slice Tryz.underlying24 h with ⟨hcs, _⟩ | ⟨ad, l, c, m, n', D, Pl, hcs, hb, hl, hm, hmm, hx, hi⟩
 ·simp at hcs
  obtain ⟨rfl, rfl, rfl⟩ := hcs; exact ⟨[], rfl, .inl rfl, Nat.le_refl _, Nat.zero_le _⟩
 ·simp at hcs
  obtain ⟨rfl, rfl, rfl⟩ := hcs
  have hc : Tryz.prog.cellsOf 112 = 5 := by kernel_rfl
  have hmn : len ≤ m := by rw [hmm]; split <;> omega
  have each : ∀ i, i < len → ∃ z : Nd, w.cell? (ad.add (i * 5)) = some (.int .i64 z.1) ∧ w.cell? (ad.add (i * 5 + 1)) = some (.int .i64 z.2.1) ∧ w.cell? (ad.add (i * 5 + 2)) = some (.int .i64 z.2.2.1) ∧ w.cell? (ad.add (i * 5 + 3)) = some (.int .i64 z.2.2.2.1) ∧ w.cell? (ad.add (i * 5 + 4)) = some (.int .i64 z.2.2.2.2) := fun i hin => by
   obtain ⟨cs', h1, h2⟩ := hi i (by omega); obtain ⟨x0, x1, x2, x3, x4, rfl⟩ := open_nd h2; rw [hc] at h1; obtain ⟨_, _, hat⟩ := World.cells?_some h1; have a0 := hat 0 (by omega); have a1 := hat 1 (by omega); have a2 := hat 2 (by omega); have a3 := hat 3 (by omega); have a4 := hat 4 (by omega); rw [add_add] at a0 a1 a2 a3 a4; exact ⟨(x0, x1, x2, x3, x4), a0, a1, a2, a3, a4⟩
  obtain ⟨f, hf⟩ : ∃ f : Nat → Nd, ∀ i, i < len → w.cell? (ad.add (i * 5)) = some (.int .i64 (f i).1) ∧ w.cell? (ad.add (i * 5 + 1)) = some (.int .i64 (f i).2.1) ∧ w.cell? (ad.add (i * 5 + 2)) = some (.int .i64 (f i).2.2.1) ∧ w.cell? (ad.add (i * 5 + 3)) = some (.int .i64 (f i).2.2.2.1) ∧ w.cell? (ad.add (i * 5 + 4)) = some (.int .i64 (f i).2.2.2.2) :=
   ⟨fun i => if hh : i < len then Classical.choose (each i hh) else nd0, fun i hh => by simp only [dif_pos hh]; exact Classical.choose_spec (each i hh)⟩
  refine ⟨(List.range len).map f, by simp, ?_, hl, hm⟩
  by_cases h0 : len = 0
  ·subst h0; exact .inl rfl
  ·obtain ⟨b, off, spot⟩ := ad
   have hsp := (hf 0 (by omega)).1
   have hspot : spot = none := by simpa [Addr.add] using World.cell?_spot hsp
   subst hspot; refine .inr ⟨b, off, rfl, fun i hin => ?_⟩
   have hin' : i < len := by simpa using hin
   have e : ((List.range len).map f).getD i nd0 = f i := by
    rw [List.getD_eq_getElem?_getD, List.getElem?_map, List.getElem?_range hin']; rfl
   obtain ⟨q0, q1, q2, q3, q4⟩ := hf i hin'; rw [add_off] at q0 q1 q2 q3 q4; rw [e]; exact ⟨q0, by rw [Nat.add_assoc]; exact q1, by rw [Nat.add_assoc]; exact q2, by rw [Nat.add_assoc]; exact q3, by rw [Nat.add_assoc]; exact q4⟩
end
def mB (x : Nd) : Bool := (decide (0 ≤ x.2.1) && decide (x.2.1 ≤ 1000)) && (decide (0 ≤ x.2.2.1) && decide (x.2.2.1 ≤ 500)) && (decide (0 ≤ x.2.2.2.1) && decide (x.2.2.2.1 ≤ 500)) && (decide (0 ≤ x.2.2.2.2) && decide (x.2.2.2.2 ≤ 20))
def pB (p : Int) (k : Nat) : Bool := if k = 0 then decide (p = -1) else decide (0 ≤ p) && decide (p < (k : Int))
def okN (ns : List Nd) (k : Nat) : Bool := pB (ns.getD k nd0).1 k && mB (ns.getD k nd0)
def vnB (ns : List Nd) : Bool := decide (1 ≤ ns.length) && decide (ns.length ≤ 12) && (List.range ns.length).all (okN ns)
theorem mB_iff (x : Nd) : mB x = true ↔ (0 ≤ x.2.1 ∧ x.2.1 ≤ 1000) ∧ (0 ≤ x.2.2.1 ∧ x.2.2.1 ≤ 500) ∧ (0 ≤ x.2.2.2.1 ∧ x.2.2.2.1 ≤ 500) ∧ (0 ≤ x.2.2.2.2 ∧ x.2.2.2.2 ≤ 20) := by
 unfold mB; simp only [Bool.and_eq_true, decide_eq_true_eq, and_assoc]
theorem pB_zero (p : Int) : pB p 0 = decide (p = -1) := rfl
theorem pB_pos (p : Int) {k : Nat} (h : 0 < k) : pB p k = (decide (0 ≤ p) && decide (p < (k : Int))) := by unfold pB; rw [if_neg (by omega)]
theorem vn_no0 {ns : List Nd} (h : ns.length < 1) : vnB ns = false := by unfold vnB; rw [decide_eq_false (by omega : ¬ 1 ≤ ns.length)]; rfl
theorem vn_no1 {ns : List Nd} (h : 12 < ns.length) : vnB ns = false := by unfold vnB; rw [decide_eq_false (by omega : ¬ ns.length ≤ 12)]; simp
theorem vn_no2 {ns : List Nd} {k : Nat} (hk : k < ns.length) (h : okN ns k = false) : vnB ns = false := by unfold vnB; rw [rng_no hk h]; simp
theorem vn_end {ns : List Nd} (h3 : ∀ j, j < ns.length → okN ns j = true) : vnB ns = (decide (1 ≤ (ns.length : Int)) && decide ((ns.length : Int) ≤ 12)) := by
 unfold vnB; rw [rng_yes h3, Bool.and_true]
 congr 1
 ·by_cases h : 1 ≤ ns.length
  ·rw [decide_eq_true h, decide_eq_true (by omega)]
  ·rw [decide_eq_false h, decide_eq_false (by omega)]
 ·by_cases h : ns.length ≤ 12
  ·rw [decide_eq_true h, decide_eq_true (by omega)]
  ·rw [decide_eq_false h, decide_eq_false (by omega)]
theorem vn_yes {ns : List Nd} (h1 : 1 ≤ ns.length) (h2 : ns.length ≤ 12) (h3 : ∀ j, j < ns.length → okN ns j = true) : vnB ns = true := by
 rw [vn_end h3, decide_eq_true (by omega), decide_eq_true (by omega)]; rfl
theorem vn_is {ns : List Nd} (h : vnB ns = true) : 1 ≤ ns.length ∧ ns.length ≤ 12 ∧ ∀ j, j < ns.length → okN ns j = true := by
 unfold vnB at h; simp only [Bool.and_eq_true, decide_eq_true_eq, rng_all] at h; exact ⟨h.1.1, h.1.2, h.2⟩
theorem vn_at {ns : List Nd} (h : vnB ns = true) {k : Nat} (hk : k < ns.length) :
  (0 ≤ (ns.getD k nd0).2.1 ∧ (ns.getD k nd0).2.1 ≤ 1000) ∧ (0 ≤ (ns.getD k nd0).2.2.1 ∧ (ns.getD k nd0).2.2.1 ≤ 500) ∧ (0 ≤ (ns.getD k nd0).2.2.2.1 ∧ (ns.getD k nd0).2.2.2.1 ≤ 500) ∧ (0 ≤ (ns.getD k nd0).2.2.2.2 ∧ (ns.getD k nd0).2.2.2.2 ≤ 20) := by
 have := (vn_is h).2.2 k hk; unfold okN at this; rw [Bool.and_eq_true] at this; exact (mB_iff _).1 this.2
theorem vn_par0 {ns : List Nd} (h : vnB ns = true) : (ns.getD 0 nd0).1 = -1 := by
 have := (vn_is h).2.2 0 (vn_is h).1; unfold okN at this; rw [Bool.and_eq_true, pB_zero, decide_eq_true_eq] at this; exact this.1
theorem vn_par {ns : List Nd} (h : vnB ns = true) {k : Nat} (hk : k < ns.length) (h0 : 0 < k) : 0 ≤ (ns.getD k nd0).1 ∧ (ns.getD k nd0).1 < (k : Int) := by
 have := (vn_is h).2.2 k hk; unfold okN at this; rw [Bool.and_eq_true, pB_pos _ h0, Bool.and_eq_true, decide_eq_true_eq, decide_eq_true_eq] at this; exact this.1
theorem vn_parI {ns : List Nd} (h : vnB ns = true) {k : Nat} (hk : k < ns.length) : -1 ≤ (ns.getD k nd0).1 ∧ (ns.getD k nd0).1 < (k : Int) := by
 by_cases h0 : 0 < k
 ·have := vn_par h hk h0; omega
 ·obtain rfl : k = 0 := by omega
  rw [vn_par0 h]; constructor <;> omega
def inN (n : Nat) (i : Int) : Bool := decide (0 ≤ i) && decide (i < (n : Int))
theorem inN_yes {n : Nat} {i : Int} (h : inN n i = true) : ∃ k : Nat, i = (k : Int) ∧ k < n := by
 unfold inN at h; simp only [Bool.and_eq_true, decide_eq_true_eq] at h; exact ⟨i.toNat, by omega, by omega⟩
theorem inN_is {n k : Nat} (h : k < n) : inN n (k : Int) = true := by
 unfold inN; rw [decide_eq_true (by omega), decide_eq_true (by omega)]; rfl
def kidsTo (ns : List Nd) (at_ : Int) : Nat → List Int
 | 0 => []
 | k + 1 => if (ns.getD k nd0).1 = at_ then kidsTo ns at_ k ++ [(k : Int)] else kidsTo ns at_ k
theorem kidsTo_yes {ns : List Nd} {at_ : Int} {k : Nat} (h : (ns.getD k nd0).1 = at_) : kidsTo ns at_ (k + 1) = kidsTo ns at_ k ++ [(k : Int)] := if_pos h
theorem kidsTo_no {ns : List Nd} {at_ : Int} {k : Nat} (h : ¬ (ns.getD k nd0).1 = at_) : kidsTo ns at_ (k + 1) = kidsTo ns at_ k := if_neg h
theorem kidsTo_len (ns : List Nd) (at_ : Int) : ∀ k, (kidsTo ns at_ k).length ≤ k := by
  intro k
  induction k with
  | zero => exact Nat.le_refl _
  | succ k ih =>
    by_cases h : (ns.getD k nd0).1 = at_
    · rw [kidsTo_yes h, List.length_append]; show _ + 1 ≤ _; omega
    · rw [kidsTo_no h]; omega
def kidsF (ns : List Nd) (at_ : Int) : List Int := kidsTo ns at_ ns.length
def kidsV (ns : List Nd) (at_ : Int) : List Int := if (vnB ns && inN ns.length at_) = true then kidsF ns at_ else []
theorem kids_no {ns : List Nd} {at_ : Int} (h : vnB ns = false ∨ inN ns.length at_ = false) : kidsV ns at_ = [] := by
 unfold kidsV; rw [if_neg]; rcases h with h | h <;> rw [h] <;> simp
theorem kids_yes {ns : List Nd} {at_ : Int} (h : vnB ns = true) (h2 : inN ns.length at_ = true) : kidsV ns at_ = kidsF ns at_ := by
 unfold kidsV; rw [h, h2]; rfl
theorem kidsTo_mem (ns : List Nd) (at_ : Int) : ∀ k, ∀ z ∈ kidsTo ns at_ k, ∃ j : Nat, z = (j : Int) ∧ j < k ∧ (ns.getD j nd0).1 = at_ := by
  intro k
  induction k with
  | zero => intro z h; cases h
  | succ k ih =>
    intro z hz
    by_cases h : (ns.getD k nd0).1 = at_
    · rw [kidsTo_yes h, List.mem_append, List.mem_singleton] at hz
      rcases hz with hz | rfl
      · obtain ⟨j, a, b, c⟩ := ih z hz; exact ⟨j, a, by omega, c⟩
      · exact ⟨k, rfl, by omega, h⟩
    · rw [kidsTo_no h] at hz
      obtain ⟨j, a, b, c⟩ := ih z hz; exact ⟨j, a, by omega, c⟩
theorem kidsTo_in {ns : List Nd} {at_ : Int} {j : Nat} (h : (ns.getD j nd0).1 = at_) : ∀ k, j < k → (j : Int) ∈ kidsTo ns at_ k := by
  intro k
  induction k with
  | zero => intro h; omega
  | succ k ih =>
    intro hk
    by_cases e : j = k
    · subst e; rw [kidsTo_yes h]; exact List.mem_append_right _ (List.mem_singleton.2 rfl)
    · have := ih (by omega)
      by_cases h2 : (ns.getD k nd0).1 = at_
      · rw [kidsTo_yes h2]; exact List.mem_append_left _ this
      · rw [kidsTo_no h2]; exact this
theorem kids_bd {ns : List Nd} {at_ : Int} {z : Int} (h : z ∈ kidsF ns at_) : ∃ j : Nat, z = (j : Int) ∧ j < ns.length ∧ (ns.getD j nd0).1 = at_ := kidsTo_mem ns at_ _ z h
def leavesTo (ns : List Nd) : Nat → List Int
 | 0 => []
 | k + 1 => if (kidsF ns (k : Int)).length = 0 then leavesTo ns k ++ [(k : Int)] else leavesTo ns k
theorem leavesTo_yes {ns : List Nd} {k : Nat} (h : (kidsF ns (k : Int)).length = 0) : leavesTo ns (k + 1) = leavesTo ns k ++ [(k : Int)] := if_pos h
theorem leavesTo_no {ns : List Nd} {k : Nat} (h : ¬ (kidsF ns (k : Int)).length = 0) : leavesTo ns (k + 1) = leavesTo ns k := if_neg h
def giveH (held c w : Int) : Int := min w (held + c)
def stepH (room held c w : Int) : Int := min room (held + c - giveH held c w)
def spillH (room held c w : Int) : Int := held + c - giveH held c w - stepH room held c w
abbrev Hrs := List (Int × Int)
def endB (room : Int) : Int → Hrs → Int
 | h, [] => h
 | h, x :: t => endB room (stepH room h x.1 x.2) t
def giveB (room : Int) : Int → Hrs → Int
 | _, [] => 0
 | h, x :: t => giveH h x.1 x.2 + giveB room (stepH room h x.1 x.2) t
def spillB (room : Int) : Int → Hrs → Int
 | _, [] => 0
 | h, x :: t => spillH room h x.1 x.2 + spillB room (stepH room h x.1 x.2) t
def comeS : Hrs → Int
 | [] => 0
 | x :: t => x.1 + comeS t
def HOk (l : Hrs) : Prop := ∀ x ∈ l, 0 ≤ x.1 ∧ 0 ≤ x.2
theorem hok_cons {x : Int × Int} {t : Hrs} (h : HOk (x :: t)) : 0 ≤ x.1 ∧ 0 ≤ x.2 ∧ HOk t := ⟨(h x (by simp)).1, (h x (by simp)).2, fun y hy => h y (by simp [hy])⟩
theorem step_bd {room held c w : Int} (h : 0 ≤ held ∧ held ≤ room) (hc : 0 ≤ c) (hw : 0 ≤ w) : 0 ≤ stepH room held c w ∧ stepH room held c w ≤ room ∧ 0 ≤ giveH held c w ∧ giveH held c w ≤ w ∧ 0 ≤ spillH room held c w := by
 unfold spillH stepH giveH; omega
theorem water (room : Int) : ∀ (l : Hrs) (h : Int), h + comeS l = giveB room h l + spillB room h l + endB room h l := by
  intro l
  induction l with
  | nil => intro h; show h + 0 = 0 + 0 + h; omega
  | cons x t ih =>
    intro h; have := ih (stepH room h x.1 x.2)
    show h + (x.1 + comeS t) = (giveH h x.1 x.2 + giveB room _ t) + (spillH room h x.1 x.2 + spillB room _ t) + endB room _ t
    unfold spillH
    omega
theorem more {room room2 : Int} (hr : room ≤ room2) : ∀ (l : Hrs) (h h2 : Int), HOk l → 0 ≤ h → h ≤ room → h ≤ h2 → h2 ≤ room2 → endB room h l ≤ endB room2 h2 l ∧ giveB room h l ≤ giveB room2 h2 l := by
  intro l
  induction l with
  | nil => intro h h2 _ _ _ e _; exact ⟨e, Int.le_refl _⟩
  | cons x t ih =>
    intro h h2 ho a b e d; obtain ⟨c1, c2, c3⟩ := hok_cons ho; have s1 := step_bd (room := room) ⟨a, b⟩ c1 c2; have s2 := step_bd (room := room2) (held := h2) ⟨by omega, d⟩ c1 c2
    have m : stepH room h x.1 x.2 ≤ stepH room2 h2 x.1 x.2 ∧ giveH h x.1 x.2 ≤ giveH h2 x.1 x.2 := by unfold stepH giveH; omega
    have := ih (stepH room h x.1 x.2) (stepH room2 h2 x.1 x.2) c3 s1.1 s1.2.1 m.1 s2.2.1; refine ⟨this.1, ?_⟩
    show giveH h x.1 x.2 + giveB room _ t ≤ giveH h2 x.1 x.2 + giveB room2 _ t
    omega
def vbB (room held : Int) : Bool := decide (0 ≤ room) && (decide (room ≤ 20000) && (decide (0 ≤ held) && decide (held ≤ room)))
theorem vb_iff {room held : Int} : vbB room held = true ↔ 0 ≤ room ∧ room ≤ 20000 ∧ 0 ≤ held ∧ held ≤ room := by unfold vbB; simp
theorem vb_no {room held : Int} (h : ¬ (0 ≤ room ∧ room ≤ 20000 ∧ 0 ≤ held ∧ held ≤ room)) : vbB room held = false := by
 rw [Bool.eq_false_iff]; intro k; exact h (vb_iff.1 k)
def okAc (ac : List Ac) (k : Nat) : Bool := decide (1 ≤ (ac.getD k ac0).1) && decide ((ac.getD k ac0).1 ≤ 999) && decide (1 ≤ (ac.getD k ac0).2) && decide ((ac.getD k ac0).2 ≤ 1000000) && (decide (k = 0) || decide ((ac.getD (k - 1) ac0).1 < (ac.getD k ac0).1))
def acB (ac : List Ac) : Bool := (List.range ac.length).all (okAc ac)
theorem okAc_iff (ac : List Ac) (k : Nat) : okAc ac k = true ↔ 1 ≤ (ac.getD k ac0).1 ∧ (ac.getD k ac0).1 ≤ 999 ∧ 1 ≤ (ac.getD k ac0).2 ∧ (ac.getD k ac0).2 ≤ 1000000 ∧ (k = 0 ∨ (ac.getD (k - 1) ac0).1 < (ac.getD k ac0).1) := by
 unfold okAc; simp only [Bool.and_eq_true, Bool.or_eq_true, decide_eq_true_eq, and_assoc]
theorem acB_at {ac : List Ac} (h : acB ac = true) {k : Nat} (hk : k < ac.length) : okAc ac k = true := (rng_all _ _).1 h k hk
def lastA (ac : List Ac) : Nat → Int
 | 0 => 0
 | k + 1 => (ac.getD k ac0).1
theorem okAc_last (ac : List Ac) (k : Nat) : okAc ac k = true ↔ lastA ac k < (ac.getD k ac0).1 ∧ 1 ≤ (ac.getD k ac0).1 ∧ (ac.getD k ac0).1 ≤ 999 ∧ 1 ≤ (ac.getD k ac0).2 ∧ (ac.getD k ac0).2 ≤ 1000000 := by
  rw [okAc_iff]
  cases k with
  | zero =>
    show _ ↔ (0 : Int) < _ ∧ _
    constructor
    · rintro ⟨a, b, c, d, _⟩; exact ⟨by omega, a, b, c, d⟩
    · rintro ⟨_, a, b, c, d⟩; exact ⟨a, b, c, d, .inl rfl⟩
  | succ k =>
    show _ ↔ (ac.getD k ac0).1 < _ ∧ _
    constructor
    · rintro ⟨a, b, c, d, e⟩
      rcases e with e | e
      · omega
      · exact ⟨e, a, b, c, d⟩
    · rintro ⟨e, a, b, c, d⟩; exact ⟨a, b, c, d, .inr e⟩
theorem acB_no {ac : List Ac} {k : Nat} (hk : k < ac.length) (h : ¬ (lastA ac k < (ac.getD k ac0).1 ∧ 1 ≤ (ac.getD k ac0).1 ∧ (ac.getD k ac0).1 ≤ 999 ∧ 1 ≤ (ac.getD k ac0).2 ∧ (ac.getD k ac0).2 ≤ 1000000)) : acB ac = false := by
 refine rng_no hk ?_
 cases e : okAc ac k with
 | false => rfl
 | true => exact absurd ((okAc_last ac k).1 e) h
def acS (ac : List Ac) : Nat → Int
 | 0 => 0
 | k + 1 => acS ac k + (ac.getD k ac0).2
theorem acS_bd {ac : List Ac} (h : acB ac = true) : ∀ k, k ≤ ac.length → 0 ≤ acS ac k ∧ acS ac k ≤ 1000000 * (k : Int) := by
  intro k
  induction k with
  | zero => intro _; exact ⟨Int.le_refl _, by show (0 : Int) ≤ 1000000 * ((0 : Nat) : Int); omega⟩
  | succ k ih =>
    intro hk; have a := ih (by omega); have b := (okAc_iff ac k).1 (acB_at h (k := k) (by omega))
    show 0 ≤ acS ac k + _ ∧ acS ac k + _ ≤ _
    omega
structure Tw where
 hs : List Hd
 ts : List Tn
 ns : List Nd
 r : Int
 hd : Int
 ac : List Ac
 rt : Int
 tm : Int
 ls : Int
 cm : Int
def Tw.zero : Tw := ⟨[], [], [], 0, 0, [], 0, 0, 0, 0⟩
def inB3 (n l h : Int) : Bool := decide (l ≤ n) && decide (n ≤ h)
def twB (t : Tw) : Bool := vlR t.hs && (vtB t.ts && (vnB t.ns && (vbB t.r t.hd && (acB t.ac && (inB3 t.rt 0 500 && (inB3 t.tm 0 5000 && (inB3 t.ls 0 1000000 && (inB3 t.cm 0 1000000 && decide (acS t.ac t.ac.length + t.hd + t.ls = t.cm)))))))))
structure TA where
 a1 : Option Addr
 c1 : Nat
 a2 : Option Addr
 c2 : Nat
 a3 : Option Addr
 c3 : Nat
 a4 : Option Addr
 c4 : Nat
def TA.zero : TA := ⟨none, 0, none, 0, none, 0, none, 0⟩
def twV (p : TA) (t : Tw) : Value := .agg #[.slice p.a1 t.hs.length p.c1, .slice p.a2 t.ts.length p.c2, .slice p.a3 t.ns.length p.c3, .int .i64 t.r, .int .i64 t.hd, .slice p.a4 t.ac.length p.c4, .int .i64 t.rt, .int .i64 t.tm, .int .i64 t.ls, .int .i64 t.cm]
theorem tcl {w : World} {g : Nat} {t : TypeId} {v0 v1 v2 v3 v4 v5 v6 v7 v8 v9 : Value} (h : Blk w g t #[v0, v1, v2, v3, v4, v5, v6, v7, v8, v9]) : w.cell? ⟨g, 0, none⟩ = some v0 ∧ w.cell? ⟨g, 1, none⟩ = some v1 ∧ w.cell? ⟨g, 2, none⟩ = some v2 ∧ w.cell? ⟨g, 3, none⟩ = some v3 ∧ w.cell? ⟨g, 4, none⟩ = some v4 ∧ w.cell? ⟨g, 5, none⟩ = some v5 ∧ w.cell? ⟨g, 6, none⟩ = some v6 ∧ w.cell? ⟨g, 7, none⟩ = some v7 ∧ w.cell? ⟨g, 8, none⟩ = some v8 ∧ w.cell? ⟨g, 9, none⟩ = some v9 := ⟨h.cell 0, h.cell 1, h.cell 2, h.cell 3, h.cell 4, h.cell 5, h.cell 6, h.cell 7, h.cell 8, h.cell 9⟩
structure IsTw (w : World) (p : TA) (t : Tw) : Prop where
 h1 : IsHs w p.a1 t.hs
 h2 : IsTn w p.a2 t.ts
 h3 : IsNd w p.a3 t.ns
 h4 : IsAc w p.a4 t.ac
 n1 : t.hs.length ≤ 1048576
 n2 : t.ts.length ≤ 1048576
 n3 : t.ns.length ≤ 1048576
 n4 : t.ac.length ≤ 1048576
 k1 : t.hs.length ≤ p.c1
 k2 : t.ts.length ≤ p.c2
 k3 : t.ns.length ≤ p.c3
 k4 : t.ac.length ≤ p.c4
theorem tw_below {w w' : World} {p : TA} {t : Tw} (h : IsTw w p t) (hB : Below w.heap.size w w') : IsTw w' p t :=
 ⟨hs_below h.h1 hB, tn_below h.h2 hB, nd_below h.h3 hB, ac_below h.h4 hB, h.n1, h.n2, h.n3, h.n4, h.k1, h.k2, h.k3, h.k4⟩
section
open Go.ChangeShapes Go.WideShapes Go.RowKit Go.Deep
def HoldsIn (w : World) (a : Option Addr) (len cap : Nat) (hs : List Hd) : Prop := hs.length = len ∧ IsHs w a hs ∧ len ≤ cap ∧ cap ≤ maxLen
theorem open_frac {H : Type} {enc : TypeId × Value → H} {w : World} {base : Nat} {spare : Nat → Bool} {held : Bool} {fuel : Nat} {cs : List Value} {x : DataW H × List MemPlace} (h : DataW.trod enc Tryz.prog w base spare held fuel 31 cs = some x) : ∃ n d : Int, cs = [.int .i64 n, .int .i64 d] := by
  obtain ⟨y0, y1, n', _, hl, h0, h1⟩ := trod_struct2 Tryz.underlying31 h; obtain ⟨n, e0, _, _⟩ := DataW.trod_int Tryz.underlying3 h0; obtain ⟨d, e1, _, _⟩ := DataW.trod_int Tryz.underlying3 h1
  have hc : Tryz.prog.cellsOf 31 = 2 := by kernel_rfl
  have hi : Tryz.prog.cellsOf 3 = 1 := by kernel_rfl
  have hl := hl.trans hc; dsimp only at e0 e1; rw [hi] at e0 e1
  match cs, hl with
  | [a, b], _ =>
    refine ⟨n, d, ?_⟩
    simp at e0 e1
    rw [e0, e1]
theorem open_hold {H : Type} {enc : TypeId × Value → H} {w : World} {base : Nat} {spare : Nat → Bool} {held : Bool} {fuel : Nat} {cs : List Value} {x : DataW H × List MemPlace} (h : DataW.trod enc Tryz.prog w base spare held fuel 106 cs = some x) : ∃ o n d : Int, cs = [.int .i64 o, .int .i64 n, .int .i64 d] := by
  obtain ⟨y0, y1, n', _, hl, h0, h1⟩ := trod_struct2 Tryz.underlying106 h; obtain ⟨o, e0, _, _⟩ := DataW.trod_int Tryz.underlying3 h0; obtain ⟨n, d, e1⟩ := open_frac h1
  have hc : Tryz.prog.cellsOf 106 = 3 := by kernel_rfl
  have hf : Tryz.prog.cellsOf 31 = 2 := by kernel_rfl
  have hi : Tryz.prog.cellsOf 3 = 1 := by kernel_rfl
  have hl := hl.trans hc; dsimp only at e0 e1; rw [hi] at e0; rw [hf] at e1
  match cs, hl with
  | [a, b, c], _ =>
    refine ⟨o, n, d, ?_⟩
    simp at e0 e1
    rw [e0, e1.1, e1.2]
theorem open_holds {H : Type} {enc : TypeId × Value → H} {w : World} {base : Nat} {spare : Nat → Bool} {held : Bool} {fuel : Nat} {a : Option Addr} {len cap : Nat} {x : DataW H × List MemPlace} (h : DataW.trod enc Tryz.prog w base spare held fuel 22 [.slice a len cap] = some x) : ∃ hs, HoldsIn w a len cap hs := by
 rcases open_slice Tryz.underlying22 h with ⟨hcs, _⟩ | ⟨ad, l, c, m, n', D, Pl, hcs, hb, hl, hm, hmm, hx, hi⟩
 ·simp at hcs
  obtain ⟨rfl, rfl, rfl⟩ := hcs; exact ⟨[], rfl, .inl rfl, Nat.le_refl _, Nat.zero_le _⟩
 ·simp at hcs
  obtain ⟨rfl, rfl, rfl⟩ := hcs
  have hc : Tryz.prog.cellsOf 106 = 3 := by kernel_rfl
  have hmn : len ≤ m := by rw [hmm]; split <;> omega
  have each : ∀ i, i < len → ∃ z : Hd, w.cell? (ad.add (i * 3)) = some (.int .i64 z.1) ∧ w.cell? (ad.add (i * 3 + 1)) = some (.int .i64 z.2.1) ∧ w.cell? (ad.add (i * 3 + 2)) = some (.int .i64 z.2.2) := fun i hin => by
   obtain ⟨cs', h1, h2⟩ := hi i (by omega); obtain ⟨o, n, d, rfl⟩ := open_hold h2; rw [hc] at h1; obtain ⟨_, _, hat⟩ := World.cells?_some h1; have a0 := hat 0 (by omega); have a1 := hat 1 (by omega); have a2 := hat 2 (by omega); rw [add_add] at a0 a1 a2; exact ⟨(o, n, d), a0, a1, a2⟩
  obtain ⟨f, hf⟩ : ∃ f : Nat → Hd, ∀ i, i < len → w.cell? (ad.add (i * 3)) = some (.int .i64 (f i).1) ∧ w.cell? (ad.add (i * 3 + 1)) = some (.int .i64 (f i).2.1) ∧ w.cell? (ad.add (i * 3 + 2)) = some (.int .i64 (f i).2.2) :=
   ⟨fun i => if hh : i < len then Classical.choose (each i hh) else hd0, fun i hh => by simp only [dif_pos hh]; exact Classical.choose_spec (each i hh)⟩
  refine ⟨(List.range len).map f, by simp, ?_, hl, hm⟩
  by_cases h0 : len = 0
  ·subst h0; exact .inl rfl
  ·obtain ⟨b, off, spot⟩ := ad
   have hsp := (hf 0 (by omega)).1
   have hspot : spot = none := by simpa [Addr.add] using World.cell?_spot hsp
   subst hspot; refine .inr ⟨b, off, rfl, fun i hin => ?_⟩
   have hin' : i < len := by simpa using hin
   have e : ((List.range len).map f).getD i hd0 = f i := by
    rw [List.getD_eq_getElem?_getD, List.getElem?_map, List.getElem?_range hin']; rfl
   have ao : ∀ j, (⟨b, off, none⟩ : Addr).add j = ⟨b, off + j, none⟩ := fun j => by
    unfold Addr.add
    by_cases hj : j = 0
    ·subst hj; simp
    ·simp [hj]
   obtain ⟨q0, q1, q2⟩ := hf i hin'; rw [ao] at q0 q1 q2; rw [e]; exact ⟨q0, by rw [Nat.add_assoc]; exact q1, by rw [Nat.add_assoc]; exact q2⟩
end
end Go.Proofs.YthagafkjlecagabGreat
