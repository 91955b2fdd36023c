/- Contracts and facts of functions of this program, in build order. Conditions: those stated in each. -/
import Derived.Test.YtaehemmjemhgpabGreatChecked
import Derived.OrdersHeld
import Derived.WalkKit
import Derived.Below
import Derived.Lib.Hide
import Derived.Outline
import Derived.Deep.LoopGhost
import Derived.Handy
import Derived.Deep.QuietTactic
import Derived.BigQuiet
import Derived.Laws.AppendOwn
import Derived.OwnWalk
import Derived.OpenShut
import Derived.Deep.OwnRows
import Derived.Laws.OwnMore
import Derived.Maps.AppendAt
import Derived.Deep.AppendLies
import Derived.Deep.Draws
import Derived.RegionTactic
import Derived.Laws.Concat
import Derived.Laws.Strings2
import Derived.Deep.MidRow
import Derived.Laws.BitsAllLaws
import Derived.Laws.BitsLemmas
import Derived.WalkLawsBesides
import Derived.Deep.RegionHeld3
import Derived.Deep.DeepCutAuto
import Derived.Deep.Slices
import Derived.ChangeSame
import Derived.ChangeArms
import Derived.ProofKit
set_option maxRecDepth 100000
set_option maxHeartbeats 16000000
namespace Go.Proofs.YtaehemmjemhgpabGreat
open Go.RowKit
set_option linter.unusedSimpArgs false
set_option linter.unusedVariables false
theorem tk {P : Program} {md : Region.Mode} {l : List Oper} {Q : Exit → Act → World → Prop} {S : World → Prop} {i : Nat} {oi : Oper} {v : Value} {fuel : Nat} {listed : Array Bool} {a : Act} {w : World}
    (hi : l[i]? = some oi) (hy : YieldsIf P l.toArray S oi v a) (h : wpAnyH P md l.toArray Q S fuel (listed.setIfInBounds i true) (a.put oi.dst v) w)
    (hs : Region.noSelect l.toArray = true := by kernel_rfl) (hf : (Region.free md l.toArray listed i && (Region.ready md l.toArray listed).contains i) = true := by kernel_rfl)
    (hS : S w := by assumption) (hQ : ∀ c a w, Q (.panic c) (a.put oi.dst v) w → Q (.panic c) a w := by exact fun _ _ _ h => h) : wpAnyH P md l.toArray Q S (fuel + 1) listed a w := by
  rw [Bool.and_eq_true] at hf
  exact wpAnyH_take (by rw [List.getElem?_toArray]; exact hi) hs hf.1 hf.2 hQ hy hS h
theorem pt : (∀ (a : Act) (t : Tmp) (v : Value), a.put (some t) v = { a with tmps := a.tmps.setIfInBounds t v }) ∧ (∀ (a : Act) (v : Value), a.put none v = a) ∧ (∀ (l : List Value) (i : Nat) (v : Value), l.toArray.setIfInBounds i v = (l.set i v).toArray) ∧ (∀ (l : List Bool) (i : Nat) (v : Bool), l.toArray.setIfInBounds i v = (l.set i v).toArray)
    ∧ (∀ (x : Value) (l : List Value) (v : Value), (x :: l).set 0 v = v :: l) ∧ (∀ (x : Value) (l : List Value) (i : Nat) (v : Value), (x :: l).set (i + 1) v = x :: l.set i v) ∧ (∀ (x : Bool) (l : List Bool) (v : Bool), (x :: l).set 0 v = v :: l) ∧ (∀ (x : Bool) (l : List Bool) (i : Nat) (v : Bool), (x :: l).set (i + 1) v = x :: l.set i v) :=
  ⟨fun _ _ _ => rfl, fun _ _ => rfl, fun _ _ _ => List.setIfInBounds_toArray .., fun _ _ _ => List.setIfInBounds_toArray .., fun _ _ _ => rfl, fun _ _ _ _ => rfl, fun _ _ _ => rfl, fun _ _ _ _ => rfl⟩
theorem jx6 {k : IntKind} {a b : Int} (h : a = b) : Ending.returned (.int k a) = .returned (.int k b) := by rw [h]
theorem bcell {W w1 : World} (hb : Below W.heap.size W w1) : (∀ b o, b < W.heap.size → w1.cell? ⟨b, o, none⟩ = W.cell? ⟨b, o, none⟩) ∧ (∀ b o, b < W.heap.size → w1.frozen? ⟨b, o, none⟩ = W.frozen? ⟨b, o, none⟩) :=
 ⟨fun b o h => hb.cell (p := ⟨b, o, none⟩) h, fun b o h => hb.frozen (p := ⟨b, o, none⟩) h⟩
theorem jq1 {w a b : World} (h1 : Below w.heap.size w a) (h2 : Below a.heap.size a b) : Below w.heap.size w b := h1.trans (h2.mono h1.size)
theorem jq4 {a b : Bool} (h : a = b) : Ending.returned (.bool a) = .returned (.bool b) := by rw [h]
theorem jz0 (n l h : Int) (w : World) (a : l ≤ n) (b : n ≤ h) :
  Calls Tryz.prog 95 #[.int .i64 n, .int .i64 l, .int .i64 h] w fun e w' => e = .returned (.bool true) ∧ w = w' := by
 go_enter Tryz.func95, Tryz.ntmps95
 go_wp2
 go_ret; exact ⟨rfl, rfl⟩
theorem jzf (n l h : Int) (w : World) (a : n < l ∨ h < n) :
  Calls Tryz.prog 95 #[.int .i64 n, .int .i64 l, .int .i64 h] w fun e w' => e = .returned (.bool false) ∧ w = w' := by
 by_cases b : n < l
 ·go_enter Tryz.func95, Tryz.ntmps95
  go_wp2
  go_ret; exact ⟨rfl, rfl⟩
 ·have c : h < n := by omega
  have hd : decide (n ≤ h) = false := by simp; omega
  clear a; go_enter Tryz.func95, Tryz.ntmps95
  go_wp2
  go_ret; exact ⟨rfl, rfl⟩
def IsRow (k : IntKind) (w : World) (a : Option Addr) (len cap : Nat) (zs : List Int) : Prop :=
 (a = none ∧ len = 0 ∧ cap = 0 ∧ zs = []) ∨
 ∃ x, a = some x ∧ len ≤ cap ∧ cap ≤ maxLen ∧ zs.length = cap ∧ (∀ i, i < zs.length → w.cell? (x.add i) = some (.int k (zs.getD i 0))) ∧ ∀ n ∈ zs, (Lit.int k n).wf = true
def jqc (w : World) (a : Option Addr) (zs : List Int) : Prop := zs = [] ∨ ∃ g o, a = some ⟨g, o, none⟩ ∧ ∀ i, i < zs.length → w.cell? ⟨g, o + i, none⟩ = some (.int .i64 (zs.getD i 0))
theorem take_sum (zs : List Int) (k : Nat) (h : k < zs.length) : (zs.take (k + 1)).sum = (zs.take k).sum + zs.getD k 0 := by
 rw [List.take_succ_eq_append_getElem h, List.sum_append, List.getD_eq_getElem?_getD, List.getElem?_eq_getElem h]
 simp
theorem jj7 {zs : List Int} {k : Nat} (h : k < zs.length) : zs.getD k 0 ∈ zs := by
 rw [List.getD_eq_getElem?_getD, List.getElem?_eq_getElem h]; simp
theorem sum_bd (zs : List Int) (h : ∀ z ∈ zs, -1000000 ≤ z ∧ z ≤ 1000000) : ∀ k, k ≤ zs.length → -1000000 * (k : Int) ≤ (zs.take k).sum ∧ (zs.take k).sum ≤ 1000000 * (k : Int) := by
  intro k
  induction k with
  | zero => intro _; simp
  | succ k ih =>
    intro hk; have h1 := ih (by omega); have h2 := h _ (jj7 (k := k) (by omega)); rw [take_sum zs k (by omega)]
    omega
theorem stotal (a : Option Addr) (cap : Nat) (zs : List Int) (w : World) (h : jqc w a zs) (hn : zs.length ≤ 1048576) (hz : ∀ z ∈ zs, -1000000 ≤ z ∧ z ≤ 1000000) :
  Calls Tryz.prog 185 #[.slice a zs.length cap] w fun e w' => e = .returned (.int .i64 zs.sum) ∧ w = w' := by
 rcases h with rfl | ⟨g, o, rfl, hc⟩
 ·go_enter Tryz.func185, Tryz.ntmps185
  go_wp2
  go_rounds 1
  go_ret; exact ⟨rfl, rfl⟩
 ·have HB := Lib.hid (sum_bd zs hz)
  have HC := Lib.hid hc; have HZ := Lib.hid hz; clear hc hz; go_enter Tryz.func185, Tryz.ntmps185
  go_wp2
  go_loop [3, 4] (fun s i => ∃ k : Nat, k ≤ zs.length ∧ i = .int .i64 k ∧ s = .int .i64 (zs.take k).sum) (fun _ i => zs.length - (intOf i).toNat)
  case atStart => exact ⟨0, Nat.zero_le _, rfl, rfl⟩
  case round =>
   obtain ⟨k, hk, rfl, rfl⟩ := hrel; obtain ⟨b0, b1⟩ := HB.out k hk
   by_cases hlt : k < zs.length
   ·have hc := HC.out k hlt
    have ht := take_sum zs k hlt; obtain ⟨z0, z1⟩ := HZ.out _ (jj7 hlt); generalize zs.getD k 0 = z at hc ht z0 z1; have HT := Lib.hid ht; clear ht
    go_wp2
    go_round
    case rel => exact ⟨k + 1, by omega, by go_num, by rw [HT.out]⟩
    case measure => simp [intOf]; omega
   ·go_wp2
    go_ret; exact ⟨jx6 (by rw [List.take_of_length_le (by omega)]), rfl⟩
theorem isum (a : Option Addr) (cap : Nat) (zs : List Int) (w : World) (h : jqc w a zs) (hn : zs.length ≤ 1048576) (hz : ∀ z ∈ zs, -1000000 ≤ z ∧ z ≤ 1000000) :
  Calls Tryz.prog 118 #[.slice a zs.length cap] w fun e w' => e = .returned (.int .i64 zs.sum) ∧ w = w' := by
 rcases h with rfl | ⟨g, o, rfl, hc⟩
 ·go_enter Tryz.func118, Tryz.ntmps118
  go_wp2
  go_rounds 1
  go_ret; exact ⟨rfl, rfl⟩
 ·have HB := Lib.hid (sum_bd zs hz)
  have HC := Lib.hid hc; have HZ := Lib.hid hz; clear hc hz; go_enter Tryz.func118, Tryz.ntmps118
  go_wp2
  go_loop [3, 8] (fun s i => ∃ k : Nat, k ≤ zs.length ∧ i = .int .i64 k ∧ s = .int .i64 (zs.take k).sum) (fun _ i => zs.length - (intOf i).toNat)
  case atStart => exact ⟨0, Nat.zero_le _, rfl, rfl⟩
  case round =>
   obtain ⟨k, hk, rfl, rfl⟩ := hrel; obtain ⟨b0, b1⟩ := HB.out k hk
   by_cases hlt : k < zs.length
   ·have hc := HC.out k hlt
    have ht := take_sum zs k hlt; obtain ⟨z0, z1⟩ := HZ.out _ (jj7 hlt); generalize zs.getD k 0 = z at hc ht z0 z1; have HT := Lib.hid ht; clear ht
    go_wp2
    go_round
    case rel => exact ⟨k + 1, by omega, by go_num, by rw [HT.out]⟩
    case measure => simp [intOf]; omega
   ·go_wp2
    go_ret; exact ⟨jx6 (by rw [List.take_of_length_le (by omega)]), rfl⟩
def allB (zs : List Int) (most : Int) : Bool := zs.all fun z => decide (0 ≤ z) && decide (z ≤ most)
theorem allB_iff (zs : List Int) (most : Int) : allB zs most = true ↔ ∀ z ∈ zs, 0 ≤ z ∧ z ≤ most := by unfold allB; simp
theorem allB_no {zs : List Int} {most : Int} {k : Nat} (h : k < zs.length) (hz : zs.getD k 0 < 0 ∨ most < zs.getD k 0) : allB zs most = false := by
 rw [Bool.eq_false_iff]; intro h2; rw [allB_iff] at h2; have := h2 _ (jj7 h); omega
theorem allB_yes {zs : List Int} {most : Int} (h : ∀ i, i < zs.length → 0 ≤ zs.getD i 0 ∧ zs.getD i 0 ≤ most) : allB zs most = true := by
 rw [allB_iff]; intro z hz; obtain ⟨i, hi, rfl⟩ := List.getElem_of_mem hz; have := h i hi
 rwa [List.getD_eq_getElem?_getD, List.getElem?_eq_getElem hi, Option.getD_some] at this
theorem jj6 (n m : Int) (w : World) (a : 0 ≤ n) (b : n ≤ m) :
  Calls Tryz.prog 50 #[.int .i64 n, .int .i64 m] w fun e w' => e = .returned (.bool true) ∧ w = w' := by
 go_enter Tryz.func50, Tryz.ntmps50
 go_wp2
 go_ret; exact ⟨rfl, rfl⟩
theorem iwithin_no (n m : Int) (w : World) (a : n < 0 ∨ m < n) :
  Calls Tryz.prog 50 #[.int .i64 n, .int .i64 m] w fun e w' => e = .returned (.bool false) ∧ w = w' := by
 by_cases b : n < 0
 ·go_enter Tryz.func50, Tryz.ntmps50
  go_wp2
  go_ret; exact ⟨rfl, rfl⟩
 ·have c : m < n := by omega
  have hd : decide (n ≤ m) = false := by simp; omega
  clear a; go_enter Tryz.func50, Tryz.ntmps50
  go_wp2
  go_ret; exact ⟨rfl, rfl⟩
theorem iall (a : Option Addr) (cap : Nat) (zs : List Int) (most : Int) (w : World) (h : jqc w a zs) (hn : zs.length ≤ 1048576) :
  Calls Tryz.prog 176 #[.slice a zs.length cap, .int .i64 most] w fun e w' => e = .returned (.bool (allB zs most)) ∧ w = w' := by
 rcases h with rfl | ⟨g, o, rfl, hc⟩
 ·go_enter Tryz.func176, Tryz.ntmps176
  go_wp2
  go_rounds 1
  go_ret; exact ⟨rfl, rfl⟩
 ·have HC := Lib.hid hc
  clear hc; go_enter Tryz.func176, Tryz.ntmps176
  go_wp2
  go_loop [9] (fun i => ∃ k : Nat, k ≤ zs.length ∧ i = .int .i64 k ∧ Hid (∀ j, j < k → 0 ≤ zs.getD j 0 ∧ zs.getD j 0 ≤ most)) (fun i => zs.length - (intOf i).toNat)
  case atStart => exact ⟨0, Nat.zero_le _, rfl, fun j hj => by omega⟩
  case round =>
   obtain ⟨k, hk, rfl, HA⟩ := hrel
   by_cases hlt : k < zs.length
   ·have hc := HC.out k hlt
    have hno := allB_no (most := most) hlt
    have hyes : 0 ≤ zs.getD k 0 → zs.getD k 0 ≤ most → ∀ j, j < k + 1 → 0 ≤ zs.getD j 0 ∧ zs.getD j 0 ≤ most := fun h0 h1 j hj => by
     by_cases hjk : j = k
     ·subst hjk; exact ⟨h0, h1⟩
     ·exact HA.out j (by omega)
    generalize zs.getD k 0 = z at hc hno hyes; have HN := Lib.hid hno; have HY := Lib.hid hyes; clear hno hyes
    by_cases zb : z < 0 ∨ most < z
    ·go_wp2_with fail
     refine (iwithin_no z most _ zb).mono ?_; rintro e w' ⟨rfl, rfl⟩; go_wp2_with fail; go_ret; exact ⟨jq4 (HN.out zb).symm, rfl⟩
    ·go_wp2_with fail
     refine (jj6 z most _ (by omega) (by omega)).mono ?_; rintro e w' ⟨rfl, rfl⟩; go_wp2_with fail
     go_round
     case rel => exact ⟨k + 1, by omega, by go_num, HY.out (by omega) (by omega)⟩
     case measure => simp [intOf]; omega
   ·go_wp2
    go_ret; exact ⟨jq4 (allB_yes (fun j hj => HA.out j (by omega))).symm, rfl⟩
theorem jqb {B : Nat} {a w : World} (h : Below B a w) (n : Nat) : Below B a (w.drewN n) := ⟨h.os, h.tape, h.output, h.size, h.block⟩
theorem jj4 : (Tryz.prog.info? 3).map (fun i => (i.zero, i.size, i.bytes)) = some (some (.int .i64 0), 1, 8) := by kernel_rfl
def Row (w : World) (g : Nat) (zs : List Int) : Prop := w.rowIs g 3 zs.length (fun i => .int .i64 (zs.getD i 0))
theorem row_ints {w : World} {g : Nat} {zs : List Int} (h : Row w g zs) : jqc w (some ⟨g, 0, none⟩) zs := .inr ⟨g, 0, rfl, fun i hi => by
 have := World.rowIs.cell h hi
 simpa using this⟩
theorem row_keep {w w' : World} {g : Nat} {zs : List Int} (h : Row w g zs) (hB : Below w.heap.size w w') : Row w' g zs := World.rowIs.of_block h (hB.block g (World.rowIs.lt h))
theorem jqf {w w' : World} {a : Option Addr} {zs : List Int} (h : jqc w a zs) (hB : Below w.heap.size w w') : jqc w' a zs := by
 rcases h with h | ⟨g, o, ha, hc⟩
 ·exact .inl h
 ·exact .inr ⟨g, o, ha, fun i hi => (hB.cell (p := ⟨g, o + i, none⟩) (World.block_lt_of_cell? w _ (hc i hi))).trans (hc i hi)⟩
section
namespace Wsh
def vfB (n d : Int) : Bool := decide (1 ≤ d) && decide (d ≤ 10000) && decide (0 ≤ n) && decide (n ≤ d) && decide (Int.gcd n d = 1)
theorem vfB_iff (n d : Int) : vfB n d = true ↔ (1 ≤ d ∧ d ≤ 10000 ∧ 0 ≤ n ∧ n ≤ d ∧ Int.gcd n d = 1) := by
 unfold vfB; simp [and_assoc]
def rn (n d : Int) : Int := n / (Int.gcd n d : Int)
def rd (n d : Int) : Int := d / (Int.gcd n d : Int)
def redB (n d : Int) : Bool := decide (0 ≤ n) && decide (n ≤ d) && decide (rd n d ≤ 10000)
theorem gcd_step (a b : Int) (ha : 0 ≤ a) (hb : 0 < b) : Int.gcd b (a % b) = Int.gcd a b := by
 rw [Int.gcd_comm a b]; obtain ⟨n, rfl⟩ := Int.eq_ofNat_of_zero_le ha; obtain ⟨m, rfl⟩ := Int.eq_ofNat_of_zero_le (Int.le_of_lt hb); rw [← Int.natCast_emod]; simp only [Int.gcd_natCast_natCast]; rw [Nat.gcd_comm m n, Nat.gcd_comm m (n % m), ← Nat.gcd_rec, Nat.gcd_comm]
theorem gcd_pos (n d : Int) (hd : 0 < d) : 0 < (Int.gcd n d : Int) := by
 have : Int.gcd n d ≠ 0 := by
  intro h; have := Int.gcd_eq_zero_iff.1 h
  omega
 omega
theorem rn_mul (n d : Int) : rn n d * (Int.gcd n d : Int) = n := Int.ediv_mul_cancel (Int.gcd_dvd_left ..)
theorem rd_mul (n d : Int) : rd n d * (Int.gcd n d : Int) = d := Int.ediv_mul_cancel (Int.gcd_dvd_right ..)
theorem rd_pos (n d : Int) (hd : 0 < d) : 0 < rd n d := by
 have h := rd_mul n d; have hg := gcd_pos n d hd
 apply Int.pos_of_mul_pos_left _ hg
 rw [h]; exact hd
theorem gcd_red (n d : Int) (hd : 0 < d) : Int.gcd (rn n d) (rd n d) = 1 := by
 unfold rn rd; exact Int.gcd_ediv_gcd_ediv_gcd (by have := gcd_pos n d hd; omega)
theorem red_valid (n d : Int) (hd : 0 < d) (h : redB n d = true) : vfB (rn n d) (rd n d) = true := by
 unfold redB at h; simp only [Bool.and_eq_true, decide_eq_true_eq] at h; obtain ⟨⟨h1, h2⟩, h3⟩ := h; have hg := gcd_pos n d hd; have hp := rd_pos n d hd; rw [vfB_iff]; refine ⟨by omega, h3, ?_, ?_, gcd_red n d hd⟩
 ·exact Int.ediv_nonneg h1 (by omega)
 ·exact Int.ediv_le_ediv hg h2
theorem red_self (n d : Int) (h : vfB n d = true) : rn n d = n ∧ rd n d = d ∧ redB n d = true := by
 rw [vfB_iff] at h; obtain ⟨h1, h2, h3, h4, h5⟩ := h
 have e1 : rn n d = n := by unfold rn; rw [h5]; simp
 have e2 : rd n d = d := by unfold rd; rw [h5]; simp
 refine ⟨e1, e2, ?_⟩; unfold redB; rw [e2]
 simp [h2, h3, h4]
theorem mul_bd {x y : Int} (hx : 0 ≤ x) (hx' : x ≤ 10000) (hy : 0 ≤ y) (hy' : y ≤ 10000) : 0 ≤ x * y ∧ x * y ≤ 100000000 :=
 ⟨Int.mul_nonneg hx hy, Int.le_trans (Int.mul_le_mul hx' hy' hy (by omega)) (by decide)⟩
theorem mul_pos1 {x y : Int} (hx : 1 ≤ x) (hy : 1 ≤ y) : 1 ≤ x * y := Int.mul_pos (by omega) (by omega)
theorem parts (n f d : Int) (hd : 0 < d) : n * f / d + n * (d - f) / d ≤ n ∧ n - 1 ≤ n * f / d + n * (d - f) / d ∧ (n * f / d + n * (d - f) / d = n ↔ n * f % d = 0) := by
 have e : n * (d - f) = n * d - n * f := Int.mul_sub ..; rw [e]; generalize n * f = x; have h1 := Int.mul_ediv_add_emod x d; have h2 := Int.mul_ediv_add_emod (n * d - x) d; have b1 := Int.emod_nonneg x (show d ≠ 0 by omega); have b2 := Int.emod_lt_of_pos x hd; have c1 := Int.emod_nonneg (n * d - x) (show d ≠ 0 by omega); have c2 := Int.emod_lt_of_pos (n * d - x) hd; generalize x / d = q at *; generalize (n * d - x) / d = p at *; generalize x % d = r at *; generalize (n * d - x) % d = s at *
 have h3 : d * (n - q - p) = r + s := by grind
 have l1 : 0 ≤ n - q - p := by
  apply Int.nonneg_of_mul_nonneg_right (b := n - q - p) (a := d) _ hd
  omega
 have l2 : n - q - p < 2 := by
  apply Int.lt_of_mul_lt_mul_left (a := d) _ (by omega)
  omega
 refine ⟨by omega, by omega, ?_, ?_⟩
 ·intro h
  have : n - q - p = 0 := by omega
  rw [this] at h3
  omega
 ·intro h
  have : n - q - p = 0 := by
   by_cases hz : n - q - p = 1
   ·rw [hz] at h3; omega
   ·omega
  omega
def qn (b : Bool) (x : Int) : Int := if b then x else 0
theorem qn_true (x : Int) : qn true x = x := rfl
theorem qn_false (x : Int) : qn false x = 0 := rfl
theorem redB_no {n d : Int} (h : ¬ (0 ≤ n ∧ n ≤ d)) : redB n d = false := by
 unfold redB; rw [Bool.eq_false_iff]; intro k; simp at k; omega
theorem redB_den {n d : Int} (h : 0 ≤ n ∧ n ≤ d) : redB n d = decide (rd n d ≤ 10000) := by
 unfold redB; simp [h.1, h.2]
theorem rd_le (n d : Int) (hd : 0 < d) : rd n d ≤ d := Int.ediv_le_self _ (by omega)
theorem rn_le (n d : Int) (hn : 0 ≤ n) : 0 ≤ rn n d ∧ rn n d ≤ n := ⟨Int.ediv_nonneg hn (by omega), Int.ediv_le_self _ hn⟩
theorem rn_bd (n d : Int) (hn : 0 ≤ n) (hnd : n ≤ d) (hd : 0 < d) : 0 ≤ rn n d ∧ rn n d ≤ rd n d :=
 ⟨(rn_le n d hn).1, Int.ediv_le_ediv (gcd_pos n d hd) hnd⟩
theorem vfB_red (n d : Int) (hn : 0 ≤ n) (hd : 0 < d) : vfB (rn n d) (rd n d) = redB n d := by
  cases h : redB n d with
  | true => exact red_valid n d hd h
  | false =>
    rw [Bool.eq_false_iff]; intro k; have kk := (vfB_iff _ _).1 k; have hg := gcd_pos n d hd; have h1 := rn_mul n d; have h2 := rd_mul n d
    have : n ≤ d := by
      have h3 := Int.mul_le_mul_of_nonneg_right kk.2.2.2.1 (Int.le_of_lt hg); rw [h1, h2] at h3; exact h3
    rw [redB_den ⟨hn, this⟩] at h
    simp at h
    omega
def cmpI (x y : Int) : Int := if x < y then -1 else if y < x then 1 else 0
theorem cmpI_lt {x y : Int} (h : x < y) : cmpI x y = -1 := by unfold cmpI; rw [if_pos h]
theorem cmpI_gt {x y : Int} (h : y < x) : cmpI x y = 1 := by unfold cmpI; rw [if_neg (by omega), if_pos h]
theorem cmpI_eq {x y : Int} (h : x = y) : cmpI x y = 0 := by unfold cmpI; rw [if_neg (by omega), if_neg (by omega)]
theorem cmpI_nlt {x y : Int} (h : ¬ x < y) : (cmpI x y < 0) = False := by
 rw [eq_iff_iff, iff_false]; unfold cmpI; rw [if_neg h]
 split <;> omega
theorem qn_bd {x K : Int} (b : Bool) (h0 : 0 ≤ x) (h1 : x ≤ K) : 0 ≤ qn b x ∧ qn b x ≤ K := by
 unfold qn; split <;> omega
theorem red_bd {u d : Int} (b : Bool) (hu : 0 ≤ u) (hud : u ≤ d) (hd : 1 ≤ d) (hd' : d ≤ 1000000) : (0 ≤ qn b (rn u d) ∧ qn b (rn u d) ≤ 1000000) ∧ (0 ≤ qn b (rd u d) ∧ qn b (rd u d) ≤ 1000000) := by
 have h1 := rn_le u d hu; have h2 := rd_le u d (by omega); have h3 := rd_pos u d (by omega); exact ⟨qn_bd b (by omega) (by omega), qn_bd b (by omega) (by omega)⟩
end Wsh
end
theorem sgcd (a b : Int) (w : World) (ha : 0 ≤ a) (ha' : a ≤ 1000000000) (hb : 0 ≤ b) (hb' : b ≤ 1000000000) :
  Calls Tryz.prog 172 #[.int .i64 a, .int .i64 b] w fun e w' => e = .returned (.int .i64 (Int.gcd a b)) ∧ w = w' := by
 go_enter Tryz.func172, Tryz.ntmps172
 go_wp2
 go_loop [0, 1, 5] (fun x y z => ∃ n m : Int, 0 ≤ n ∧ n ≤ 1000000000 ∧ 0 ≤ m ∧ m ≤ 1000000000 ∧ x = .int .i64 n ∧ y = .int .i64 m ∧ Hid (Int.gcd n m = Int.gcd a b)) (fun _ y _ => (intOf y).toNat)
 case atStart => exact ⟨a, b, ha, ha', hb, hb', rfl, rfl, rfl⟩
 case round =>
  obtain ⟨n, m, hn, hn', hm, hm', rfl, rfl, hg⟩ := hrel
  by_cases h0 : m = 0
  ·have hz : (m != 0) = false := by simp [h0]
   have H := Lib.hid h0; clear h0
   go_wp2
   go_ret; have h1 := H.out; exact ⟨jx6 (by have := hg.out; rw [h1] at this; simp at this; omega), rfl⟩
  ·have hz : (m != 0) = true := by simp [h0]
   have hm1 : 1 ≤ m := by omega
   have hr0 := Int.emod_nonneg n h0; have hr1 := Int.emod_lt_of_pos n (show 0 < m by omega); clear h0
   go_wp2
   go_round
   case rel => exact ⟨m, n % m, by omega, by omega, hr0, by omega, rfl, rfl, by rw [Wsh.gcd_step n m hn (by omega)]; exact hg.out⟩
   case measure => simp [intOf]; omega
theorem igcd (a b : Int) (w : World) (ha : 0 ≤ a) (ha' : a ≤ 1000000000) (hb : 0 ≤ b) (hb' : b ≤ 1000000000) :
    Calls Tryz.prog 190 #[.int .i64 a, .int .i64 b] w fun e w' => e = .returned (.int .i64 (Int.gcd a b)) ∧ w = w' := by
  go_enter Tryz.func190, Tryz.ntmps190
  go_wp2
  go_loop [0, 1] (fun x y => ∃ n m : Int, 0 ≤ n ∧ n ≤ 1000000000 ∧ 0 ≤ m ∧ m ≤ 1000000000 ∧ x = .int .i64 n ∧ y = .int .i64 m ∧ Hid (Int.gcd n m = Int.gcd a b)) (fun x _ => (intOf x).toNat)
  case atStart => exact ⟨a, b, ha, ha', hb, hb', rfl, rfl, rfl⟩
  case round =>
    obtain ⟨n, m, hn, hn', hm, hm', rfl, rfl, hg⟩ := hrel
    by_cases h0 : 0 < n
    · have hr0 := Int.emod_nonneg m (show n ≠ 0 by omega)
      have hr1 := Int.emod_lt_of_pos m h0
      go_wp2
      go_round
      case rel => exact ⟨m % n, n, hr0, by omega, by omega, by omega, rfl, rfl, by rw [Int.gcd_comm, Wsh.gcd_step m n hm h0, Int.gcd_comm]; exact hg.out⟩
      case measure => simp [intOf]; omega
    · go_wp2
      go_ret
      exact ⟨jx6 (by have h1 : n = 0 := by omega
                     have := hg.out; rw [h1] at this; simp at this; omega), rfl⟩
theorem vf_no {n d : Int} (h : ¬ (1 ≤ d ∧ d ≤ 10000 ∧ 0 ≤ n ∧ n ≤ d)) : Wsh.vfB n d = false := by
 rw [Bool.eq_false_iff]; intro k; rw [Wsh.vfB_iff] at k; exact h ⟨k.1, k.2.1, k.2.2.1, k.2.2.2.1⟩
theorem vf_gcd {n d : Int} (h : 1 ≤ d ∧ d ≤ 10000 ∧ 0 ≤ n ∧ n ≤ d) : ((Int.gcd n d : Int) == 1) = Wsh.vfB n d := by
 rw [Bool.eq_iff_iff, Wsh.vfB_iff]; simp; omega
theorem iValid (n d : Int) (w : World) :
  Calls Tryz.prog 157 #[.agg #[.int .i64 n, .int .i64 d]] w fun e w' => e = .returned (.bool (Wsh.vfB n d)) ∧ Below w.heap.size w w' := by
 by_cases h1 : d < 1
 ·go_enter Tryz.func157, Tryz.ntmps157
  go_wp2
  go_ret; exact ⟨jq4 (vf_no (by omega)).symm, by go_grown⟩
 ·by_cases h2 : 10000 < d
  ·go_enter Tryz.func157, Tryz.ntmps157
   go_wp2
   go_ret; exact ⟨jq4 (vf_no (by omega)).symm, by go_grown⟩
  ·by_cases h3 : n < 0
   ·go_enter Tryz.func157, Tryz.ntmps157
    go_wp2
    go_ret; exact ⟨jq4 (vf_no (by omega)).symm, by go_grown⟩
   ·by_cases h4 : d < n
    ·go_enter Tryz.func157, Tryz.ntmps157
     go_wp2
     go_ret; exact ⟨jq4 (vf_no (by omega)).symm, by go_grown⟩
    ·have hv := vf_gcd (n := n) (d := d) (by omega)
     have HV := Lib.hid hv; clear hv; go_enter Tryz.func157, Tryz.ntmps157; go_wp2_with fail; refine (igcd n d _ (by omega) (by omega) (by omega) (by omega)).mono ?_; rintro e w' ⟨rfl, rfl⟩; go_wp2_with fail; go_ret; exact ⟨jq4 HV.out, by go_grown⟩
theorem svalid (n d : Int) (w : World) :
  Calls Tryz.prog 136 #[.agg #[.int .i64 n, .int .i64 d]] w fun e w' => e = .returned (.bool (Wsh.vfB n d)) ∧ Below w.heap.size w w' := by
 by_cases h1 : d < 1 ∨ 10000 < d
 ·go_enter Tryz.func136, Tryz.ntmps136
  go_wp2_with fail; refine (jzf d 1 10000 _ h1).mono ?_; rintro e w' ⟨rfl, rfl⟩; go_wp2_with fail; go_ret; exact ⟨jq4 (vf_no (by omega)).symm, by go_grown⟩
 ·by_cases h2 : n < 0 ∨ d < n
  ·go_enter Tryz.func136, Tryz.ntmps136
   go_wp2_with fail; refine (jz0 d 1 10000 _ (by omega) (by omega)).mono ?_; rintro e w' ⟨rfl, rfl⟩; go_wp2_with fail; refine (jzf n 0 d _ h2).mono ?_; rintro e w' ⟨rfl, rfl⟩; go_wp2_with fail; go_ret; exact ⟨jq4 (vf_no (by omega)).symm, by go_grown⟩
  ·have hv := vf_gcd (n := n) (d := d) (by omega)
   have HV := Lib.hid hv; clear hv; go_enter Tryz.func136, Tryz.ntmps136; go_wp2_with fail; refine (jz0 d 1 10000 _ (by omega) (by omega)).mono ?_; rintro e w' ⟨rfl, rfl⟩; go_wp2_with fail; refine (jz0 n 0 d _ (by omega) (by omega)).mono ?_; rintro e w' ⟨rfl, rfl⟩; go_wp2_with fail; refine (sgcd n d _ (by omega) (by omega) (by omega) (by omega)).mono ?_; rintro e w' ⟨rfl, rfl⟩; go_wp2_with fail; go_ret; exact ⟨jq4 HV.out, by go_grown⟩
abbrev frV (b : Bool) (x y : Int) : Value := .tuple #[.agg #[.int .i64 (Wsh.qn b x), .int .i64 (Wsh.qn b y)], .bool b]
theorem ret_frV {b : Bool} {n d x y x' y' : Int} (hb : Wsh.redB n d = b) (hx : x' = Wsh.qn b x) (hy : y' = Wsh.qn b y) :
  Ending.returned (.tuple #[.agg #[.int .i64 x', .int .i64 y'], .bool b]) = .returned (frV (Wsh.redB n d) x y) := by rw [hb, hx, hy]
theorem swal {n d : Int} {b : Bool} (h : Wsh.redB n d = b) (hn : 0 ≤ n) (hd : 0 < d) : Wsh.vfB (n / (Int.gcd n d : Int)) (d / (Int.gcd n d : Int)) = b := by
 have := Wsh.vfB_red n d hn hd; unfold Wsh.rn Wsh.rd at this; rw [this]; exact h
theorem sred (n d : Int) (w : World) (hn : 0 ≤ n) (hn' : n ≤ 1000000000) (hd : 1 ≤ d) (hd' : d ≤ 100000000) :
    Calls Tryz.prog 141 #[.int .i64 n, .int .i64 d] w fun e w' => e = .returned (frV (Wsh.redB n d) (Wsh.rn n d) (Wsh.rd n d)) ∧ Below w.heap.size w w' := by
  have hg := Wsh.gcd_pos n d (by omega); obtain ⟨b0, b1⟩ := Wsh.rn_le n d (by omega); have b2 := Wsh.rd_le n d (by omega); have b3 := Wsh.rd_pos n d (by omega); unfold Wsh.rn at b0 b1; unfold Wsh.rd at b2 b3
  have hg0 : ((Int.gcd n d : Int) == 0) = false := by simp; omega
  cases hr : Wsh.redB n d with
  | false =>
    have hv := swal hr hn (by omega); clear hr; go_enter Tryz.func141, Tryz.ntmps141; go_wp2_with fail; refine (sgcd n d _ (by omega) (by omega) (by omega) (by omega)).mono ?_; rintro e w' ⟨rfl, rfl⟩; go_wp2_with fail
    go_region
    all_goals
      go_wp2_with fail; refine (svalid _ _ _).mono ?_; rintro e w1 ⟨rfl, hb⟩; obtain ⟨hc, hf⟩ := bcell hb; have hB : Below w.heap.size w w1 := jq1 (by go_grown) hb; have c0 := hc w.heap.size 0 (by simp; omega); have c1 := hc w.heap.size 1 (by simp; omega); have c2 := hc (w.heap.size + 1) 0 (by simp); have c3 := hc (w.heap.size + 1) 1 (by simp); have f0 := hf w.heap.size 0 (by simp; omega); have f1 := hf w.heap.size 1 (by simp; omega)
      simp [go_sem] at c0 c1 c2 c3 f0 f1
      clear hc hf hb; go_wp2_with fail; refine bodyPost_ret (v := .tuple #[.agg #[.int .i64 0, .int .i64 0], .bool false]) (by simp [results, Tryz.results141, go_sem, c0, c1]) rfl ⟨rfl, by go_grown⟩
  | true =>
    have hv := swal hr hn (by omega); clear hr; go_enter Tryz.func141, Tryz.ntmps141; go_wp2_with fail; refine (sgcd n d _ (by omega) (by omega) (by omega) (by omega)).mono ?_; rintro e w' ⟨rfl, rfl⟩; go_wp2_with fail
    go_region
    all_goals
      go_wp2_with fail; refine (svalid _ _ _).mono ?_; rintro e w1 ⟨rfl, hb⟩; obtain ⟨hc, hf⟩ := bcell hb; have hB : Below w.heap.size w w1 := jq1 (by go_grown) hb; have c0 := hc w.heap.size 0 (by simp; omega); have c1 := hc w.heap.size 1 (by simp; omega); have c2 := hc (w.heap.size + 1) 0 (by simp); have c3 := hc (w.heap.size + 1) 1 (by simp); have f0 := hf w.heap.size 0 (by simp; omega); have f1 := hf w.heap.size 1 (by simp; omega)
      simp [go_sem] at c0 c1 c2 c3 f0 f1
      clear hc hf hb; go_wp2_with fail; refine bodyPost_ret (v := .tuple #[.agg #[.int .i64 (n / (Int.gcd n d : Int)), .int .i64 (d / (Int.gcd n d : Int))], .bool true]) (by simp [results, Tryz.results141, go_sem, c0, c1]) rfl ⟨rfl, by go_grown⟩
theorem ired (n d : Int) (w : World) (hd : 1 ≤ d) (hd' : d ≤ 100000000) :
  Calls Tryz.prog 158 #[.int .i64 n, .int .i64 d] w fun e w' => e = .returned (frV (Wsh.redB n d) (Wsh.rn n d) (Wsh.rd n d)) ∧ Below w.heap.size w w' := by
 by_cases h1 : n < 0
 ·go_enter Tryz.func158, Tryz.ntmps158
  go_wp2
  go_returns
  exact ⟨ret_frV (Wsh.redB_no (by omega)) rfl rfl, by go_grown⟩
 ·by_cases h2 : d < n
  ·go_enter Tryz.func158, Tryz.ntmps158
   go_wp2
   go_returns
   exact ⟨ret_frV (Wsh.redB_no (by omega)) rfl rfl, by go_grown⟩
  ·have hg := Wsh.gcd_pos n d (by omega)
   have hq := Wsh.redB_den (n := n) (d := d) (by omega); have HQ := Lib.hid hq; clear hq; obtain ⟨b0, b1⟩ := Wsh.rn_bd n d (by omega) (by omega) (by omega); have b2 := Wsh.rd_le n d (by omega); have b3 := Wsh.rd_pos n d (by omega); unfold Wsh.rn at b0 b1; unfold Wsh.rd at b1 b2 b3
   have hg0 : ((Int.gcd n d : Int) == 0) = false := by simp; omega
   by_cases h3 : 10000 < d / (Int.gcd n d : Int)
   ·go_enter Tryz.func158, Tryz.ntmps158
    go_wp2_with fail; refine (igcd n d _ (by omega) (by omega) (by omega) (by omega)).mono ?_; rintro e w' ⟨rfl, rfl⟩; go_wp2_with fail
    go_region
    all_goals
     go_wp2
     go_returns
     exact ⟨ret_frV (by rw [HQ.out]; unfold Wsh.rd; simp; omega) rfl rfl, by go_grown⟩
   ·go_enter Tryz.func158, Tryz.ntmps158
    go_wp2_with fail; refine (igcd n d _ (by omega) (by omega) (by omega) (by omega)).mono ?_; rintro e w' ⟨rfl, rfl⟩; go_wp2_with fail
    go_region
    all_goals
     go_wp2
     go_returns
     exact ⟨ret_frV (by rw [HQ.out]; unfold Wsh.rd; simp; omega) rfl rfl, by go_grown⟩
theorem fr_no1 {va vb r : Bool} {x y : Int} (h : va = false) : Ending.returned (.tuple #[.agg #[.int .i64 0, .int .i64 0], .bool false]) = .returned (frV (va && vb && r) x y) := by rw [h]; rfl
theorem fr_no2 {va vb r : Bool} {x y : Int} (h : vb = false) : Ending.returned (.tuple #[.agg #[.int .i64 0, .int .i64 0], .bool false]) = .returned (frV (va && vb && r) x y) := by rw [h]; cases va <;> rfl
theorem fr_yes {va vb r : Bool} {x y : Int} (ha : va = true) (hb : vb = true) : Ending.returned (frV r x y) = .returned (frV (va && vb && r) x y) := by rw [ha, hb]; rfl
theorem bounds {an ad bn bd : Int} (ha : Wsh.vfB an ad = true) (hb : Wsh.vfB bn bd = true) :
  (0 ≤ an * bd ∧ an * bd ≤ 100000000) ∧ (0 ≤ bn * ad ∧ bn * ad ≤ 100000000) ∧ (1 ≤ ad * bd ∧ ad * bd ≤ 100000000) ∧ (0 ≤ an * bn ∧ an * bn ≤ 100000000) := by
 have ka := (Wsh.vfB_iff _ _).1 ha; have kb := (Wsh.vfB_iff _ _).1 hb; exact ⟨Wsh.mul_bd (by omega) (by omega) (by omega) (by omega), Wsh.mul_bd (by omega) (by omega) (by omega) (by omega), ⟨Wsh.mul_pos1 (by omega) (by omega), (Wsh.mul_bd (by omega) (by omega) (by omega) (by omega)).2⟩, Wsh.mul_bd (by omega) (by omega) (by omega) (by omega)⟩
theorem iAdd (an ad bn bd : Int) (w : World) :
    Calls Tryz.prog 110 #[.agg #[.int .i64 an, .int .i64 ad], .agg #[.int .i64 bn, .int .i64 bd]] w fun e w' => e = .returned (frV (Wsh.vfB an ad && Wsh.vfB bn bd && Wsh.redB (an * bd + bn * ad) (ad * bd)) (Wsh.rn (an * bd + bn * ad) (ad * bd)) (Wsh.rd (an * bd + bn * ad) (ad * bd))) ∧ Below w.heap.size w w' := by
  cases ha : Wsh.vfB an ad with
  | false =>
    go_enter Tryz.func110, Tryz.ntmps110; go_wp2_with fail; refine (iValid an ad _).mono ?_; rintro e w1 ⟨rfl, hb⟩; have hB : Below w.heap.size w w1 := jq1 (by go_grown) hb; obtain ⟨hc, hf⟩ := bcell hb; have c0 := hc (w.heap.size) 0 (by simp <;> omega); have c1 := hc (w.heap.size) 1 (by simp <;> omega); have c2 := hc (w.heap.size + 1) 0 (by simp <;> omega); have c3 := hc (w.heap.size + 1) 1 (by simp <;> omega); have c4 := hc (w.heap.size + 2) 0 (by simp <;> omega); have c5 := hc (w.heap.size + 2) 1 (by simp <;> omega); have f0 := hf (w.heap.size + 2) 0 (by simp <;> omega); have f1 := hf (w.heap.size + 2) 1 (by simp <;> omega)
    simp [go_sem] at c0 c1 c2 c3 c4 c5 f0 f1
    clear hc hf hb; go_wp2_with fail; refine bodyPost_ret (v := .tuple #[.agg #[.int .i64 0, .int .i64 0], .bool false]) (by simp [results, Tryz.results110, go_sem, c4, c5]) rfl ⟨fr_no1 rfl, by go_grown⟩
  | true =>
    cases hb0 : Wsh.vfB bn bd with
    | false =>
      go_enter Tryz.func110, Tryz.ntmps110; go_wp2_with fail; refine (iValid an ad _).mono ?_; rintro e w1 ⟨rfl, hb⟩; have hB : Below w.heap.size w w1 := jq1 (by go_grown) hb; have hz := hb.size
      simp at hz
      obtain ⟨hc, hf⟩ := bcell hb; have c0 := hc (w.heap.size) 0 (by simp <;> omega); have c1 := hc (w.heap.size) 1 (by simp <;> omega); have c2 := hc (w.heap.size + 1) 0 (by simp <;> omega); have c3 := hc (w.heap.size + 1) 1 (by simp <;> omega); have c4 := hc (w.heap.size + 2) 0 (by simp <;> omega); have c5 := hc (w.heap.size + 2) 1 (by simp <;> omega); have f0 := hf (w.heap.size + 2) 0 (by simp <;> omega); have f1 := hf (w.heap.size + 2) 1 (by simp <;> omega)
      simp [go_sem] at c0 c1 c2 c3 c4 c5 f0 f1
      clear hc hf hb; go_wp2_with fail; refine (iValid bn bd _).mono ?_; rintro e w2 ⟨rfl, hb⟩; have hB2 : Below w.heap.size w w2 := jq1 hB hb; obtain ⟨hc, hf⟩ := bcell hb; have d0 := (hc (w.heap.size) 0 (by omega)).trans c0; have d1 := (hc (w.heap.size) 1 (by omega)).trans c1; have d2 := (hc (w.heap.size + 1) 0 (by omega)).trans c2; have d3 := (hc (w.heap.size + 1) 1 (by omega)).trans c3; have d4 := (hc (w.heap.size + 2) 0 (by omega)).trans c4; have d5 := (hc (w.heap.size + 2) 1 (by omega)).trans c5; have g0 := (hf (w.heap.size + 2) 0 (by omega)).trans f0; have g1 := (hf (w.heap.size + 2) 1 (by omega)).trans f1; clear hc hf hb; go_wp2_with fail; refine bodyPost_ret (v := .tuple #[.agg #[.int .i64 0, .int .i64 0], .bool false]) (by simp [results, Tryz.results110, go_sem, d4, d5]) rfl ⟨fr_no2 rfl, by go_grown⟩
    | true =>
      obtain ⟨⟨p1, p2⟩, ⟨p3, p4⟩, ⟨p5, p6⟩, p7, p8⟩ := bounds ha hb0; go_enter Tryz.func110, Tryz.ntmps110; go_wp2_with fail; refine (iValid an ad _).mono ?_; rintro e w1 ⟨rfl, hb⟩; have hB : Below w.heap.size w w1 := jq1 (by go_grown) hb; have hz := hb.size
      simp at hz
      obtain ⟨hc, hf⟩ := bcell hb; have c0 := hc (w.heap.size) 0 (by simp <;> omega); have c1 := hc (w.heap.size) 1 (by simp <;> omega); have c2 := hc (w.heap.size + 1) 0 (by simp <;> omega); have c3 := hc (w.heap.size + 1) 1 (by simp <;> omega); have c4 := hc (w.heap.size + 2) 0 (by simp <;> omega); have c5 := hc (w.heap.size + 2) 1 (by simp <;> omega); have f0 := hf (w.heap.size + 2) 0 (by simp <;> omega); have f1 := hf (w.heap.size + 2) 1 (by simp <;> omega)
      simp [go_sem] at c0 c1 c2 c3 c4 c5 f0 f1
      clear hc hf hb; go_wp2_with fail; refine (iValid bn bd _).mono ?_; rintro e w2 ⟨rfl, hb⟩; have hB2 : Below w.heap.size w w2 := jq1 hB hb; have hz2 := hb.size; obtain ⟨hc, hf⟩ := bcell hb; have d0 := (hc (w.heap.size) 0 (by omega)).trans c0; have d1 := (hc (w.heap.size) 1 (by omega)).trans c1; have d2 := (hc (w.heap.size + 1) 0 (by omega)).trans c2; have d3 := (hc (w.heap.size + 1) 1 (by omega)).trans c3; have d4 := (hc (w.heap.size + 2) 0 (by omega)).trans c4; have d5 := (hc (w.heap.size + 2) 1 (by omega)).trans c5; have g0 := (hf (w.heap.size + 2) 0 (by omega)).trans f0; have g1 := (hf (w.heap.size + 2) 1 (by omega)).trans f1; clear hc hf hb; clear c0 c1 c2 c3 c4 c5 f0 f1; go_wp2_with fail; refine (ired (an * bd + bn * ad) (ad * bd) _ (by omega) (by omega)).mono ?_; rintro e w3 ⟨rfl, hb⟩; have hB3 : Below w.heap.size w w3 := jq1 hB2 hb; obtain ⟨hc, hf⟩ := bcell hb; have c4 := (hc (w.heap.size + 2) 0 (by omega)).trans d4; have c5 := (hc (w.heap.size + 2) 1 (by omega)).trans d5; have f0 := (hf (w.heap.size + 2) 0 (by omega)).trans g0; have f1 := (hf (w.heap.size + 2) 1 (by omega)).trans g1; clear hc hf hb; clear d0 d1 d2 d3 d4 d5 g0 g1; go_wp2_with fail; refine bodyPost_ret (v := .tuple #[.agg #[.int .i64 (Wsh.qn (Wsh.redB (an * bd + bn * ad) (ad * bd)) (Wsh.rn (an * bd + bn * ad) (ad * bd))), .int .i64 (Wsh.qn (Wsh.redB (an * bd + bn * ad) (ad * bd)) (Wsh.rd (an * bd + bn * ad) (ad * bd)))], .bool (Wsh.redB (an * bd + bn * ad) (ad * bd))]) (by simp [results, Tryz.results110, go_sem, c4, c5]) rfl ⟨fr_yes rfl rfl, by go_grown⟩
theorem iSub (an ad bn bd : Int) (w : World) :
    Calls Tryz.prog 192 #[.agg #[.int .i64 an, .int .i64 ad], .agg #[.int .i64 bn, .int .i64 bd]] w fun e w' => e = .returned (frV (Wsh.vfB an ad && Wsh.vfB bn bd && Wsh.redB (an * bd - bn * ad) (ad * bd)) (Wsh.rn (an * bd - bn * ad) (ad * bd)) (Wsh.rd (an * bd - bn * ad) (ad * bd))) ∧ Below w.heap.size w w' := by
  cases ha : Wsh.vfB an ad with
  | false =>
    go_enter Tryz.func192, Tryz.ntmps192; go_wp2_with fail; refine (iValid an ad _).mono ?_; rintro e w1 ⟨rfl, hb⟩; have hB : Below w.heap.size w w1 := jq1 (by go_grown) hb; obtain ⟨hc, hf⟩ := bcell hb; have c0 := hc (w.heap.size) 0 (by simp <;> omega); have c1 := hc (w.heap.size) 1 (by simp <;> omega); have c2 := hc (w.heap.size + 1) 0 (by simp <;> omega); have c3 := hc (w.heap.size + 1) 1 (by simp <;> omega); have c4 := hc (w.heap.size + 2) 0 (by simp <;> omega); have c5 := hc (w.heap.size + 2) 1 (by simp <;> omega); have f0 := hf (w.heap.size + 2) 0 (by simp <;> omega); have f1 := hf (w.heap.size + 2) 1 (by simp <;> omega)
    simp [go_sem] at c0 c1 c2 c3 c4 c5 f0 f1
    clear hc hf hb; go_wp2_with fail; refine bodyPost_ret (v := .tuple #[.agg #[.int .i64 0, .int .i64 0], .bool false]) (by simp [results, Tryz.results192, go_sem, c4, c5]) rfl ⟨fr_no1 rfl, by go_grown⟩
  | true =>
    cases hb0 : Wsh.vfB bn bd with
    | false =>
      go_enter Tryz.func192, Tryz.ntmps192; go_wp2_with fail; refine (iValid an ad _).mono ?_; rintro e w1 ⟨rfl, hb⟩; have hB : Below w.heap.size w w1 := jq1 (by go_grown) hb; have hz := hb.size
      simp at hz
      obtain ⟨hc, hf⟩ := bcell hb; have c0 := hc (w.heap.size) 0 (by simp <;> omega); have c1 := hc (w.heap.size) 1 (by simp <;> omega); have c2 := hc (w.heap.size + 1) 0 (by simp <;> omega); have c3 := hc (w.heap.size + 1) 1 (by simp <;> omega); have c4 := hc (w.heap.size + 2) 0 (by simp <;> omega); have c5 := hc (w.heap.size + 2) 1 (by simp <;> omega); have f0 := hf (w.heap.size + 2) 0 (by simp <;> omega); have f1 := hf (w.heap.size + 2) 1 (by simp <;> omega)
      simp [go_sem] at c0 c1 c2 c3 c4 c5 f0 f1
      clear hc hf hb; go_wp2_with fail; refine (iValid bn bd _).mono ?_; rintro e w2 ⟨rfl, hb⟩; have hB2 : Below w.heap.size w w2 := jq1 hB hb; obtain ⟨hc, hf⟩ := bcell hb; have d0 := (hc (w.heap.size) 0 (by omega)).trans c0; have d1 := (hc (w.heap.size) 1 (by omega)).trans c1; have d2 := (hc (w.heap.size + 1) 0 (by omega)).trans c2; have d3 := (hc (w.heap.size + 1) 1 (by omega)).trans c3; have d4 := (hc (w.heap.size + 2) 0 (by omega)).trans c4; have d5 := (hc (w.heap.size + 2) 1 (by omega)).trans c5; have g0 := (hf (w.heap.size + 2) 0 (by omega)).trans f0; have g1 := (hf (w.heap.size + 2) 1 (by omega)).trans f1; clear hc hf hb; go_wp2_with fail; refine bodyPost_ret (v := .tuple #[.agg #[.int .i64 0, .int .i64 0], .bool false]) (by simp [results, Tryz.results192, go_sem, d4, d5]) rfl ⟨fr_no2 rfl, by go_grown⟩
    | true =>
      obtain ⟨⟨p1, p2⟩, ⟨p3, p4⟩, ⟨p5, p6⟩, p7, p8⟩ := bounds ha hb0; go_enter Tryz.func192, Tryz.ntmps192; go_wp2_with fail; refine (iValid an ad _).mono ?_; rintro e w1 ⟨rfl, hb⟩; have hB : Below w.heap.size w w1 := jq1 (by go_grown) hb; have hz := hb.size
      simp at hz
      obtain ⟨hc, hf⟩ := bcell hb; have c0 := hc (w.heap.size) 0 (by simp <;> omega); have c1 := hc (w.heap.size) 1 (by simp <;> omega); have c2 := hc (w.heap.size + 1) 0 (by simp <;> omega); have c3 := hc (w.heap.size + 1) 1 (by simp <;> omega); have c4 := hc (w.heap.size + 2) 0 (by simp <;> omega); have c5 := hc (w.heap.size + 2) 1 (by simp <;> omega); have f0 := hf (w.heap.size + 2) 0 (by simp <;> omega); have f1 := hf (w.heap.size + 2) 1 (by simp <;> omega)
      simp [go_sem] at c0 c1 c2 c3 c4 c5 f0 f1
      clear hc hf hb; go_wp2_with fail; refine (iValid bn bd _).mono ?_; rintro e w2 ⟨rfl, hb⟩; have hB2 : Below w.heap.size w w2 := jq1 hB hb; have hz2 := hb.size; obtain ⟨hc, hf⟩ := bcell hb; have d0 := (hc (w.heap.size) 0 (by omega)).trans c0; have d1 := (hc (w.heap.size) 1 (by omega)).trans c1; have d2 := (hc (w.heap.size + 1) 0 (by omega)).trans c2; have d3 := (hc (w.heap.size + 1) 1 (by omega)).trans c3; have d4 := (hc (w.heap.size + 2) 0 (by omega)).trans c4; have d5 := (hc (w.heap.size + 2) 1 (by omega)).trans c5; have g0 := (hf (w.heap.size + 2) 0 (by omega)).trans f0; have g1 := (hf (w.heap.size + 2) 1 (by omega)).trans f1; clear hc hf hb; clear c0 c1 c2 c3 c4 c5 f0 f1; go_wp2_with fail; refine (ired (an * bd - bn * ad) (ad * bd) _ (by omega) (by omega)).mono ?_; rintro e w3 ⟨rfl, hb⟩; have hB3 : Below w.heap.size w w3 := jq1 hB2 hb; obtain ⟨hc, hf⟩ := bcell hb; have c4 := (hc (w.heap.size + 2) 0 (by omega)).trans d4; have c5 := (hc (w.heap.size + 2) 1 (by omega)).trans d5; have f0 := (hf (w.heap.size + 2) 0 (by omega)).trans g0; have f1 := (hf (w.heap.size + 2) 1 (by omega)).trans g1; clear hc hf hb; clear d0 d1 d2 d3 d4 d5 g0 g1; go_wp2_with fail; refine bodyPost_ret (v := .tuple #[.agg #[.int .i64 (Wsh.qn (Wsh.redB (an * bd - bn * ad) (ad * bd)) (Wsh.rn (an * bd - bn * ad) (ad * bd))), .int .i64 (Wsh.qn (Wsh.redB (an * bd - bn * ad) (ad * bd)) (Wsh.rd (an * bd - bn * ad) (ad * bd)))], .bool (Wsh.redB (an * bd - bn * ad) (ad * bd))]) (by simp [results, Tryz.results192, go_sem, c4, c5]) rfl ⟨fr_yes rfl rfl, by go_grown⟩
theorem scompare (an ad bn bd : Int) (w : World) (ha : Wsh.vfB an ad = true) (hb : Wsh.vfB bn bd = true) :
  Calls Tryz.prog 196 #[.agg #[.int .i64 an, .int .i64 ad], .agg #[.int .i64 bn, .int .i64 bd]] w fun e w' => e = .returned (.int .i64 (Wsh.cmpI (an * bd) (bn * ad))) ∧ Below w.heap.size w w' := by
 obtain ⟨⟨p1, p2⟩, ⟨p3, p4⟩, ⟨p5, p6⟩, p7, p8⟩ := bounds ha hb; clear ha hb
 by_cases h1 : an * bd < bn * ad
 ·go_enter Tryz.func196, Tryz.ntmps196
  go_wp2
  go_ret; exact ⟨jx6 (Wsh.cmpI_lt h1).symm, by go_grown⟩
 ·by_cases h2 : bn * ad < an * bd
  ·go_enter Tryz.func196, Tryz.ntmps196
   go_wp2
   go_ret; exact ⟨jx6 (Wsh.cmpI_gt h2).symm, by go_grown⟩
  ·go_enter Tryz.func196, Tryz.ntmps196
   go_wp2
   go_ret; exact ⟨jx6 (Wsh.cmpI_eq (by omega)).symm, by go_grown⟩
theorem sadd (an ad bn bd : Int) (w : World) (ha : Wsh.vfB an ad = true) (hb : Wsh.vfB bn bd = true) :
  Calls Tryz.prog 173 #[.agg #[.int .i64 an, .int .i64 ad], .agg #[.int .i64 bn, .int .i64 bd]] w fun e w' => e = .returned (frV (Wsh.redB (an * bd + bn * ad) (ad * bd)) (Wsh.rn (an * bd + bn * ad) (ad * bd)) (Wsh.rd (an * bd + bn * ad) (ad * bd))) ∧ Below w.heap.size w w' := by
 obtain ⟨⟨p1, p2⟩, ⟨p3, p4⟩, ⟨p5, p6⟩, p7, p8⟩ := bounds ha hb; clear ha hb; go_enter Tryz.func173, Tryz.ntmps173; go_wp2_with fail; refine (sred (an * bd + bn * ad) (ad * bd) _ (by omega) (by omega) (by omega) (by omega)).mono ?_; rintro e w1 ⟨rfl, hb⟩; have hB : Below w.heap.size w w1 := jq1 (by go_grown) hb; obtain ⟨hc, hf⟩ := bcell hb; have c0 := hc (w.heap.size + 2) 0 (by simp <;> omega); have c1 := hc (w.heap.size + 2) 1 (by simp <;> omega); have f0 := hf (w.heap.size + 2) 0 (by simp <;> omega); have f1 := hf (w.heap.size + 2) 1 (by simp <;> omega)
 simp [go_sem] at c0 c1 f0 f1
 clear hc hf hb; go_wp2_with fail; refine bodyPost_ret (v := .tuple #[.agg #[.int .i64 (Wsh.qn (Wsh.redB (an * bd + bn * ad) (ad * bd)) (Wsh.rn (an * bd + bn * ad) (ad * bd))), .int .i64 (Wsh.qn (Wsh.redB (an * bd + bn * ad) (ad * bd)) (Wsh.rd (an * bd + bn * ad) (ad * bd)))], .bool (Wsh.redB (an * bd + bn * ad) (ad * bd))]) (by simp [results, Tryz.results173, go_sem, c0, c1]) rfl ⟨rfl, by go_grown⟩
theorem ssub (an ad bn bd : Int) (w : World) (ha : Wsh.vfB an ad = true) (hb : Wsh.vfB bn bd = true) :
  Calls Tryz.prog 180 #[.agg #[.int .i64 an, .int .i64 ad], .agg #[.int .i64 bn, .int .i64 bd]] w fun e w' => e = .returned (frV (Wsh.redB (an * bd - bn * ad) (ad * bd)) (Wsh.rn (an * bd - bn * ad) (ad * bd)) (Wsh.rd (an * bd - bn * ad) (ad * bd))) ∧ Below w.heap.size w w' := by
 obtain ⟨⟨p1, p2⟩, ⟨p3, p4⟩, ⟨p5, p6⟩, p7, p8⟩ := bounds ha hb
 by_cases h1 : an * bd < bn * ad
 ·have hm : Wsh.cmpI (an * bd) (bn * ad) < 0 := by rw [Wsh.cmpI_lt h1]; decide
  go_enter Tryz.func180, Tryz.ntmps180; go_wp2_with fail; refine (scompare an ad bn bd _ ha hb).mono ?_; rintro e w1 ⟨rfl, hb⟩; have hB : Below w.heap.size w w1 := jq1 (by go_grown) hb; obtain ⟨hc, hf⟩ := bcell hb; have c0 := hc (w.heap.size + 2) 0 (by simp <;> omega); have c1 := hc (w.heap.size + 2) 1 (by simp <;> omega); have f0 := hf (w.heap.size + 2) 0 (by simp <;> omega); have f1 := hf (w.heap.size + 2) 1 (by simp <;> omega)
  simp [go_sem] at c0 c1 f0 f1
  clear hc hf hb; go_wp2_with fail; refine bodyPost_ret (v := .tuple #[.agg #[.int .i64 0, .int .i64 0], .bool false]) (by simp [results, Tryz.results180, go_sem, c0, c1]) rfl ⟨ret_frV (Wsh.redB_no (by omega)) rfl rfl, by go_grown⟩
 ·have hm : ¬ Wsh.cmpI (an * bd) (bn * ad) < 0 := by rw [Wsh.cmpI_nlt h1]; simp
  go_enter Tryz.func180, Tryz.ntmps180; go_wp2_with fail; refine (scompare an ad bn bd _ ha hb).mono ?_; rintro e w1 ⟨rfl, hb⟩; have hB : Below w.heap.size w w1 := jq1 (by go_grown) hb; have hz := hb.size
  simp at hz
  obtain ⟨hc, hf⟩ := bcell hb; have c0 := hc (w.heap.size) 0 (by simp <;> omega); have c1 := hc (w.heap.size) 1 (by simp <;> omega); have c2 := hc (w.heap.size + 1) 0 (by simp <;> omega); have c3 := hc (w.heap.size + 1) 1 (by simp <;> omega); have c4 := hc (w.heap.size + 2) 0 (by simp <;> omega); have c5 := hc (w.heap.size + 2) 1 (by simp <;> omega); have f0 := hf (w.heap.size + 2) 0 (by simp <;> omega); have f1 := hf (w.heap.size + 2) 1 (by simp <;> omega)
  simp [go_sem] at c0 c1 c2 c3 c4 c5 f0 f1
  clear hc hf hb; go_wp2_with fail; refine (sred (an * bd - bn * ad) (ad * bd) _ (by omega) (by omega) (by omega) (by omega)).mono ?_; rintro e w2 ⟨rfl, hb⟩; have hB2 : Below w.heap.size w w2 := jq1 hB hb; obtain ⟨hc, hf⟩ := bcell hb; have d4 := (hc (w.heap.size + 2) 0 (by omega)).trans c4; have d5 := (hc (w.heap.size + 2) 1 (by omega)).trans c5; have g0 := (hf (w.heap.size + 2) 0 (by omega)).trans f0; have g1 := (hf (w.heap.size + 2) 1 (by omega)).trans f1; clear hc hf hb; clear c0 c1 c2 c3 c4 c5 f0 f1; go_wp2_with fail; refine bodyPost_ret (v := .tuple #[.agg #[.int .i64 (Wsh.qn (Wsh.redB (an * bd - bn * ad) (ad * bd)) (Wsh.rn (an * bd - bn * ad) (ad * bd))), .int .i64 (Wsh.qn (Wsh.redB (an * bd - bn * ad) (ad * bd)) (Wsh.rd (an * bd - bn * ad) (ad * bd)))], .bool (Wsh.redB (an * bd - bn * ad) (ad * bd))]) (by simp [results, Tryz.results180, go_sem, d4, d5]) rfl ⟨rfl, by go_grown⟩
abbrev Led := List (Int × Rat)
def jq5 : Led → Int → Rat
 | [], _ => 0
 | h :: t, o => if h.1 = o then h.2 else jq5 t o
def Asc (L : Led) : Prop := L.Pairwise (fun a b => a.1 < b.1)
def Pos (L : Led) : Prop := ∀ h ∈ L, 0 < h.2
def setP (o : Int) (q : Rat) : Bool → Led → Led × Bool
 | d, [] => ([], d)
 | d, h :: t => ((if !d && decide (o ≤ h.1) then [(o, q)] else []) ++ (if h.1 ≠ o then [h] else []) ++ (setP o q (d || decide (o ≤ h.1)) t).1, (setP o q (d || decide (o ≤ h.1)) t).2)
def setL (L : Led) (o : Int) (q : Rat) : Led := (setP o q (decide (q = 0)) L).1 ++ (if (setP o q (decide (q = 0)) L).2 then [] else [(o, q)])
theorem setP_append (o : Int) (q : Rat) : ∀ (A B : Led) (d : Bool), setP o q d (A ++ B) = ((setP o q d A).1 ++ (setP o q (setP o q d A).2 B).1, (setP o q (setP o q d A).2 B).2) := by
 intro A
 induction A with
 | nil => intro B d; simp [setP]
 | cons h t ih => intro B d; simp only [List.cons_append, setP, ih, List.append_assoc]
theorem setP_done (o : Int) (q : Rat) : ∀ L : Led, setP o q true L = (L.filter (fun h => decide (h.1 ≠ o)), true) := by
  intro L
  induction L with
  | nil => rfl
  | cons h t ih =>
    simp only [setP, Bool.true_or, Bool.not_true, Bool.false_and, ih]
    by_cases e : h.1 = o
    · simp [e]
    · simp [e]
theorem share_mem {L : Led} {o : Int} (h : jq5 L o ≠ 0) : ∃ x ∈ L, x.1 = o ∧ x.2 = jq5 L o := by
  induction L with
  | nil => exact absurd rfl h
  | cons x t ih =>
    by_cases e : x.1 = o
    · exact ⟨x, by simp, e, by show x.2 = (if x.1 = o then x.2 else jq5 t o); rw [if_pos e]⟩
    · have e2 : jq5 (x :: t) o = jq5 t o := by show (if x.1 = o then x.2 else jq5 t o) = _; rw [if_neg e]
      rw [e2] at h ⊢; obtain ⟨y, hy, h1, h2⟩ := ih h; exact ⟨y, by simp [hy], h1, h2⟩
theorem share_filter (L : Led) (o p : Int) : jq5 (L.filter (fun h => decide (h.1 ≠ o))) p = if p = o then 0 else jq5 L p := by
  induction L with
  | nil => show (0 : Rat) = _; split <;> rfl
  | cons h t ih =>
    by_cases e : h.1 = o
    · rw [List.filter_cons_of_neg (by simp [e]), ih]
      split
      · rfl
      · next n => show _ = (if h.1 = p then h.2 else jq5 t p); rw [if_neg (by omega)]
    · rw [List.filter_cons_of_pos (by simp [e])]
      show (if h.1 = p then h.2 else jq5 _ p) = _
      rw [ih]
      by_cases ep : h.1 = p
      · rw [if_pos ep, if_neg (by omega)]; show _ = (if h.1 = p then h.2 else jq5 t p); rw [if_pos ep]
      · rw [if_neg ep]
        split
        · rfl
        · show _ = (if h.1 = p then h.2 else jq5 t p); rw [if_neg ep]
theorem setL_zero (L : Led) (o : Int) : setL L o 0 = L.filter (fun h => decide (h.1 ≠ o)) := by
 unfold setL; rw [show decide ((0 : Rat) = 0) = true from by decide, setP_done]; simp
def insL (o : Int) (q : Rat) : Led → Led
 | [] => [(o, q)]
 | h :: t => if o ≤ h.1 then (o, q) :: (h :: t).filter (fun h => decide (h.1 ≠ o)) else h :: insL o q t
theorem setL_ins {q : Rat} (hq : q ≠ 0) (L : Led) (o : Int) : setL L o q = insL o q L := by
  unfold setL; rw [decide_eq_false hq]
  induction L with
  | nil => rfl
  | cons h t ih =>
    show _ = if o ≤ h.1 then _ else _
    by_cases e : o ≤ h.1
    · rw [if_pos e]
      simp only [setP, Bool.not_false, Bool.true_and, decide_eq_true e, Bool.false_or, setP_done]
      by_cases e2 : h.1 = o
      · simp [e2]
      · simp [e2]
    · rw [if_neg e]
      simp only [setP, Bool.not_false, Bool.true_and, decide_eq_false e, Bool.false_or]; rw [← ih]
      have : h.1 ≠ o := by omega
      simp [this]
theorem ins_share {L : Led} (ha : Asc L) (o : Int) (q : Rat) (p : Int) : jq5 (insL o q L) p = if p = o then q else jq5 L p := by
  induction L with
  | nil =>
    show (if o = p then q else 0) = (if p = o then q else 0)
    by_cases e : p = o
    · rw [if_pos e, if_pos e.symm]
    · rw [if_neg e, if_neg (fun c => e c.symm)]
  | cons h t ih =>
    have h1 := List.pairwise_cons.1 ha
    show jq5 (if o ≤ h.1 then _ else _) p = _
    by_cases e : o ≤ h.1
    · rw [if_pos e]
      show (if o = p then q else jq5 _ p) = _
      rw [share_filter]
      by_cases ep : p = o
      · rw [if_pos ep.symm, if_pos ep]
      · rw [if_neg (fun c => ep c.symm), if_neg ep, if_neg ep]
    · rw [if_neg e]
      show (if h.1 = p then h.2 else jq5 (insL o q t) p) = _
      rw [ih h1.2]
      by_cases ep : h.1 = p
      · rw [if_pos ep, if_neg (by omega)]; show _ = (if h.1 = p then h.2 else jq5 t p); rw [if_pos ep]
      · rw [if_neg ep]
        split
        · rfl
        · show _ = (if h.1 = p then h.2 else jq5 t p); rw [if_neg ep]
theorem share_set {L : Led} (ha : Asc L) (o : Int) (q : Rat) (p : Int) : jq5 (setL L o q) p = if p = o then q else jq5 L p := by
 by_cases hq : q = 0
 ·subst hq; rw [setL_zero, share_filter]
 ·rw [setL_ins hq, ins_share ha]
theorem asc_filter {L : Led} (ha : Asc L) (f : Int × Rat → Bool) : Asc (L.filter f) := List.Pairwise.filter f ha
theorem ins_mem {o : Int} {q : Rat} : ∀ {L : Led} {x : Int × Rat}, x ∈ insL o q L → x = (o, q) ∨ x ∈ L := by
  intro L
  induction L with
  | nil => intro x hx; left; simpa [insL] using hx
  | cons h t ih =>
    intro x hx; unfold insL at hx
    split at hx
    · rcases List.mem_cons.1 hx with hx | hx
      · exact .inl hx
      · exact .inr (List.mem_filter.1 hx).1
    · rcases List.mem_cons.1 hx with hx | hx
      · exact .inr (by simp [hx])
      · rcases ih hx with h | h
        · exact .inl h
        · exact .inr (by simp [h])
theorem asc_ins {L : Led} (ha : Asc L) (o : Int) (q : Rat) : Asc (insL o q L) := by
  induction L with
  | nil => exact List.pairwise_singleton _ _
  | cons h t ih =>
    have h1 := List.pairwise_cons.1 ha; unfold insL
    split
    · next e =>
      refine List.pairwise_cons.2 ⟨fun x hx => ?_, asc_filter ha _⟩; have hm := List.mem_filter.1 hx
      have hne : x.1 ≠ o := by simpa using hm.2
      have hle : h.1 ≤ x.1 := by
        rcases List.mem_cons.1 hm.1 with rfl | hx
        · exact Int.le_refl _
        · exact Int.le_of_lt (h1.1 x hx)
      show o < x.1
      omega
    · next e =>
      refine List.pairwise_cons.2 ⟨fun x hx => ?_, ih h1.2⟩
      rcases ins_mem hx with rfl | hx
      · show h.1 < o; omega
      · exact h1.1 x hx
theorem asc_set {L : Led} (ha : Asc L) (o : Int) (q : Rat) : Asc (setL L o q) := by
 by_cases hq : q = 0
 ·subst hq; rw [setL_zero]; exact asc_filter ha _
 ·rw [setL_ins hq]; exact asc_ins ha o q
def frB (q : Rat) : Bool := decide (0 ≤ q.num) && decide (q.num ≤ (q.den : Int)) && decide ((q.den : Int) ≤ 10000)
theorem frB_iff (q : Rat) : frB q = true ↔ 0 ≤ q.num ∧ q.num ≤ (q.den : Int) ∧ (q.den : Int) ≤ 10000 := by unfold frB; simp [and_assoc]
theorem den_pos (q : Rat) : 1 ≤ (q.den : Int) := by have := q.den_pos; omega
theorem q_mk (q : Rat) : Rat.divInt q.num q.den = q := Rat.num_divInt_den q
theorem rn_q {n d : Int} (h : 0 < d) : Wsh.rn n d = (Rat.divInt n d).num := by
 rw [Rat.num_divInt, Int.sign_eq_one_of_pos h, Int.one_mul, Int.gcd_comm]; rfl
theorem rd_q {n d : Int} (h : 0 < d) : Wsh.rd n d = ((Rat.divInt n d).den : Int) := by
 rw [Rat.den_divInt, if_neg (by omega)]; unfold Wsh.rd; rw [Int.gcd_comm]; have : (d.natAbs : Int) = d := Int.natAbs_of_nonneg (by omega); rw [Int.natCast_ediv, this]
theorem redB_q {n d : Int} (h : 0 < d) : Wsh.redB n d = frB (Rat.divInt n d) := by
 have g := Wsh.gcd_pos n d h; have e1 := Wsh.rn_mul n d; have e2 := Wsh.rd_mul n d; unfold frB Wsh.redB; rw [← rn_q h, ← rd_q h]
 have a1 : 0 ≤ n ↔ 0 ≤ Wsh.rn n d := by
  constructor
  ·intro hn; exact (Wsh.rn_le n d hn).1
  ·intro hn; rw [← e1]; exact Int.mul_nonneg hn (by omega)
 have a2 : n ≤ d ↔ Wsh.rn n d ≤ Wsh.rd n d := by
  constructor
  ·intro hn
   have : Wsh.rn n d * (Int.gcd n d : Int) ≤ Wsh.rd n d * (Int.gcd n d : Int) := by rw [e1, e2]; exact hn
   exact Int.le_of_mul_le_mul_right this g
  ·intro hn
   have := Int.mul_le_mul_of_nonneg_right hn (Int.le_of_lt g); rw [e1, e2] at this; exact this
 rw [decide_eq_decide.2 a1, decide_eq_decide.2 a2]
theorem vf_q {n d : Int} (h : Wsh.vfB n d = true) : (Rat.divInt n d).num = n ∧ ((Rat.divInt n d).den : Int) = d ∧ frB (Rat.divInt n d) = true := by
 have hd := ((Wsh.vfB_iff n d).1 h).1; obtain ⟨a, b, c⟩ := Wsh.red_self n d h; rw [rn_q (by omega)] at a; rw [rd_q (by omega)] at b; rw [redB_q (by omega)] at c; exact ⟨a, b, c⟩
theorem gcd_q (q : Rat) : Int.gcd q.num q.den = 1 := by
 have := q.reduced; unfold Int.gcd
 simpa [Nat.Coprime] using this
theorem q_vf {q : Rat} (h : frB q = true) : Wsh.vfB q.num q.den = true := by
 rw [frB_iff] at h; rw [Wsh.vfB_iff]; exact ⟨den_pos q, h.2.2, h.1, h.2.1, gcd_q q⟩
theorem mul_dpos (p q : Rat) : 0 < (p.den : Int) * (q.den : Int) := Int.mul_pos (by have := den_pos p; omega) (by have := den_pos q; omega)
theorem add_q (p q : Rat) : Rat.divInt (p.num * q.den + q.num * p.den) (p.den * q.den) = p + q := by
 conv => rhs; rw [← q_mk p, ← q_mk q]
 rw [Rat.divInt_add_divInt _ _ (by have := den_pos p; omega) (by have := den_pos q; omega)]
theorem sub_q (p q : Rat) : Rat.divInt (p.num * q.den - q.num * p.den) (p.den * q.den) = p - q := by
 conv => rhs; rw [← q_mk p, ← q_mk q]
 rw [Rat.divInt_sub_divInt _ _ (by have := den_pos p; omega) (by have := den_pos q; omega)]
theorem add_red (p q : Rat) : Wsh.redB (p.num * q.den + q.num * p.den) (p.den * q.den) = frB (p + q) ∧ Wsh.rn (p.num * q.den + q.num * p.den) (p.den * q.den) = (p + q).num ∧ Wsh.rd (p.num * q.den + q.num * p.den) (p.den * q.den) = ((p + q).den : Int) := by
 rw [redB_q (mul_dpos p q), rn_q (mul_dpos p q), rd_q (mul_dpos p q), add_q]; exact ⟨rfl, rfl, rfl⟩
theorem sub_red (p q : Rat) : Wsh.redB (p.num * q.den - q.num * p.den) (p.den * q.den) = frB (p - q) ∧ Wsh.rn (p.num * q.den - q.num * p.den) (p.den * q.den) = (p - q).num ∧ Wsh.rd (p.num * q.den - q.num * p.den) (p.den * q.den) = ((p - q).den : Int) := by
 rw [redB_q (mul_dpos p q), rn_q (mul_dpos p q), rd_q (mul_dpos p q), sub_q]; exact ⟨rfl, rfl, rfl⟩
theorem frB_nonneg {q : Rat} (h : frB q = true) : 0 ≤ q := Rat.num_nonneg.1 ((frB_iff q).1 h).1
theorem num_zero (q : Rat) : q.num = 0 ↔ q = 0 := Rat.num_eq_zero
def totL : Led → Rat
 | [] => 0
 | h :: t => h.2 + totL t
theorem tot_append (A B : Led) : totL (A ++ B) = totL A + totL B := by
 induction A with
 | nil => show totL B = 0 + totL B; grind
 | cons h t ih => show h.2 + totL (t ++ B) = h.2 + totL t + totL B; rw [ih]; grind
structure VL (L : Led) : Prop where
 len : L.length ≤ 12
 own : ∀ h ∈ L, 1 ≤ h.1 ∧ h.1 ≤ 999
 fr : ∀ h ∈ L, frB h.2 = true
 pos : Pos L
 asc : Asc L
 sums : ∀ k, k ≤ L.length → frB (totL (L.take k)) = true
 one : totL L = 1
def vlB (L : Led) : Bool := decide (L.length ≤ 12) && L.all (fun h => decide (1 ≤ h.1) && decide (h.1 ≤ 999)) && L.all (fun h => frB h.2) && L.all (fun h => decide (0 < h.2)) && decide (L.Pairwise (fun a b => a.1 < b.1)) && (List.range (L.length + 1)).all (fun k => frB (totL (L.take k))) && decide (totL L = 1)
theorem vl_iff (L : Led) : vlB L = true ↔ VL L := by
 unfold vlB; simp only [Bool.and_eq_true, decide_eq_true_eq, List.all_eq_true, List.mem_range]
 constructor
 ·rintro ⟨⟨⟨⟨⟨⟨a, b⟩, c⟩, d⟩, e⟩, f⟩, g⟩
  exact ⟨a, b, c, d, e, fun k hk => f k (by omega), g⟩
 ·intro h
  exact ⟨⟨⟨⟨⟨⟨h.len, h.own⟩, h.fr⟩, h.pos⟩, h.asc⟩, fun k hk => h.sums k (by omega)⟩, h.one⟩
theorem frB_zero : frB 0 = true := by decide
def soldL (L : Led) (f t : Int) (p : Rat) : Led := setL (setL L f (jq5 L f - p)) t (jq5 L t + p)
def sellB (L : Led) (f t : Int) (p : Rat) : Bool :=
 frB (jq5 L f - p) && frB (jq5 L t + p) && decide (p ≠ 0) && decide (f ≠ t) && decide (1 ≤ t) && decide (t ≤ 999) && vlB (soldL L f t p)
theorem sell_iff (L : Led) (f t : Int) (p : Rat) : sellB L f t p = true ↔ frB (jq5 L f - p) = true ∧ frB (jq5 L t + p) = true ∧ p ≠ 0 ∧ f ≠ t ∧ 1 ≤ t ∧ t ≤ 999 ∧ VL (soldL L f t p) := by
 unfold sellB; simp [vl_iff, and_assoc]
def giveL (p : Rat) : Led → List Int → Led
 | L, [] => L
 | L, h :: t => giveL p (setL L h (jq5 L h + p)) t
theorem give_snoc (p : Rat) : ∀ (hs : List Int) (L : Led) (h : Int), giveL p L (hs ++ [h]) = setL (giveL p L hs) h (jq5 (giveL p L hs) h + p) := by
 intro hs
 induction hs with
 | nil => intro L h; rfl
 | cons x t ih => intro L h; exact ih _ h
theorem give_asc (p : Rat) : ∀ (hs : List Int) (L : Led), Asc L → Asc (giveL p L hs) := by
 intro hs
 induction hs with
 | nil => intro L h; exact h
 | cons x t ih => intro L h; exact ih _ (asc_set h _ _)
def jz9 (L : Led) : Nat → Nat
 | 0 => 1
 | k + 1 => Nat.lcm (jz9 L k) (L.getD k (0, 0)).2.den
theorem lcm_succ (L : Led) (k : Nat) : jz9 L (k + 1) = Nat.lcm (jz9 L k) (L.getD k (0, 0)).2.den := rfl
theorem lcm_pos (L : Led) : ∀ k, 0 < jz9 L k := by
 intro k
 induction k with
 | zero => exact Nat.one_pos
 | succ k ih => exact Nat.lcm_pos ih (Rat.den_pos _)
theorem lcm_mono (L : Led) (k : Nat) : jz9 L k ≤ jz9 L (k + 1) := Nat.le_of_dvd (lcm_pos L (k + 1)) (Nat.dvd_lcm_left _ _)
theorem lcm_mono' (L : Led) : ∀ n k, jz9 L k ≤ jz9 L (k + n) := by
 intro n
 induction n with
 | zero => intro k; exact Nat.le_refl _
 | succ n ih => intro k; exact Nat.le_trans (ih k) (lcm_mono L (k + n))
abbrev Hd := Int × Int × Int
abbrev hd0 : Hd := (0, 0, 0)
def jq8 (hs : List Hd) : Led := hs.map fun h => (h.1, Rat.divInt h.2.1 h.2.2)
def rawH (h : Int × Rat) : Hd := (h.1, h.2.num, (h.2.den : Int))
def rawL (L : Led) : List Hd := L.map rawH
def jj8 : List Hd → List Int
 | [] => []
 | h :: t => h.1 :: h.2.1 :: h.2.2 :: jj8 t
theorem flat_len : ∀ hs : List Hd, (jj8 hs).length = hs.length * 3 := by
 intro hs
 induction hs with
 | nil => rfl
 | cons h t ih => show (jj8 t).length + 1 + 1 + 1 = (t.length + 1) * 3; rw [ih]; omega
theorem flat_append : ∀ a b : List Hd, jj8 (a ++ b) = jj8 a ++ jj8 b := by
 intro a b
 induction a with
 | nil => rfl
 | cons h t ih => show h.1 :: h.2.1 :: h.2.2 :: jj8 (t ++ b) = _; rw [ih]; rfl
theorem flat_get : ∀ (hs : List Hd) (k : Nat), k < hs.length → (jj8 hs).getD (k * 3) 0 = (hs.getD k hd0).1 ∧ (jj8 hs).getD (k * 3 + 1) 0 = (hs.getD k hd0).2.1 ∧ (jj8 hs).getD (k * 3 + 2) 0 = (hs.getD k hd0).2.2 := by
  intro hs
  induction hs with
  | nil => intro k h; simp at h
  | cons h t ih =>
    intro k hk
    cases k with
    | zero => exact ⟨rfl, rfl, rfl⟩
    | succ k =>
      have := ih k (by simpa using hk); rw [show (k + 1) * 3 = k * 3 + 1 + 1 + 1 from by omega]; exact this
theorem flat_take (hs : List Hd) (k : Nat) : (jj8 hs).take (k * 3) = jj8 (hs.take k) := by
  induction hs generalizing k with
  | nil => simp [jj8]
  | cons h t ih =>
    cases k with
    | zero => rfl
    | succ k =>
      rw [show (k + 1) * 3 = k * 3 + 1 + 1 + 1 from by omega]
      show h.1 :: h.2.1 :: h.2.2 :: (jj8 t).take (k * 3) = _
      rw [ih]; rfl
theorem flat_drop (hs : List Hd) (k : Nat) : (jj8 hs).drop (k * 3) = jj8 (hs.drop k) := by
  induction hs generalizing k with
  | nil => simp [jj8]
  | cons h t ih =>
    cases k with
    | zero => rfl
    | succ k =>
      rw [show (k + 1) * 3 = k * 3 + 1 + 1 + 1 from by omega]
      show (jj8 t).drop (k * 3) = _
      rw [ih]; rfl
theorem jv2 {α : Type} (l : List α) {k : Nat} (h : k < l.length) (d : α) : l.getD k d = l[k] := by
 rw [List.getD_eq_getElem?_getD, List.getElem?_eq_getElem h]; rfl
theorem take_snocD {α : Type} (l : List α) {k : Nat} (h : k < l.length) (d : α) : l.take (k + 1) = l.take k ++ [l.getD k d] := by
 rw [List.take_succ_eq_append_getElem h, jv2 l h]
theorem jv7 (hs : List Hd) : (jq8 hs).length = hs.length := by unfold jq8; simp
theorem led_raw (L : Led) : jq8 (rawL L) = L := by
 unfold jq8 rawL; rw [List.map_map]
 conv => rhs; rw [← List.map_id L]
 refine List.map_congr_left fun h _ => ?_
 show (h.1, Rat.divInt h.2.num h.2.den) = h
 rw [q_mk]
theorem jx5 (L : Led) : (rawL L).length = L.length := by unfold rawL; simp
theorem raw_get (L : Led) {k : Nat} (h : k < L.length) : (rawL L).getD k hd0 = rawH (L.getD k (0, 0)) := by
 rw [jv2 _ (by rw [jx5]; exact h), jv2 _ h]; unfold rawL; simp
theorem led_get (hs : List Hd) {k : Nat} (h : k < hs.length) : (jq8 hs).getD k (0, 0) = ((hs.getD k hd0).1, Rat.divInt (hs.getD k hd0).2.1 (hs.getD k hd0).2.2) := by
 rw [jv2 _ (by rw [jv7]; exact h), jv2 _ h]; unfold jq8; simp
theorem raw_append (a b : Led) : rawL (a ++ b) = rawL a ++ rawL b := by unfold rawL; simp
theorem raw_take (a : Led) (k : Nat) : rawL (a.take k) = (rawL a).take k := by unfold rawL; simp
theorem raw_drop (a : Led) (k : Nat) : rawL (a.drop k) = (rawL a).drop k := by unfold rawL; simp
def prevO (hs : List Hd) (k : Nat) : Int := if k = 0 then 0 else (hs.getD (k - 1) hd0).1
def okA (hs : List Hd) (k : Nat) : Bool := decide (prevO hs k < (hs.getD k hd0).1) && decide (1 ≤ (hs.getD k hd0).1) && decide ((hs.getD k hd0).1 ≤ 999)
def ascB (hs : List Hd) : Bool := (List.range hs.length).all (okA hs)
def okF (hs : List Hd) (k : Nat) : Bool := Wsh.vfB (hs.getD k hd0).2.1 (hs.getD k hd0).2.2 && decide ((hs.getD k hd0).2.1 ≠ 0)
def sumQ (hs : List Hd) (k : Nat) : Rat := totL ((jq8 hs).take k)
def okS (hs : List Hd) (k : Nat) : Bool := okF hs k && frB (sumQ hs (k + 1))
def allS (hs : List Hd) : Bool := (List.range hs.length).all (okS hs)
def allF (hs : List Hd) : Bool := (List.range hs.length).all (okF hs)
def vlR (hs : List Hd) : Bool := decide (hs.length ≤ 12) && ascB hs && allS hs && decide (sumQ hs hs.length = 1)
theorem jv6 (n : Nat) (f : Nat → Bool) : (List.range n).all f = true ↔ ∀ j, j < n → f j = true := by
 rw [List.all_eq_true]; simp
theorem rng_no {n k : Nat} {f : Nat → Bool} (h : k < n) (hk : f k = false) : (List.range n).all f = false := by
 rw [Bool.eq_false_iff]; intro c; rw [jv6] at c; rw [c k h] at hk; cases hk
theorem jv5 {n : Nat} {f : Nat → Bool} (h : ∀ j, j < n → f j = true) : (List.range n).all f = true := (jv6 n f).2 h
theorem jj5 {k : Nat} {f : Nat → Bool} (h : ∀ j, j < k → f j = true) (hk : f k = true) : ∀ j, j < k + 1 → f j = true := fun j hj => by
 by_cases e : j = k
 ·subst e; exact hk
 ·exact h j (by omega)
theorem okF_is {hs : List Hd} {k : Nat} (h : okF hs k = true) : Wsh.vfB (hs.getD k hd0).2.1 (hs.getD k hd0).2.2 = true ∧ (hs.getD k hd0).2.1 ≠ 0 := by
 unfold okF at h; simpa using h
theorem okF_no1 {hs : List Hd} {k : Nat} (h : Wsh.vfB (hs.getD k hd0).2.1 (hs.getD k hd0).2.2 = false) : okF hs k = false := by unfold okF; rw [h]; rfl
theorem okF_no2 {hs : List Hd} {k : Nat} (h : (hs.getD k hd0).2.1 = 0) : okF hs k = false := by unfold okF; rw [h]; simp
theorem okF_yes {hs : List Hd} {k : Nat} (h : Wsh.vfB (hs.getD k hd0).2.1 (hs.getD k hd0).2.2 = true) (h2 : (hs.getD k hd0).2.1 ≠ 0) : okF hs k = true := by unfold okF; rw [h]; simpa using h2
theorem okS_no {hs : List Hd} {k : Nat} (h : okF hs k = false) : okS hs k = false := by unfold okS; rw [h]; rfl
theorem okS_no2 {hs : List Hd} {k : Nat} (h : frB (sumQ hs (k + 1)) = false) : okS hs k = false := by unfold okS; rw [h]; simp
theorem okS_yes {hs : List Hd} {k : Nat} (h : okF hs k = true) (h2 : frB (sumQ hs (k + 1)) = true) : okS hs k = true := by unfold okS; rw [h, h2]; rfl
theorem okS_is {hs : List Hd} {k : Nat} (h : okS hs k = true) : okF hs k = true ∧ frB (sumQ hs (k + 1)) = true := by unfold okS at h; simpa using h
theorem sum_succ {hs : List Hd} {k : Nat} (h : k < hs.length) : sumQ hs (k + 1) = sumQ hs k + Rat.divInt (hs.getD k hd0).2.1 (hs.getD k hd0).2.2 := by
 unfold sumQ; rw [take_snocD (jq8 hs) (by rw [jv7]; exact h) (0, 0), tot_append, led_get hs h]
 show _ + (Rat.divInt _ _ + 0) = _
 grind
theorem sum_red {hs : List Hd} {k : Nat} (h : k < hs.length) (hv : Wsh.vfB (hs.getD k hd0).2.1 (hs.getD k hd0).2.2 = true) :
  Wsh.redB ((sumQ hs k).num * (hs.getD k hd0).2.2 + (hs.getD k hd0).2.1 * (sumQ hs k).den) ((sumQ hs k).den * (hs.getD k hd0).2.2) = frB (sumQ hs (k + 1)) ∧
  Wsh.rn ((sumQ hs k).num * (hs.getD k hd0).2.2 + (hs.getD k hd0).2.1 * (sumQ hs k).den) ((sumQ hs k).den * (hs.getD k hd0).2.2) = (sumQ hs (k + 1)).num ∧
  Wsh.rd ((sumQ hs k).num * (hs.getD k hd0).2.2 + (hs.getD k hd0).2.1 * (sumQ hs k).den) ((sumQ hs k).den * (hs.getD k hd0).2.2) = ((sumQ hs (k + 1)).den : Int) := by
 obtain ⟨a, b, _⟩ := vf_q hv; have := add_red (sumQ hs k) (Rat.divInt (hs.getD k hd0).2.1 (hs.getD k hd0).2.2); rw [a, b, ← sum_succ h] at this; exact this
theorem one_iff {q : Rat} : q = 1 ↔ q.num = (q.den : Int) := by
 constructor
 ·rintro rfl; rfl
 ·intro h
  have := q_mk q; rw [h, Rat.divInt_self' (by have := den_pos q; omega)] at this; exact this.symm
theorem asc_is {hs : List Hd} (h : ascB hs = true) : Asc (jq8 hs) ∧ ∀ x ∈ jq8 hs, 1 ≤ x.1 ∧ x.1 ≤ 999 := by
  unfold ascB at h; rw [jv6] at h
  have h1 : ∀ k, k < hs.length → prevO hs k < (hs.getD k hd0).1 ∧ 1 ≤ (hs.getD k hd0).1 ∧ (hs.getD k hd0).1 ≤ 999 := fun k hk => by
    have := h k hk; unfold okA at this; simp only [Bool.and_eq_true, decide_eq_true_eq] at this; exact ⟨this.1.1, this.1.2, this.2⟩
  have mono : ∀ n i, i + n + 1 < hs.length → (hs.getD i hd0).1 < (hs.getD (i + n + 1) hd0).1 := by
    intro n
    induction n with
    | zero =>
      intro i hi; have := (h1 (i + 1) hi).1; unfold prevO at this; rw [if_neg (by omega)] at this; exact this
    | succ n ih =>
      intro i hi; have a := ih i (by omega); have := (h1 (i + (n + 1) + 1) hi).1; unfold prevO at this; rw [if_neg (by omega), show i + (n + 1) + 1 - 1 = i + n + 1 from by omega] at this
      omega
  refine ⟨?_, ?_⟩
  · unfold Asc
    rw [List.pairwise_iff_getElem]; intro i j hi hj hij; rw [jv7] at hi hj; have a := mono (j - i - 1) i (by omega); rw [show i + (j - i - 1) + 1 = j from by omega] at a; rw [← jv2 (jq8 hs) (by rw [jv7]; exact hi) (0, 0), ← jv2 (jq8 hs) (by rw [jv7]; exact hj) (0, 0), led_get hs hi, led_get hs hj]; exact a
  · intro x hx
    obtain ⟨i, hi, rfl⟩ := List.getElem_of_mem hx; rw [← jv2 (jq8 hs) hi (0, 0), led_get hs (by rw [jv7] at hi; exact hi)]; exact (h1 i (by rw [jv7] at hi; exact hi)).2
theorem frac_is {hs : List Hd} (h : allF hs = true) : rawL (jq8 hs) = hs ∧ Pos (jq8 hs) ∧ ∀ x ∈ jq8 hs, frB x.2 = true := by
 unfold allF at h; rw [jv6] at h
 have h1 : ∀ x ∈ hs, Wsh.vfB x.2.1 x.2.2 = true ∧ x.2.1 ≠ 0 := fun x hx => by
  obtain ⟨i, hi, rfl⟩ := List.getElem_of_mem hx; have := okF_is (h i hi)
  rwa [jv2 _ hi] at this
 refine ⟨?_, ?_, ?_⟩
 ·unfold rawL jq8
  rw [List.map_map]
  conv => rhs; rw [← List.map_id hs]
  refine List.map_congr_left fun x hx => ?_
  obtain ⟨a, b, _⟩ := vf_q (h1 x hx).1
  show (x.1, (Rat.divInt x.2.1 x.2.2).num, ((Rat.divInt x.2.1 x.2.2).den : Int)) = x
  rw [a, b]
 ·intro x hx
  unfold jq8 at hx; obtain ⟨y, hy, rfl⟩ := List.mem_map.1 hx; obtain ⟨a, b, c⟩ := vf_q (h1 y hy).1; have := frB_nonneg c
  have hn : Rat.divInt y.2.1 y.2.2 ≠ 0 := fun e => (h1 y hy).2 (by rw [← a]; exact (num_zero _).2 e)
  show 0 < Rat.divInt y.2.1 y.2.2
  grind
 ·intro x hx
  unfold jq8 at hx; obtain ⟨y, hy, rfl⟩ := List.mem_map.1 hx; exact (vf_q (h1 y hy).1).2.2
theorem all_frac {hs : List Hd} (h : allS hs = true) : allF hs = true := by
 unfold allS at h; unfold allF; rw [jv6] at h ⊢; exact fun j hj => (okS_is (h j hj)).1
theorem vlR_is {hs : List Hd} (h : vlR hs = true) : rawL (jq8 hs) = hs ∧ VL (jq8 hs) := by
  unfold vlR at h; simp only [Bool.and_eq_true, decide_eq_true_eq] at h; obtain ⟨⟨⟨h1, h2⟩, h3⟩, h4⟩ := h; obtain ⟨f1, f2, f3⟩ := frac_is (all_frac h3); obtain ⟨a1, a2⟩ := asc_is h2; refine ⟨f1, ⟨by rw [jv7]; exact h1, a2, f3, f2, a1, fun k hk => ?_, ?_⟩⟩
  · cases k with
    | zero => exact frB_zero
    | succ k =>
      unfold allS at h3; rw [jv6] at h3; rw [jv7] at hk; exact (okS_is (h3 k hk)).2
  · have := h4
    unfold sumQ at this
    rwa [List.take_of_length_le (by rw [jv7]; exact Nat.le_refl _)] at this
theorem vlR_raw {L : Led} (h : VL L) : vlR (rawL L) = true := by
 have get : ∀ k, k < L.length → (rawL L).getD k hd0 = rawH L[k]! := fun k hk => by
  rw [raw_get L hk, jv2 _ hk, List.getElem!_eq_getElem?_getD, List.getElem?_eq_getElem hk]; rfl
 unfold vlR; simp only [Bool.and_eq_true, decide_eq_true_eq]; refine ⟨⟨⟨by rw [jx5]; exact h.len, ?_⟩, ?_⟩, ?_⟩
 ·refine jv5 fun k hk => ?_
  rw [jx5] at hk; unfold okA; simp only [Bool.and_eq_true, decide_eq_true_eq]; have o := h.own _ (List.getElem_mem hk); rw [raw_get L hk, jv2 _ hk]; refine ⟨⟨?_, o.1⟩, o.2⟩; unfold prevO
  by_cases e : k = 0
  ·rw [if_pos e]; exact Int.lt_of_lt_of_le (by decide) o.1
  ·rw [if_neg e, raw_get L (by omega), jv2 _ (by omega)]
   exact (List.pairwise_iff_getElem.1 h.asc) (k - 1) k (by omega) hk (by omega)
 ·refine jv5 fun k hk => ?_
  rw [jx5] at hk; refine okS_yes (okF_yes ?_ ?_) ?_
  ·rw [raw_get L hk, jv2 _ hk]; exact q_vf (h.fr _ (List.getElem_mem hk))
  ·rw [raw_get L hk, jv2 _ hk]
   have := h.pos _ (List.getElem_mem hk); intro c; rw [(num_zero _).1 c] at this; exact absurd this (by decide)
  ·unfold sumQ; rw [led_raw]; exact h.sums _ (by omega)
 ·unfold sumQ; rw [led_raw, jx5, List.take_of_length_le (Nat.le_refl _)]; exact h.one
theorem vlR_vl (L : Led) : vlR (rawL L) = vlB L := by
 rw [Bool.eq_iff_iff, vl_iff]; refine ⟨fun h => ?_, vlR_raw⟩; have := (vlR_is h).2
 rwa [led_raw] at this
def shR : List Hd → Int → Int × Int
 | [], _ => (0, 1)
 | h :: t, o => if h.1 = o then h.2 else shR t o
theorem shR_raw (L : Led) (o : Int) : shR (rawL L) o = ((jq5 L o).num, ((jq5 L o).den : Int)) := by
  induction L with
  | nil => rfl
  | cons h t ih =>
    show (if h.1 = o then (h.2.num, (h.2.den : Int)) else shR (rawL t) o) = _
    show _ = ((if h.1 = o then h.2 else jq5 t o).num, ((if h.1 = o then h.2 else jq5 t o).den : Int))
    by_cases e : h.1 = o
    · rw [if_pos e, if_pos e]
    · rw [if_neg e, if_neg e]; exact ih
theorem shR_at {hs : List Hd} {o : Int} {k : Nat} (hk : k < hs.length) (h : ∀ j, j < k → (hs.getD j hd0).1 ≠ o) (he : (hs.getD k hd0).1 = o) : shR hs o = (hs.getD k hd0).2 := by
  induction hs generalizing k with
  | nil => simp at hk
  | cons x t ih =>
    show (if x.1 = o then x.2 else shR t o) = _
    cases k with
    | zero => have he : x.1 = o := he
              rw [if_pos he]; rfl
    | succ k =>
      have h0 : x.1 ≠ o := h 0 (by omega); rw [if_neg h0]; exact ih (by simpa using hk) (fun j hj => h (j + 1) (by omega)) he
theorem shR_none {hs : List Hd} {o : Int} (h : ∀ j, j < hs.length → (hs.getD j hd0).1 ≠ o) : shR hs o = (0, 1) := by
  induction hs with
  | nil => rfl
  | cons x t ih =>
    show (if x.1 = o then x.2 else shR t o) = _
    have h0 : x.1 ≠ o := h 0 (by simp); rw [if_neg h0]; exact ih (fun j hj => h (j + 1) (by simpa using hj))
def skipL (L : Led) (o : Int) (k : Nat) : Nat := if k < L.length ∧ (L.getD k (0, 0)).1 = o then k + 1 else k
theorem filter_far {L : Led} {o : Int} (h : ∀ x ∈ L, x.1 ≠ o) : L.filter (fun h => decide (h.1 ≠ o)) = L := by
 rw [List.filter_eq_self]; intro a ha; simpa using h a ha
theorem with_set {L : Led} (ha : Asc L) (o : Int) (q : Rat) : ∀ {k : Nat}, k ≤ L.length → (∀ j, j < k → (L.getD j (0, 0)).1 < o) → (k < L.length → o ≤ (L.getD k (0, 0)).1) →
    setL L o q = L.take k ++ (if q = 0 then [] else [(o, q)]) ++ L.drop (skipL L o k) := by
  have tail : ∀ {h : Int × Rat} {t : Led}, Asc (h :: t) → o ≤ h.1 → (h :: t).filter (fun h => decide (h.1 ≠ o)) = (h :: t).drop (skipL (h :: t) o 0) := by
    intro h t ha ho; have h1 := List.pairwise_cons.1 ha; have ht : t.filter (fun h => decide (h.1 ≠ o)) = t := filter_far (fun x hx => by have := h1.1 x hx; omega)
    by_cases e : h.1 = o
    · rw [show skipL (h :: t) o 0 = 1 from by unfold skipL; rw [if_pos ⟨by simp, e⟩], List.filter_cons_of_neg (by simp [e]), ht]; rfl
    · rw [show skipL (h :: t) o 0 = 0 from by unfold skipL; rw [if_neg (fun c => e c.2)], List.filter_cons_of_pos (by simp [e]), ht]; rfl
  induction L with
  | nil =>
    intro k hk _ _
    obtain rfl : k = 0 := by simpa using hk
    by_cases hq : q = 0
    · rw [hq, setL_zero]; rfl
    · rw [setL_ins hq, if_neg hq]; rfl
  | cons h t ih =>
    intro k hk h1 h2; have hp := List.pairwise_cons.1 ha
    cases k with
    | zero =>
      have ho : o ≤ h.1 := h2 (by simp)
      by_cases hq : q = 0
      · rw [hq, setL_zero, tail ha ho, if_pos rfl]; rfl
      · rw [setL_ins hq, if_neg hq]
        show (if o ≤ h.1 then _ else _) = _
        rw [if_pos ho, tail ha ho]; rfl
    | succ k =>
      have ho : h.1 < o := h1 0 (by omega); have := ih hp.2 (k := k) (by simpa using hk) (fun j hj => h1 (j + 1) (by omega)) (fun hl => h2 (by simpa using hl))
      have es : skipL (h :: t) o (k + 1) = skipL t o k + 1 := by
        have eg : (h :: t).getD (k + 1) (0, 0) = t.getD k (0, 0) := rfl; unfold skipL; rw [eg]
        by_cases c : k < t.length ∧ (t.getD k (0, 0)).1 = o
        · rw [if_pos c, if_pos ⟨by have := c.1; simpa using this, c.2⟩]
        · rw [if_neg c, if_neg (fun d => c ⟨by simpa using d.1, d.2⟩)]
      rw [es]
      show _ = h :: (t.take k ++ _ ++ t.drop (skipL t o k))
      rw [← this]
      by_cases hq : q = 0
      · rw [hq, setL_zero, setL_zero, List.filter_cons_of_pos (by simp; omega)]
      · rw [setL_ins hq, setL_ins hq]
        show (if o ≤ h.1 then _ else _) = _
        rw [if_neg (by omega)]
def setTo (L : Led) (o : Int) (q : Rat) (k : Nat) : Led × Bool := setP o q (decide (q = 0)) (L.take k)
theorem setTo_zero (L : Led) (o : Int) (q : Rat) : setTo L o q 0 = ([], decide (q = 0)) := rfl
theorem setTo_succ {L : Led} (o : Int) (q : Rat) {k : Nat} (h : k < L.length) :
  setTo L o q (k + 1) = ((setTo L o q k).1 ++ ((if !(setTo L o q k).2 && decide (o ≤ (L.getD k (0, 0)).1) then [(o, q)] else []) ++ (if (L.getD k (0, 0)).1 ≠ o then [L.getD k (0, 0)] else [])), (setTo L o q k).2 || decide (o ≤ (L.getD k (0, 0)).1)) := by
 unfold setTo; rw [take_snocD L h (0, 0), setP_append]
 simp [setP]
theorem setTo_end (L : Led) (o : Int) (q : Rat) : setL L o q = (setTo L o q L.length).1 ++ (if (setTo L o q L.length).2 then [] else [(o, q)]) := by
 unfold setTo setL; rw [List.take_of_length_le (Nat.le_refl _)]
theorem setTo_len (L : Led) (o : Int) (q : Rat) : ∀ k, k ≤ L.length → (setTo L o q k).1.length ≤ 2 * k := by
  intro k
  induction k with
  | zero => intro _; simp [setTo_zero]
  | succ k ih =>
    intro h; have := ih (by omega); rw [setTo_succ o q (by omega)]; simp only [List.length_append]
    have a : (if !(setTo L o q k).2 && decide (o ≤ (L.getD k (0, 0)).1) then [(o, q)] else [] : Led).length ≤ 1 := by split <;> simp
    have b : (if (L.getD k (0, 0)).1 ≠ o then [L.getD k (0, 0)] else [] : Led).length ≤ 1 := by split <;> simp
    omega
def shareIs (n d : Int) (q : Rat) : Prop := (n = q.num ∧ d = (q.den : Int)) ∨ (n = 0 ∧ q = 0)
theorem shareIs_zero {n d : Int} {q : Rat} (h : shareIs n d q) : decide (q = 0) = decide (n = 0) := by
 rcases h with ⟨h, _⟩ | ⟨h, h2⟩
 ·rw [h, decide_eq_decide]; exact (num_zero q).symm
 ·rw [h, h2]; rfl
theorem shareIs_raw {n d : Int} {q : Rat} (h : shareIs n d q) (hq : q ≠ 0) (o : Int) : rawH (o, q) = (o, n, d) := by
 rcases h with ⟨h, h1⟩ | ⟨h, h2⟩
 ·rw [h, h1]; rfl
 ·exact absurd h2 hq
theorem share_ok (b : Bool) (q : Rat) : shareIs (Wsh.qn b q.num) (Wsh.qn b (q.den : Int)) (if b then q else 0) := by
 cases b with
 | true => exact .inl ⟨rfl, rfl⟩
 | false => exact .inr ⟨rfl, rfl⟩
theorem share_no : shareIs 0 1 0 := .inl ⟨rfl, rfl⟩
theorem fr_set {L : Led} (h : ∀ x ∈ L, frB x.2 = true) (o : Int) {q : Rat} (hq : frB q = true) : ∀ x ∈ setL L o q, frB x.2 = true := by
 by_cases e : q = 0
 ·rw [e, setL_zero]; exact fun x hx => h x (List.mem_filter.1 hx).1
 ·rw [setL_ins e]
  intro x hx
  rcases ins_mem hx with rfl | hx
  ·exact hq
  ·exact h x hx
theorem share_frA {L : Led} (h : ∀ x ∈ L, frB x.2 = true) (o : Int) : frB (jq5 L o) = true := by
 by_cases e : jq5 L o = 0
 ·rw [e]; exact frB_zero
 ·obtain ⟨x, hx, _, h2⟩ := share_mem e
  rw [← h2]; exact h x hx
theorem set_len {L : Led} (o : Int) (q : Rat) : (setL L o q).length ≤ L.length + 1 := by
  by_cases e : q = 0
  · rw [e, setL_zero]; have := List.length_filter_le (fun h : Int × Rat => decide (h.1 ≠ o)) L; omega
  · rw [setL_ins e]
    induction L with
    | nil => simp [insL]
    | cons h t ih =>
      unfold insL
      split
      · have := List.length_filter_le (fun h : Int × Rat => decide (h.1 ≠ o)) (h :: t); simp only [List.length_cons] at this ⊢; omega
      · simp only [List.length_cons]; omega
def IsHs (w : World) (a : Option Addr) (hs : List Hd) : Prop := hs = [] ∨ ∃ g o, a = some ⟨g, o, none⟩ ∧ ∀ i, i < hs.length → w.cell? ⟨g, o + i * 3, none⟩ = some (.int .i64 (hs.getD i hd0).1) ∧ w.cell? ⟨g, o + i * 3 + 1, none⟩ = some (.int .i64 (hs.getD i hd0).2.1) ∧ w.cell? ⟨g, o + i * 3 + 2, none⟩ = some (.int .i64 (hs.getD i hd0).2.2)
theorem jqi {w w' : World} {a : Option Addr} {hs : List Hd} (h : IsHs w a hs) (hB : Below w.heap.size w w') : IsHs w' a hs := by
 rcases h with h | ⟨g, o, ha, hc⟩
 ·exact .inl h
 ·refine .inr ⟨g, o, ha, fun i hi => ?_⟩
  obtain ⟨c0, c1, c2⟩ := hc i hi; exact ⟨(hB.cell (p := ⟨g, _, none⟩) (World.block_lt_of_cell? w _ c0)).trans c0, (hB.cell (p := ⟨g, _, none⟩) (World.block_lt_of_cell? w _ c1)).trans c1, (hB.cell (p := ⟨g, _, none⟩) (World.block_lt_of_cell? w _ c2)).trans c2⟩
theorem jjd (n : Int) (w : World) (h1 : 1 ≤ n) (h2 : n ≤ 999) :
  Calls Tryz.prog 111 #[.int .i64 n] w fun e w' => e = .returned (.bool true) ∧ w = w' := by
 go_enter Tryz.func111, Tryz.ntmps111
 go_wp2
 go_ret; exact ⟨rfl, rfl⟩
theorem iowner_no (n : Int) (w : World) (h : n < 1 ∨ 999 < n) :
  Calls Tryz.prog 111 #[.int .i64 n] w fun e w' => e = .returned (.bool false) ∧ w = w' := by
 by_cases h1 : 1 ≤ n
 ·have hd : decide (n ≤ 999) = false := by simp; omega
  clear h; go_enter Tryz.func111, Tryz.ntmps111
  go_wp2
  go_ret; exact ⟨rfl, rfl⟩
 ·have hd : decide (1 ≤ n) = false := by simpa using h1
  clear h; go_enter Tryz.func111, Tryz.ntmps111
  go_wp2
  go_ret; exact ⟨rfl, rfl⟩
theorem okA_def (hs : List Hd) (k : Nat) : okA hs k = (decide (prevO hs k < (hs.getD k hd0).1) && decide (1 ≤ (hs.getD k hd0).1) && decide ((hs.getD k hd0).1 ≤ 999)) := rfl
theorem prev_succ (hs : List Hd) (k : Nat) : prevO hs (k + 1) = (hs.getD k hd0).1 := by unfold prevO; rw [if_neg (by omega)]; rfl
theorem iasc (a : Option Addr) (cap : Nat) (hs : List Hd) (w : World) (h : IsHs w a hs) (hn : hs.length ≤ 1048576) :
  Calls Tryz.prog 108 #[.slice a hs.length cap] w fun e w' => e = .returned (.bool (ascB hs)) ∧ Below w.heap.size w w' := by
 rcases h with rfl | ⟨g, o, rfl, hc⟩
 ·go_enter Tryz.func108, Tryz.ntmps108
  go_wp2
  go_rounds 1
  go_ret; exact ⟨rfl, by go_grown⟩
 ·have HC := Lib.hid hc
  clear hc; go_enter Tryz.func108, Tryz.ntmps108
  go_wp2
  go_loopw [3, 8] (fun l i wr => ∃ k : Nat, k ≤ hs.length ∧ i = .int .i64 k ∧ l = .int .i64 (prevO hs k) ∧ Hid (∀ j, j < k → okA hs j = true) ∧ Below w.heap.size w wr) (fun _ i _ => hs.length - (intOf i).toNat)
  case atStart => exact ⟨0, Nat.zero_le _, rfl, rfl, fun j hj => by omega, by go_grown⟩
  case round =>
   obtain ⟨k, hk, rfl, rfl, HA, hB⟩ := hrel
   by_cases hlt : k < hs.length
   ·obtain ⟨d0, d1, d2⟩ := HC.out k hlt
    have c0 := (hB.cell (p := ⟨g, _, none⟩) (World.block_lt_of_cell? w _ d0)).trans d0; have c1 := (hB.cell (p := ⟨g, _, none⟩) (World.block_lt_of_cell? w _ d1)).trans d1; have c2 := (hB.cell (p := ⟨g, _, none⟩) (World.block_lt_of_cell? w _ d2)).trans d2; have hok := okA_def hs k; have hpv := prev_succ hs k; clear d0 d1 d2; generalize hs.getD k hd0 = hh at c0 c1 c2 hok hpv; obtain ⟨x, n, d⟩ := hh; generalize prevO hs k = p at hok; dsimp only at c0 c1 c2 hok hpv; have HO := Lib.hid hok; have HP := Lib.hid hpv; have HB := Lib.hid hB; clear hok hpv hB
    by_cases h1 : x ≤ p
    ·have HN : Hid (ascB hs = false) := rng_no hlt (by rw [HO.out, decide_eq_false (by omega : ¬ p < x)]; rfl)
     go_wp2_with fail; go_ret; exact ⟨jq4 HN.out.symm, HB.out.alloc HB.out.size _⟩
    ·have e1 : decide (x ≤ p) = false := by simpa using h1
     by_cases h2 : 1 ≤ x ∧ x ≤ 999
     ·have HY : Hid (∀ j, j < k + 1 → okA hs j = true) := jj5 HA.out (by rw [HO.out]; simp; omega)
      go_wp2_with fail; refine (jjd x _ h2.1 h2.2).mono ?_; rintro e w' ⟨rfl, rfl⟩; go_wp2_with fail
      go_roundw
      case rel => exact ⟨k + 1, by omega, by go_num, by rw [HP.out], HY.out, HB.out.alloc HB.out.size _⟩
      case measure => simp [intOf]; omega
     ·have HN : Hid (ascB hs = false) := rng_no hlt (by rw [HO.out]; simp; omega)
      go_wp2_with fail; refine (iowner_no x _ (by omega)).mono ?_; rintro e w' ⟨rfl, rfl⟩; go_wp2_with fail; go_ret; exact ⟨jq4 HN.out.symm, HB.out.alloc HB.out.size _⟩
   ·go_wp2_with fail
    go_ret; exact ⟨jq4 (jv5 (fun j hj => HA.out j (by omega))).symm, hB⟩
section
def Blk (w : World) (g : Nat) (t : TypeId) (cs : Array Value) : Prop := w.heap[g]? = some (.cells cs t (0, 0))
section
variable {w w' : World} {g : Nat} {t : TypeId} {cs : Array Value}
theorem Blk.lt (h : Blk w g t cs) : g < w.heap.size := by
 rcases Nat.lt_or_ge g w.heap.size with hlt | hge
 ·exact hlt
 ·unfold Blk at h; rw [Array.getElem?_eq_none hge] at h; cases h
theorem Blk.cell (h : Blk w g t cs) (i : Nat) : w.cell? ⟨g, i, none⟩ = cs[i]? := cell_of_row w g i cs t (0, 0) h
theorem Blk.frozen (h : Blk w g t cs) (i : Nat) : w.frozen? ⟨g, i, none⟩ = false := by
 unfold Blk at h
 simp [World.frozen?, h]
theorem Blk.new (w : World) (t : TypeId) (cs : Array Value) : Blk (w.alloc (.cells cs t)) w.heap.size t cs := heap_alloc_new w _
theorem Blk.alloc (h : Blk w g t cs) (o : Obj) : Blk (w.alloc o) g t cs := (Below.heap_alloc w o g h.lt).trans h
theorem Blk.drew (h : Blk w g t cs) : Blk w.drew g t cs := h
theorem Blk.set_ (h : Blk w g t cs) (i : Nat) (u : Value) : Blk (w.setCell ⟨g, i, none⟩ u) g t (cs.setIfInBounds i u) := by
 unfold Blk at h ⊢
 simp [World.setCell, Array.getElem?_modify, h]
theorem Blk.far (h : Blk w g t cs) {p : Addr} (hp : g ≠ p.block) (u : Value) : Blk (w.setCell p u) g t cs := (Below.heap_setCell w p u g hp).trans h
theorem Blk.below {B : Nat} (h : Blk w g t cs) (hb : Below B w w') (hg : g < B) : Blk w' g t cs := (hb.block g hg).trans h
theorem Blk.next (h : Blk w g t cs) (hb : Below w.heap.size w w') : Blk w' g t cs := h.below hb h.lt
theorem Blk.grown {row : Option Nat} (h : Blk w g t cs) (hb : w.grownBy w' row) (hg : some g ≠ row) : Blk w' g t cs := (hb.block g h.lt hg).trans h
theorem Blk.two {x y : Value} (h : Blk w g t #[x, y]) (u v : Value) : Blk ((w.setCell ⟨g, 0, none⟩ u).setCell ⟨g, 1, none⟩ v) g t #[u, v] := (h.set_ 0 u).set_ 1 v
end
theorem jqh {w : World} {g : Nat} {t : TypeId} {x y : Value} (h : Blk w g t #[x, y]) : w.cell? ⟨g, 0, none⟩ = some x ∧ w.cell? ⟨g, 1, none⟩ = some y ∧ w.frozen? ⟨g, 0, none⟩ = false ∧ w.frozen? ⟨g, 1, none⟩ = false ∧ g < w.heap.size := ⟨h.cell 0, h.cell 1, h.frozen 0, h.frozen 1, h.lt⟩
theorem fzs6 {w : World} {g : Nat} {t : TypeId} {cs : Array Value} (h : Blk w g t cs) : w.frozen? ⟨g, 0, none⟩ = false ∧ w.frozen? ⟨g, 1, none⟩ = false ∧ w.frozen? ⟨g, 2, none⟩ = false ∧ w.frozen? ⟨g, 3, none⟩ = false ∧ w.frozen? ⟨g, 4, none⟩ = false ∧ w.frozen? ⟨g, 5, none⟩ = false :=
 ⟨h.frozen 0, h.frozen 1, h.frozen 2, h.frozen 3, h.frozen 4, h.frozen 5⟩
theorem fzs9 {w : World} {g : Nat} {t : TypeId} {cs : Array Value} (h : Blk w g t cs) : w.frozen? ⟨g, 0, none⟩ = false ∧ w.frozen? ⟨g, 1, none⟩ = false ∧ w.frozen? ⟨g, 2, none⟩ = false ∧ w.frozen? ⟨g, 3, none⟩ = false ∧ w.frozen? ⟨g, 4, none⟩ = false ∧ w.frozen? ⟨g, 5, none⟩ = false ∧ w.frozen? ⟨g, 6, none⟩ = false ∧ w.frozen? ⟨g, 7, none⟩ = false ∧ w.frozen? ⟨g, 8, none⟩ = false :=
 ⟨h.frozen 0, h.frozen 1, h.frozen 2, h.frozen 3, h.frozen 4, h.frozen 5, h.frozen 6, h.frozen 7, h.frozen 8⟩
theorem jx9 {w : World} {g : Nat} {t : TypeId} {cs : Array Value} (h : Blk w g t cs) : w.frozen? ⟨g, 0, none⟩ = false ∧ w.frozen? ⟨g, 1, none⟩ = false ∧ w.frozen? ⟨g, 2, none⟩ = false ∧ w.frozen? ⟨g, 3, none⟩ = false ∧ w.frozen? ⟨g, 4, none⟩ = false ∧ w.frozen? ⟨g, 5, none⟩ = false ∧ w.frozen? ⟨g, 6, none⟩ = false ∧ w.frozen? ⟨g, 7, none⟩ = false ∧ w.frozen? ⟨g, 8, none⟩ = false ∧ w.frozen? ⟨g, 9, none⟩ = false :=
 ⟨h.frozen 0, h.frozen 1, h.frozen 2, h.frozen 3, h.frozen 4, h.frozen 5, h.frozen 6, h.frozen 7, h.frozen 8, h.frozen 9⟩
end
theorem inoShare (w : World) : Calls Tryz.prog 109 #[] w fun e w' => e = .returned (.agg #[.int .i64 0, .int .i64 1]) ∧ Below w.heap.size w w' := by
 go_enter Tryz.func109, Tryz.ntmps109
 go_wp2
 refine bodyPost_ret (v := .agg #[.int .i64 0, .int .i64 1]) (by simp [results, Tryz.results109, go_sem]) rfl ⟨rfl, by go_grown⟩
theorem iAddQ {an ad bn bd x y : Int} (w : World) (hb : (Wsh.vfB an ad && Wsh.vfB bn bd && Wsh.redB (an * bd + bn * ad) (ad * bd)) = true) (hx : Wsh.rn (an * bd + bn * ad) (ad * bd) = x) (hy : Wsh.rd (an * bd + bn * ad) (ad * bd) = y) :
  Calls Tryz.prog 110 #[.agg #[.int .i64 an, .int .i64 ad], .agg #[.int .i64 bn, .int .i64 bd]] w fun e w' => e = .returned (.tuple #[.agg #[.int .i64 x, .int .i64 y], .bool true]) ∧ Below w.heap.size w w' := by
 have := iAdd an ad bn bd w; rw [hb, hx, hy] at this; exact this
theorem iAddN {an ad bn bd : Int} (w : World) (hb : (Wsh.vfB an ad && Wsh.vfB bn bd && Wsh.redB (an * bd + bn * ad) (ad * bd)) = false) :
  Calls Tryz.prog 110 #[.agg #[.int .i64 an, .int .i64 ad], .agg #[.int .i64 bn, .int .i64 bd]] w fun e w' => e = .returned (.tuple #[.agg #[.int .i64 0, .int .i64 0], .bool false]) ∧ Below w.heap.size w w' := by
 have := iAdd an ad bn bd w; rw [hb] at this; exact this
theorem vl_no0 {hs : List Hd} (h : 12 < hs.length) : vlR hs = false := by unfold vlR; rw [decide_eq_false (by omega : ¬ hs.length ≤ 12)]; rfl
theorem vl_no1 {hs : List Hd} (h : ascB hs = false) : vlR hs = false := by unfold vlR; rw [h]; simp
theorem vl_no2 {hs : List Hd} {k : Nat} (hk : k < hs.length) (h : okS hs k = false) : vlR hs = false := by unfold vlR allS; rw [rng_no hk h]; simp
theorem vl_end {hs : List Hd} (h1 : hs.length ≤ 12) (h2 : ascB hs = true) (h3 : ∀ j, j < hs.length → okS hs j = true) : vlR hs = decide ((sumQ hs hs.length).num = ((sumQ hs hs.length).den : Int)) := by
 unfold vlR allS; rw [decide_eq_true h1, h2, jv5 h3, decide_eq_decide.2 one_iff]; rfl
theorem sum_fr {hs : List Hd} {k : Nat} (h : ∀ j, j < k → okS hs j = true) : frB (sumQ hs k) = true := by
 cases k with
 | zero => exact frB_zero
 | succ k => exact (okS_is (h k (by omega))).2
theorem jjh {w wr : World} {g o : Nat} {hs : List Hd} (hc : ∀ i, i < hs.length → w.cell? ⟨g, o + i * 3, none⟩ = some (.int .i64 (hs.getD i hd0).1) ∧ w.cell? ⟨g, o + i * 3 + 1, none⟩ = some (.int .i64 (hs.getD i hd0).2.1) ∧ w.cell? ⟨g, o + i * 3 + 2, none⟩ = some (.int .i64 (hs.getD i hd0).2.2)) (hB : Below w.heap.size w wr) {k : Nat} (hk : k < hs.length) :
  wr.cell? ⟨g, o + k * 3, none⟩ = some (.int .i64 (hs.getD k hd0).1) ∧ wr.cell? ⟨g, o + k * 3 + 1, none⟩ = some (.int .i64 (hs.getD k hd0).2.1) ∧ wr.cell? ⟨g, o + k * 3 + 2, none⟩ = some (.int .i64 (hs.getD k hd0).2.2) := by
 obtain ⟨d0, d1, d2⟩ := hc k hk; exact ⟨(hB.cell (p := ⟨g, _, none⟩) (World.block_lt_of_cell? w _ d0)).trans d0, (hB.cell (p := ⟨g, _, none⟩) (World.block_lt_of_cell? w _ d1)).trans d1, (hB.cell (p := ⟨g, _, none⟩) (World.block_lt_of_cell? w _ d2)).trans d2⟩
theorem iVL (a : Option Addr) (cap : Nat) (hs : List Hd) (w : World) (h : IsHs w a hs) (hn : hs.length ≤ 1048576) :
    Calls Tryz.prog 45 #[.slice a hs.length cap] w fun e w' => e = .returned (.bool (vlR hs)) ∧ Below w.heap.size w w' := by
  by_cases h12 : 12 < hs.length
  · go_enter Tryz.func45, Tryz.ntmps45
    go_wp2_with fail; go_ret; exact ⟨jq4 (vl_no0 h12).symm, by go_grown⟩
  have g12 : decide (12 < (hs.length : Int)) = false := by simp; omega
  cases ha : ascB hs with
  | false =>
    have HN := Lib.hid (vl_no1 ha); have IA := iasc a cap hs w h hn; rw [ha] at IA; clear ha; go_enter Tryz.func45, Tryz.ntmps45; go_wp2_with fail; refine IA.mono ?_; rintro e w1 ⟨rfl, hb⟩; go_wp2_with fail; go_ret; exact ⟨jq4 HN.out.symm, hb⟩
  | true =>
    have HA := Lib.hid ha; have IA := iasc a cap hs w h hn; rw [ha] at IA; clear ha; go_enter Tryz.func45, Tryz.ntmps45; go_wp2_with fail; refine IA.mono ?_; rintro e w1 ⟨rfl, hb⟩; clear IA; go_wp2_with fail; refine (inoShare _).mono ?_; rintro e w2 ⟨rfl, hb2⟩; have hB := jq1 hb hb2
    obtain ⟨S, hS⟩ : ∃ S, S = w2.heap.size := ⟨_, rfl⟩
    have hSw : w.heap.size ≤ S := by rw [hS]; exact hB.size
    rcases h with rfl | ⟨g, o, rfl, hc⟩
    · go_wp2_with fail
      refine wp_loop_rounds 1 ?_; rw [rounds_succ]; go_wp2_with fail; go_ret; exact ⟨rfl, hB.alloc hB.size _⟩
    · have HC := Lib.hid hc
      clear hc; go_wp2_with fail; rw [← hS]; have hB0 : Below w.heap.size w (w2.alloc (.cells #[.int .i64 0, .int .i64 1] 32)) := hB.alloc hB.size _
      have hS0 : Blk (w2.alloc (.cells #[.int .i64 0, .int .i64 1] 32)) S 32 #[.int .i64 0, .int .i64 1] := by rw [hS]; exact Blk.new _ _ _
      clear hS hb hb2
      go_loopw [19] (fun i wr => ∃ k : Nat, k ≤ hs.length ∧ i = .int .i64 k ∧ Hid (∀ j, j < k → okS hs j = true) ∧ Blk wr S 32 #[.int .i64 (sumQ hs k).num, .int .i64 ((sumQ hs k).den : Int)] ∧ Below w.heap.size w wr) (fun i _ => hs.length - (intOf i).toNat)
      case atStart => exact ⟨0, Nat.zero_le _, rfl, fun j hj => by omega, hS0, hB0⟩
      case round =>
        clear hB0 hS0 hB; obtain ⟨k, hk, rfl, HK, hS, hB⟩ := hrel
        by_cases hlt : k < hs.length
        · obtain ⟨c0, c1, c2⟩ := jjh HC.out hB hlt
          have n0 : (hs.getD k hd0).2.1 = 0 → vlR hs = false := fun e => vl_no2 hlt (okS_no (okF_no2 e))
          have n1 : Wsh.vfB (hs.getD k hd0).2.1 (hs.getD k hd0).2.2 = false → vlR hs = false := fun e => vl_no2 hlt (okS_no (okF_no1 e))
          have n2 : frB (sumQ hs (k + 1)) = false → vlR hs = false := fun e => vl_no2 hlt (okS_no2 e)
          have y2 : Wsh.vfB (hs.getD k hd0).2.1 (hs.getD k hd0).2.2 = true → (hs.getD k hd0).2.1 ≠ 0 → frB (sumQ hs (k + 1)) = true → ∀ j, j < k + 1 → okS hs j = true := fun a b c => jj5 HK.out (okS_yes (okF_yes a b) c)
          have sr := sum_red hlt; have qf := q_vf (sum_fr HK.out); generalize hs.getD k hd0 = hh at c0 c1 c2 n0 n1 n2 y2 sr; obtain ⟨x, n, d⟩ := hh; dsimp only at c0 c1 c2 n0 n1 n2 y2 sr; obtain ⟨s0, s1, s2, s3, s4⟩ := jqh hS; have N0 := Lib.hid n0; have N1 := Lib.hid n1; have N2 := Lib.hid n2; have Y2 := Lib.hid y2; have SR := Lib.hid sr; have QF := Lib.hid qf; have HS := Lib.hid hS; have HB := Lib.hid hB; clear n0 n1 n2 y2 sr qf hS hB
          by_cases hz : n = 0
          · have e : (n == 0) = true := by simpa using hz
            have HN := Lib.hid (N0.out hz); clear hz; go_wp2_with fail; go_ret; exact ⟨jq4 HN.out.symm, HB.out.alloc HB.out.size _⟩
          · have e : (n == 0) = false := by simpa using hz
            have HZ := Lib.hid hz; clear hz
            cases hv : Wsh.vfB n d with
            | false =>
              have HN := Lib.hid (N1.out hv); have HV := Lib.hid hv; clear hv; go_wp2_with fail; refine (iAddN _ (by rw [HV.out]; simp)).mono ?_; rintro e w3 ⟨rfl, hb⟩; go_wp2_with fail; go_ret; exact ⟨jq4 HN.out.symm, (jq1 (HB.out.alloc HB.out.size _) hb).alloc (jq1 (HB.out.alloc HB.out.size _) hb).size _⟩
            | true =>
              obtain ⟨r1, r2, r3⟩ := SR.out hv
              cases hf : frB (sumQ hs (k + 1)) with
              | false =>
                have HN := Lib.hid (N2.out hf); have HR : Hid _ := r1.trans hf; clear hv hf r1 r2 r3; go_wp2_with fail; refine (iAddN _ (by rw [HR.out]; simp)).mono ?_; rintro e w3 ⟨rfl, hb⟩; go_wp2_with fail; go_ret; exact ⟨jq4 HN.out.symm, (jq1 (HB.out.alloc HB.out.size _) hb).alloc (jq1 (HB.out.alloc HB.out.size _) hb).size _⟩
              | true =>
                have HY := Lib.hid (Y2.out hv HZ.out hf); have HR := Lib.hid (r1.trans hf); have H2 := Lib.hid r2; have H3 := Lib.hid r3; have HV := Lib.hid hv; clear hv hf r1 r2 r3; go_wp2_with fail; refine (iAddQ _ (by rw [QF.out, HV.out, HR.out]; rfl) H2.out H3.out).mono ?_; rintro e w3 ⟨rfl, hb⟩; have hB3 := jq1 (HB.out.alloc HB.out.size _) hb; have hS3 := (HS.out.alloc _).next hb; obtain ⟨t0, t1, t2, t3, t4⟩ := jqh hS3; clear s0 s1 s2 s3 s4 c0 c1 c2; go_wp2_with fail
                go_roundw
                case rel => exact ⟨k + 1, by omega, by go_num, HY.out, (hS3.two _ _).alloc _, ((hB3.setCell (by exact hSw) _).setCell (by exact hSw) _).alloc (by simpa using hB3.size) _⟩
                case measure => simp [intOf]; omega
        · obtain rfl : hs.length = k := by omega
          obtain ⟨s0, s1, s2, s3, s4⟩ := jqh hS; have HN := Lib.hid (vl_end (by omega) HA.out HK.out); generalize (sumQ hs hs.length).num = x at s0 HN; generalize ((sumQ hs hs.length).den : Int) = y at s1 HN; clear hS; go_wp2_with fail; go_ret; exact ⟨jq4 HN.out.symm, hB⟩
theorem getD_setZ {zs : List Int} {i : Nat} (j : Nat) (z : Int) (hi : i < zs.length) : (zs.set i z).getD j 0 = if j = i then z else zs.getD j 0 := by
 rw [List.getD_eq_getElem?_getD, List.getD_eq_getElem?_getD, List.getElem?_set]
 by_cases e : i = j
 ·subst e; rw [if_pos rfl, if_pos hi, if_pos rfl]; rfl
 ·rw [if_neg e, if_neg (fun c => e c.symm)]
theorem ext_z {l l' : List Int} (hl : l.length = l'.length) (h : ∀ i, i < l.length → l.getD i 0 = l'.getD i 0) : l = l' := by
 apply List.ext_getElem hl
 intro i h1 h2; have := h i h1
 rwa [List.getD_eq_getElem?_getD, List.getElem?_eq_getElem h1, List.getD_eq_getElem?_getD, List.getElem?_eq_getElem h2] at this
theorem own_ints {w : World} {base : Nat} {v : Value} {zs : List Int} (h : w.ownsRow base 3 1 v zs.length (zs.map (Value.int .i64))) : ∃ (b : Option Addr) (cap : Nat), v = .slice b zs.length cap ∧ jqc w b zs := by
 have h0 := h
 rcases h.2 with ⟨hv, hn⟩ | ⟨g, cap, cur, hv, _⟩
 ·exact ⟨none, 0, by rw [hv, hn], .inl (List.eq_nil_of_length_eq_zero hn)⟩
 ·subst hv
  refine ⟨some ⟨g, 0, none⟩, cap, rfl, .inr ⟨g, 0, rfl, fun i hi => ?_⟩⟩; have := h0.cellAt i (by omega); rw [List.getElem?_map, List.getElem?_eq_getElem hi] at this; rw [Nat.zero_add, this, List.getD_eq_getElem?_getD, List.getElem?_eq_getElem hi]
  rfl
theorem take_map (l : List Int) (k : Nat) (h : k < l.length) : (l.take (k + 1)).map (Value.int .i64) = (l.take k).map (Value.int .i64) ++ [.int .i64 (l.getD k 0)] := by
 rw [List.take_succ_eq_append_getElem h, List.map_append, List.getD_eq_getElem?_getD, List.getElem?_eq_getElem h]; rfl
def OwnI (w : World) (base : Nat) (v : Value) (zs : List Int) : Prop := w.ownsRow base 3 1 v zs.length (zs.map (Value.int .i64))
theorem OwnI.nil (w : World) (base : Nat) : OwnI w base (.slice none 0 0) [] := World.ownsRow_nil w base 3 1
theorem OwnI.new {w W : World} (h : Below w.heap.size w W) : OwnI (W.alloc (.cells #[] 3)) w.heap.size (.slice (some ⟨W.heap.size, 0, none⟩) 0 0) [] :=
 ⟨by simp, .inr ⟨W.heap.size, 0, #[], rfl, h.size, Go.Deep.blk_alloc_new _ _, Nat.le_refl _, by unfold maxLen; omega, rfl, rfl⟩⟩
theorem OwnI.snoc {w : World} {base : Nat} {v : Value} {zs : List Int} {z : Int} (h : w.ownsRow base 3 1 v (zs.length + 1) (zs.map (Value.int .i64) ++ [.int .i64 z])) : OwnI w base v (zs ++ [z]) := by
 unfold OwnI; rw [List.length_append, List.map_append]; exact h
theorem OwnI.ints {w : World} {base : Nat} {v : Value} {zs : List Int} (h : OwnI w base v zs) : ∃ (b : Option Addr) (cap : Nat), v = .slice b zs.length cap ∧ jqc w b zs := own_ints h
theorem OwnI.of_block {w w' : World} {base : Nat} {v : Value} {zs : List Int} (h : OwnI w base v zs) (hb : Below w.heap.size w w') : OwnI w' base v zs := by
 refine ⟨h.1, ?_⟩
 rcases h.2 with h0 | ⟨g, cap, cur, hv, hg, hb0, r⟩
 ·exact .inl h0
 ·exact .inr ⟨g, cap, cur, hv, hg, (hb.block g (Blk.lt hb0)).trans hb0, r⟩
def OutI (w : World) (R : List Int) (e : Ending) (w' : World) : Prop := ∃ v, e = .returned v ∧ OwnI w' w.heap.size v R ∧ Below w.heap.size w w'
theorem outI_nil {w w' : World} (h : Below w.heap.size w w') : OutI w [] (.returned (.slice none 0 0)) w' := ⟨_, rfl, OwnI.nil _ _, h⟩
theorem OwnI.grow {W : World} {base : Nat} {v : Value} {zs : List Int} (h : OwnI W base v zs) : ∀ q, v.ownBlock = some q → base ≤ q := fun q hq => (World.ownsRow.lt h q hq).1
theorem OwnI.at_ {w : World} {base n c : Nat} {b : Option Addr} {zs : List Int} (h : OwnI w base (.slice b n c) zs) : jqc w b zs := by
 obtain ⟨b', c', e, hi⟩ := OwnI.ints h; injection e with e1 e2 e3; subst e1; exact hi
theorem OwnI.len_ {w : World} {base n c : Nat} {b : Option Addr} {zs : List Int} (h : OwnI w base (.slice b n c) zs) : n = zs.length := by
 obtain ⟨b', c', e, hi⟩ := OwnI.ints h; injection e with e1 e2 e3
theorem OwnI.apart {w w' : World} {base : Nat} {v : Value} {zs : List Int} {row : Option Nat} (h : OwnI w base v zs) (hg : w.grownBy w' row) (hr : ∀ q, row = some q → q < base) : OwnI w' base v zs :=
  World.ownsRow.kept h hg (by
    cases e : v.ownBlock with
    | none => exact .inl rfl
    | some k =>
      refine .inr (fun c => ?_); have a := hr k c.symm; have b := (World.ownsRow.lt h k e).1
      omega)
theorem below_gv {w a b : World} {row : Option Nat} (h : Below w.heap.size w a) (hG : a.grownBy b row) (hg : ∀ q, row = some q → w.heap.size ≤ q) : Below w.heap.size w b := h.grown hG h.size hg
theorem vals_set (zs : List Int) (j : Nat) (z : Int) : (zs.map (Value.int .i64)).set j (.int .i64 z) = (zs.set j z).map (Value.int .i64) := by rw [List.map_set]
theorem OwnI.of_row {w : World} {base g n : Nat} {f : Nat → Value} {zs : List Int} (h : w.rowIs g 3 n f) (hl : zs.length = n) (hf : ∀ j, j < n → f j = .int .i64 (zs.getD j 0)) (hb : base ≤ g) (hn : n ≤ 1048576) : OwnI w base (.slice (some ⟨g, 0, none⟩) n n) zs := by
 obtain ⟨cs, hh, hs, hc⟩ := h; refine ⟨by simp, .inr ⟨g, n, cs, by rw [hl], hb, hh, by omega, by unfold maxLen; omega, by omega, ?_⟩⟩
 apply List.ext_getElem?
 intro j; rw [List.getElem?_take, List.getElem?_map]
 by_cases e : j < zs.length
 ·rw [if_pos (by omega), Array.getElem?_toList, hc j (by omega), hf j (by omega), List.getD_eq_getElem?_getD, List.getElem?_eq_getElem e]; rfl
 ·rw [if_neg (by omega), List.getElem?_eq_none (by omega)]; rfl
theorem OwnI.made {w W : World} (h : Below w.heap.size w W) (n : Nat) (hn : n ≤ 1048576) : OwnI (W.alloc (.cells (madeCells #[.int .i64 0] n) 3)) w.heap.size (.slice (some ⟨W.heap.size, 0, none⟩) n n) (List.replicate n 0) :=
 OwnI.of_row (World.rowIs_made W (.int .i64 0) n 3) (List.length_replicate ..) (fun j hj => by rw [List.getD_eq_getElem?_getD, List.getElem?_replicate, if_pos hj]; rfl) h.size hn
theorem OwnI.set_ {w : World} {base g n c : Nat} {zs : List Int} (h : OwnI w base (.slice (some ⟨g, 0, none⟩) n c) zs) (j : Nat) (z : Int) : OwnI (w.setCell ⟨g, j, none⟩ (.int .i64 z)) base (.slice (some ⟨g, 0, none⟩) n c) (zs.set j z) := by
 obtain rfl := h.len_; have a := (World.ownsRow.stored h j (.int .i64 z)).1; rw [vals_set] at a; unfold OwnI; rw [List.length_set]; exact a
theorem OwnI.cell {w : World} {base g n c : Nat} {zs : List Int} (h : OwnI w base (.slice (some ⟨g, 0, none⟩) n c) zs) {j : Nat} (hj : j < zs.length) : w.cell? ⟨g, j, none⟩ = some (.int .i64 (zs.getD j 0)) := by
 rcases h.at_ with e | ⟨g', o', e, hc⟩
 ·rw [e] at hj; simp at hj
 ·injection e with e; injection e with e1 e2 e3; subst e1 e2
  have := hc j hj; rw [Nat.zero_add] at this; exact this
theorem OwnI.frozen {w : World} {base g n c : Nat} {zs : List Int} (h : OwnI w base (.slice (some ⟨g, 0, none⟩) n c) zs) (j : Nat) : w.frozen? ⟨g, j, none⟩ = false := by
 obtain rfl := h.len_; exact World.ownsRow.frozenAt h j
theorem OwnI.blk {w : World} {base g n c : Nat} {zs : List Int} (h : OwnI w base (.slice (some ⟨g, 0, none⟩) n c) zs) : base ≤ g ∧ g < w.heap.size := World.ownsRow.lt h g rfl
def mixZ (zs : List Int) (k : Nat) : List Int := (List.range zs.length).map fun i => if i < k then zs.getD i 0 else 0
theorem mix_len (zs : List Int) (k : Nat) : (mixZ zs k).length = zs.length := by unfold mixZ; simp
theorem mix_get (zs : List Int) (k : Nat) {i : Nat} (h : i < zs.length) : (mixZ zs k).getD i 0 = if i < k then zs.getD i 0 else 0 := by
 unfold mixZ; rw [List.getD_eq_getElem?_getD, List.getElem?_map, List.getElem?_range h]; rfl
theorem mix_all {zs : List Int} {k : Nat} (h : zs.length ≤ k) : mixZ zs k = zs := by
 refine ext_z (mix_len zs k) (fun i hi => ?_); rw [mix_len] at hi; rw [mix_get zs k hi, if_pos (by omega)]
theorem mix_none {zs : List Int} {k : Nat} (h : ∀ i, i < k → i < zs.length → zs.getD i 0 = 0) : mixZ zs k = List.replicate zs.length 0 := by
 refine ext_z (by rw [mix_len, List.length_replicate]) (fun i hi => ?_); rw [mix_len] at hi
 have e : (List.replicate zs.length (0 : Int)).getD i 0 = 0 := by rw [List.getD_eq_getElem?_getD, List.getElem?_replicate, if_pos hi]; rfl
 rw [mix_get zs k hi, e]
 split
 ·rename_i c; exact h i c hi
 ·rfl
theorem mix_set {zs : List Int} {k : Nat} (h : k < zs.length) : (mixZ zs k).set k (zs.getD k 0) = mixZ zs (k + 1) := by
 refine ext_z (by rw [List.length_set, mix_len, mix_len]) (fun i hi => ?_); rw [List.length_set, mix_len] at hi; rw [getD_setZ i _ (by rw [mix_len]; exact h), mix_get zs k hi, mix_get zs (k + 1) hi]
 by_cases e : i = k
 ·subst e; rw [if_pos rfl, if_pos (by omega)]
 ·rw [if_neg e]
  by_cases c : i < k
  ·rw [if_pos c, if_pos (by omega)]
  ·rw [if_neg c, if_neg (by omega)]
theorem g_set2 {w wr : World} {g j : Nat} {v : Value} (h : w.grownBy wr (some g)) : w.grownBy (wr.setCell ⟨g, j, none⟩ v) (some g) :=
 ⟨h.os, h.tape, h.output, by simpa [World.setCell] using h.size, fun i hi hne => (Below.heap_setCell wr ⟨g, j, none⟩ v i (by rintro rfl; exact hne rfl)).trans (h.block i hi hne)⟩
theorem g_of {w w' : World} (h : Below w.heap.size w w') (row : Option Nat) : w.grownBy w' row := ⟨h.os, h.tape, h.output, h.size, fun i hi _ => h.block i hi⟩
theorem OwnI.form_ {w : World} {base n c : Nat} {b : Option Addr} {zs : List Int} (h : OwnI w base (.slice b n c) zs) (hl : 0 < zs.length) : ∃ g, b = some ⟨g, 0, none⟩ ∧ base ≤ g := by
 obtain rfl := h.len_; obtain ⟨g, cap, hv, hg, _⟩ := World.ownsRow.form h hl; injection hv with e1 e2 e3; exact ⟨g, e1, hg⟩
section
theorem block_of_add (a : Addr) (n : Nat) : (a.add n).block = a.block := by unfold Addr.add; split <;> rfl
theorem add_of_add (a : Addr) (i j : Nat) : (a.add i).add j = a.add (i + j) := by
 unfold Addr.add
 by_cases hi : i = 0 <;> by_cases hj : j = 0 <;> simp [hi, hj, Nat.add_assoc]
def jj3 (w : World) (B size : Nat) (A : Option Addr) (n : Nat) (xs : List Value) : Prop :=
 xs.length = n * size ∧ (0 < n → ∃ ad, A = some ad ∧ ad.block < B ∧ ∀ j u, xs[j]? = some u → w.cell? (ad.add j) = some u)
section
variable {w w' : World} {B B' size n : Nat} {A : Option Addr} {xs : List Value}
theorem jj3.keep (h : jj3 w B size A n xs) (hk : ∀ p : Addr, p.block < B → w'.cell? p = w.cell? p) : jj3 w' B size A n xs :=
 ⟨h.1, fun hn => by
  obtain ⟨ad, e, hb, hc⟩ := h.2 hn
  exact ⟨ad, e, hb, fun j u hu => (hk _ (by rw [block_of_add]; exact hb)).trans (hc j u hu)⟩⟩
theorem jj3.below (h : jj3 w B size A n xs) (hb : Below B w w') : jj3 w' B size A n xs := h.keep fun _ hp => hb.cell hp
theorem jj3.alloc (h : jj3 w B size A n xs) (hB : B ≤ w.heap.size) (o : Obj) : jj3 (w.alloc o) B size A n xs := h.keep fun p hp => World.cell?_alloc_lt w o p (by omega)
theorem jj3.cut (h : jj3 w B size A n xs) {k cap : Nat} (hk : k ≤ n) (hc : n ≤ cap) :
  jj3 w B size (if cap = k then A else A.map (·.add (k * size))) (n - k) (xs.drop (k * size)) := by
 refine ⟨by rw [List.length_drop, h.1, Nat.sub_mul], fun hn => ?_⟩; obtain ⟨ad, rfl, hb, hcell⟩ := h.2 (by omega); rw [if_neg (by omega)]; refine ⟨ad.add (k * size), rfl, by rw [block_of_add]; exact hb, fun j u hu => ?_⟩; rw [add_of_add]; exact hcell _ u (by rw [← hu, List.getElem?_drop])
theorem jj3.of_own {base : Nat} {e : TypeId} {c : Nat} (h : w.ownsRow base e size (.slice A n c) n xs) : jj3 w w.heap.size size A n xs := by
 refine ⟨h.1, fun hn => ?_⟩; obtain ⟨g, cap, hv, _, hlt⟩ := h.form hn
 have hA : A = some ⟨g, 0, none⟩ := by injection hv
 subst hA; exact ⟨_, rfl, hlt, h.cells (g := g) rfl⟩
end
section
variable {P : Program} (w : World)
theorem run_append_of_nil (base : Nat) (t ty e : TypeId) (i : TypeInfo) (size : Nat) (ht : P.underlying t = some (.slice e)) (hi : P.info? e = some i)
  (v : Value) (n : Nat) (xs : List Value) (hown : w.ownsRow base e size v n xs) (c : Nat) : (Builtin.append_ #[t, t] ty #[v, .slice none 0 c]).run P w = .ok v w := by
 rcases hown.2 with ⟨rfl, rfl⟩ | ⟨g, cap, cur, rfl, _, _, hnc, _⟩
 ·simp [Builtin.append_, run_underlying ht, sizeOf, typeInfo, hi, Builtin.lenOf, Builtin.firstCells]
 ·simp [Builtin.append_, run_underlying ht, sizeOf, typeInfo, hi, Builtin.lenOf, Builtin.firstCells, hnc, storeCells]
theorem run_append_any (base : Nat) (t ty e : TypeId) (i : TypeInfo) (z : Value) (size bytes : Nat) (ht : P.underlying t = some (.slice e)) (hi : P.info? e = some i) (hz : i.zero = some z)
  (hsize : i.size = size) (hby : i.bytes = bytes) (hzs : z.cells.size = size) (hsz : 0 < size)
  (v : Value) (n : Nat) (xs : List Value) (hown : w.ownsRow base e size v n xs)
  (B : Nat) (A : Option Addr) (m c : Nat) (news : List Value) (hr : jj3 w B size A m news) (h1 : ∀ u ∈ news, u.oneCell' = true)
  (h63 : n + m ≤ maxLen) (hbytes : (n + m) * bytes ≤ 140737488355328) (hbase : base ≤ w.heap.size) :
  ∃ v' w', (Builtin.append_ #[t, t] ty #[v, .slice A m c]).run P w = .ok v' w' ∧ w'.ownsRow base e size v' (n + m) (xs ++ news) ∧ w.grownBy w' v.ownBlock ∧
   (v'.ownBlock = v.ownBlock ∨ v'.ownBlock = some w.heap.size) := by
 rcases A with _ | ad
 ·have hm : m = 0 := by
   rcases Nat.eq_zero_or_pos m with h0 | h0
   ·exact h0
   ·obtain ⟨ad, h, _⟩ := hr.2 h0
    cases h
  subst hm; have hn : news = [] := List.eq_nil_of_length_eq_zero (by simpa using hr.1); subst hn; exact ⟨v, w, run_append_of_nil w base t ty e i size ht hi v n xs hown c, by simpa using hown, World.grownBy.refl w _, .inl rfl⟩
 ·have hcells : ∀ j u, news[j]? = some u → w.cell? (ad.add j) = some u := by
   intro j u hu
   rcases Nat.eq_zero_or_pos m with h0 | h0
   ·subst h0
    have hn : news = [] := List.eq_nil_of_length_eq_zero (by simpa using hr.1); subst hn
    simp at hu
   ·obtain ⟨ad', h, _, hc⟩ := hr.2 h0
    injection h with h; subst h; exact hc j u hu
  obtain ⟨v', w', hrun, h2, h3, _, h5⟩ := run_append_own_at (P := P) w base t ty e i z size bytes ht hi hz hsize hby hzs hsz v n xs hown ad m c news hr.1 hcells h1 h63 hbytes hbase; exact ⟨v', w', hrun, h2, h3, h5⟩
theorem wp_append_any {o : Oper} {a : Act} {K : Act → World → Prop} {Q : Exit → Act → World → Prop} (s x : Operand) (t : TypeId)
  (ho : o.op = .call { callee := .builtin .append, args := #[s, x], argTypes := #[t, t] })
  (base : Nat) (e : TypeId) (i : TypeInfo) (z : Value) (size bytes : Nat) (ht : P.underlying t = some (.slice e)) (hi : P.info? e = some i) (hz : i.zero = some z)
  (hsize : i.size = size) (hby : i.bytes = bytes) (hzs : z.cells.size = size) (hsz : 0 < size)
  (v : Value) (n : Nat) (xs : List Value) (hs : a.eval s = v) (hown : w.ownsRow base e size v n xs)
  (B : Nat) (A : Option Addr) (m c : Nat) (news : List Value) (hx : a.eval x = .slice A m c) (hr : jj3 w B size A m news) (h1 : ∀ u ∈ news, u.oneCell' = true)
  (h63 : n + m ≤ maxLen) (hbytes : (n + m) * bytes ≤ 140737488355328) (hbase : base ≤ w.heap.size)
  (h : ∀ v' w', w'.ownsRow base e size v' (n + m) (xs ++ news) → w.grownBy w' v.ownBlock → (v'.ownBlock = v.ownBlock ∨ v'.ownBlock = some w.heap.size) → K (a.put o.dst v') w') : o.wp P a w K Q := by
 obtain ⟨v', w', hrun, h2, h3, h4⟩ := run_append_any (P := P) w base t o.type e i z size bytes ht hi hz hsize hby hzs hsz v n xs hown B A m c news hr h1 h63 hbytes hbase; unfold Oper.wp execOp; simp only [ho, resolve, invoke, builtin, Sem.run_bind, Sem.run_pure, Result.andThen_ok, List.map_toArray, List.map_cons, List.map_nil, hs, hx, hrun]; exact h v' w' h2 h3 h4
theorem jq2 {ops : Array Oper} {rest : List Oper} {o : Oper} {a : Act} {Q : Exit → Act → World → Prop} (hgd : o.guard = none) (s x : Operand) (t : TypeId)
  (ho : o.op = .call { callee := .builtin .append, args := #[s, x], argTypes := #[t, t] })
  (base : Nat) (e : TypeId) (i : TypeInfo) (z : Value) (size bytes : Nat) (ht : P.underlying t = some (.slice e)) (hi : P.info? e = some i) (hz : i.zero = some z)
  (hsize : i.size = size) (hby : i.bytes = bytes) (hzs : z.cells.size = size) (hsz : 0 < size)
  (v : Value) (n : Nat) (xs : List Value) (hs : a.eval s = v) (hown : w.ownsRow base e size v n xs)
  (B : Nat) (A : Option Addr) (m c : Nat) (news : List Value) (hx : a.eval x = .slice A m c) (hr : jj3 w B size A m news) (h1 : ∀ u ∈ news, u.oneCell' = true)
  (h63 : n + m ≤ maxLen) (hbytes : (n + m) * bytes ≤ 140737488355328) (hbase : base ≤ w.heap.size)
  (h : ∀ v' w', w'.ownsRow base e size v' (n + m) (xs ++ news) → w.grownBy w' v.ownBlock → (v'.ownBlock = v.ownBlock ∨ v'.ownBlock = some w.heap.size) → wpList P ops Q rest (a.put o.dst v') w') : wpList P ops Q (o :: rest) a w :=
 wpList_plain hgd fun _ hK => wp_append_any w s x t ho base e i z size bytes ht hi hz hsize hby hzs hsz v n xs hs hown B A m c news hx hr h1 h63 hbytes hbase fun v' w' h2 h3 h4 => hK _ _ (h v' w' h2 h3 h4)
theorem step_append_any {ops : Array Oper} {o : Oper} {a : Act} {K : Act → World → Prop} {Q : Exit → Act → World → Prop} {E : Prop} (hgd : o.guard = none) (s x : Operand) (t : TypeId)
  (ho : o.op = .call { callee := .builtin .append, args := #[s, x], argTypes := #[t, t] })
  (base : Nat) (e : TypeId) (i : TypeInfo) (z : Value) (size bytes : Nat) (ht : P.underlying t = some (.slice e)) (hi : P.info? e = some i) (hz : i.zero = some z)
  (hsize : i.size = size) (hby : i.bytes = bytes) (hzs : z.cells.size = size) (hsz : 0 < size)
  (v : Value) (n : Nat) (xs : List Value) (hs : a.eval s = v) (hown : w.ownsRow base e size v n xs)
  (B : Nat) (A : Option Addr) (m c : Nat) (news : List Value) (hx : a.eval x = .slice A m c) (hr : jj3 w B size A m news) (h1 : ∀ u ∈ news, u.oneCell' = true)
  (h63 : n + m ≤ maxLen) (hbytes : (n + m) * bytes ≤ 140737488355328) (hbase : base ≤ w.heap.size)
  (h : ∀ v' w', w'.ownsRow base e size v' (n + m) (xs ++ news) → w.grownBy w' v.ownBlock → (v'.ownBlock = v.ownBlock ∨ v'.ownBlock = some w.heap.size) → K (a.put o.dst v') w') :
  if Region.wanted o (yielded ops a.tmps) = true then Oper.wp P o a w K Q else E := by
 have hw : Region.wanted o (yielded ops a.tmps) = true := by simp [Region.wanted, hgd]
 rw [if_pos hw]; exact wp_append_any w s x t ho base e i z size bytes ht hi hz hsize hby hzs hsz v n xs hs hown B A m c news hx hr h1 h63 hbytes hbase h
end
end
def jz3 (hs : List Hd) : List Value := (jj8 hs).map (Value.int .i64)
theorem vals_len (hs : List Hd) : (jz3 hs).length = hs.length * 3 := by unfold jz3; rw [List.length_map, flat_len]
theorem vals_append (a b : List Hd) : jz3 (a ++ b) = jz3 a ++ jz3 b := by unfold jz3; rw [flat_append, List.map_append]
theorem vals_drop (hs : List Hd) (k : Nat) : (jz3 hs).drop (k * 3) = jz3 (hs.drop k) := by unfold jz3; rw [← List.map_drop, flat_drop]
theorem jz8 (hs : List Hd) : ∀ u ∈ jz3 hs, u.oneCell' = true := fun u hu => by
 unfold jz3 at hu; obtain ⟨z, _, rfl⟩ := List.mem_map.1 hu
 rfl
theorem vals_get {hs : List Hd} {k : Nat} (h : k < hs.length) : (jz3 hs)[k * 3]? = some (.int .i64 (hs.getD k hd0).1) ∧ (jz3 hs)[k * 3 + 1]? = some (.int .i64 (hs.getD k hd0).2.1) ∧ (jz3 hs)[k * 3 + 2]? = some (.int .i64 (hs.getD k hd0).2.2) := by
 obtain ⟨a, b, c⟩ := flat_get hs k h; have hl := flat_len hs
 have get : ∀ j, j < (jj8 hs).length → (jz3 hs)[j]? = some (.int .i64 ((jj8 hs).getD j 0)) := fun j hj => by
  unfold jz3; rw [List.getElem?_map, List.getElem?_eq_getElem hj, List.getD_eq_getElem?_getD, List.getElem?_eq_getElem hj]; rfl
 rw [get _ (by omega), get _ (by omega), get _ (by omega), a, b, c]; exact ⟨rfl, rfl, rfl⟩
theorem jv1 (g o j : Nat) : (⟨g, o, none⟩ : Addr).add j = ⟨g, o + j, none⟩ := by
 unfold Addr.add
 by_cases h : j = 0
 ·subst h; simp
 ·simp [h]
theorem jji {w : World} {a : Option Addr} {hs : List Hd} (h : IsHs w a hs) : jj3 w w.heap.size 3 a hs.length (jz3 hs) := by
 refine ⟨vals_len hs, fun hn => ?_⟩
 rcases h with rfl | ⟨g, o, rfl, hc⟩
 ·exact absurd hn (by simp)
 ·refine ⟨⟨g, o, none⟩, rfl, ?_, fun j u hu => ?_⟩
  ·exact World.block_lt_of_cell? w _ (hc 0 hn).1
  ·have hl := vals_len hs
   have hj : j < (jz3 hs).length := by
    rcases Nat.lt_or_ge j (jz3 hs).length with h | h
    ·exact h
    ·rw [List.getElem?_eq_none h] at hu; cases hu
   have hk : j / 3 < hs.length := by omega
   obtain ⟨c0, c1, c2⟩ := hc _ hk; obtain ⟨v0, v1, v2⟩ := vals_get hk
   have hm : j % 3 = 0 ∨ j % 3 = 1 ∨ j % 3 = 2 := by omega
   rw [jv1]
   rcases hm with e | e | e
   ·have ej : j = j / 3 * 3 := by omega
    rw [ej] at hu ⊢; rw [v0] at hu; rw [c0, ← hu]
   ·have ej : j = j / 3 * 3 + 1 := by omega
    rw [ej] at hu ⊢; rw [v1] at hu; rw [← Nat.add_assoc, c1, ← hu]
   ·have ej : j = j / 3 * 3 + 2 := by omega
    rw [ej] at hu ⊢; rw [v2] at hu; rw [← Nat.add_assoc, c2, ← hu]
theorem reads_hs {w : World} {B : Nat} {a : Option Addr} {hs : List Hd} (h : jj3 w B 3 a hs.length (jz3 hs)) (hsp : ∀ ad, a = some ad → ad.spot = none) : IsHs w a hs := by
 by_cases hn : hs = []
 ·exact .inl hn
 ·obtain ⟨ad, rfl, _, hc⟩ := h.2 (by cases hs with | nil => exact absurd rfl hn | cons _ _ => simp)
  obtain ⟨g, o, sp⟩ := ad; obtain rfl : sp = none := hsp _ rfl; refine .inr ⟨g, o, rfl, fun i hi => ?_⟩; obtain ⟨v0, v1, v2⟩ := vals_get hi; have e0 := hc _ _ v0; have e1 := hc _ _ v1; have e2 := hc _ _ v2; rw [jv1] at e0 e1 e2; rw [← Nat.add_assoc] at e1 e2; exact ⟨e0, e1, e2⟩
theorem infoH : (Tryz.prog.info? 123).map (fun i => (i.zero, i.size, i.bytes)) = some (some (.agg #[.int .i64 0, .int .i64 0, .int .i64 0]), 3, 24) := by kernel_rfl
def OwnH (w : World) (base : Nat) (v : Value) (hs : List Hd) : Prop := w.ownsRow base 123 3 v hs.length (jz3 hs)
theorem hs_take {w : World} {g o : Nat} {hs : List Hd} (hc : ∀ i, i < hs.length → w.cell? ⟨g, o + i * 3, none⟩ = some (.int .i64 (hs.getD i hd0).1) ∧ w.cell? ⟨g, o + i * 3 + 1, none⟩ = some (.int .i64 (hs.getD i hd0).2.1) ∧ w.cell? ⟨g, o + i * 3 + 2, none⟩ = some (.int .i64 (hs.getD i hd0).2.2)) (k : Nat) : IsHs w (some ⟨g, o, none⟩) (hs.take k) := by
 refine .inr ⟨g, o, rfl, fun i hi => ?_⟩; rw [List.length_take] at hi
 have e : (hs.take k).getD i hd0 = hs.getD i hd0 := by
  rw [List.getD_eq_getElem?_getD, List.getD_eq_getElem?_getD, List.getElem?_take_of_lt (by omega)]
 rw [e]; exact hc i (by omega)
theorem jzg (w : World) (cs : List Value) (t : TypeId) : ∀ j u, cs[j]? = some u → (w.alloc (.cells cs.toArray t)).cell? ((⟨w.heap.size, 0, none⟩ : Addr).add j) = some u := fun j u hu => by
 rw [jv1, Nat.zero_add, (Blk.new w t cs.toArray).cell j, ← hu]; simp
def Flat (w : World) (g : Nat) (t : TypeId) (zs : List Int) : Prop := ∃ cs : Array Value, w.heap[g]? = some (.cells cs t (0, 0)) ∧ ∀ j, j < zs.length → cs[j]? = some (.int .i64 (zs.getD j 0))
theorem Flat.cell {w : World} {g : Nat} {t : TypeId} {zs : List Int} (h : Flat w g t zs) {j : Nat} (hj : j < zs.length) : w.cell? ⟨g, j, none⟩ = some (.int .i64 (zs.getD j 0)) := by
 obtain ⟨cs, hb, hc⟩ := h; rw [cell_of_row w g j cs t (0, 0) hb]; exact hc j hj
theorem Flat.frozen {w : World} {g : Nat} {t : TypeId} {zs : List Int} (h : Flat w g t zs) (j : Nat) : w.frozen? ⟨g, j, none⟩ = false := by
 obtain ⟨cs, hb, hc⟩ := h
 simp [World.frozen?, hb]
theorem Flat.lt {w : World} {g : Nat} {t : TypeId} {zs : List Int} (h : Flat w g t zs) : g < w.heap.size := by
 obtain ⟨cs, hb, hc⟩ := h; exact Blk.lt hb
theorem Flat.of_block {w w' : World} {g : Nat} {t : TypeId} {zs : List Int} (h : Flat w g t zs) (e : w'.heap[g]? = w.heap[g]?) : Flat w' g t zs := by
 obtain ⟨cs, hb, hc⟩ := h; exact ⟨cs, e.trans hb, hc⟩
theorem Flat.next {w w' : World} {g : Nat} {t : TypeId} {zs : List Int} (h : Flat w g t zs) (hb : Below w.heap.size w w') : Flat w' g t zs := h.of_block (hb.block g h.lt)
theorem getD_setF {zs : List Int} {i j : Nat} {z : Int} (hi : i < zs.length) : (zs.set i z).getD j 0 = if j = i then z else zs.getD j 0 := by
 rw [List.getD_eq_getElem?_getD, List.getD_eq_getElem?_getD, List.getElem?_set]
 by_cases e : i = j
 ·subst e; rw [if_pos rfl, if_pos hi, if_pos rfl]; rfl
 ·rw [if_neg e, if_neg (fun c => e c.symm)]
theorem Flat.set_ {w : World} {g : Nat} {t : TypeId} {zs : List Int} (h : Flat w g t zs) {i : Nat} (hi : i < zs.length) (z : Int) : Flat (w.setCell ⟨g, i, none⟩ (.int .i64 z)) g t (zs.set i z) := by
 obtain ⟨cs, hb, hc⟩ := h; refine ⟨cs.setIfInBounds i (.int .i64 z), Blk.set_ hb i _, fun j hj => ?_⟩; rw [List.length_set] at hj
 have hs : i < cs.size := by
  have := hc i hi
  rcases Nat.lt_or_ge i cs.size with h | h
  ·exact h
  ·rw [Array.getElem?_eq_none h] at this; cases this
 rw [Array.getElem?_setIfInBounds, getD_setF hi]
 by_cases e : i = j
 ·subst e; rw [if_pos rfl, if_pos hs, if_pos rfl]
 ·rw [if_neg e, if_neg (fun c => e c.symm)]; exact hc j hj
theorem Flat.own {w : World} {base : Nat} {e : TypeId} {size n : Nat} {v : Value} {zs : List Int} (h : w.ownsRow base e size v n (zs.map (Value.int .i64))) : (v = .slice none 0 0 ∧ n = 0) ∨ ∃ g cap, v = .slice (some ⟨g, 0, none⟩) n cap ∧ base ≤ g ∧ Flat w g e zs ∧ n ≤ cap := by
 rcases h.2 with h0 | ⟨g, cap, cur, rfl, hg, hb, hnc, _, _, ht⟩
 ·exact .inl h0
 ·refine .inr ⟨g, cap, rfl, hg, ⟨cur, hb, fun j hj => ?_⟩, hnc⟩
  have hl := h.1; rw [List.length_map] at hl
  have : (List.take (n * size) cur.toList)[j]? = some (.int .i64 (zs.getD j 0)) := by
   rw [ht, List.getElem?_map, List.getElem?_eq_getElem hj, List.getD_eq_getElem?_getD, List.getElem?_eq_getElem hj]; rfl
  rw [List.getElem?_take_of_lt (by omega)] at this
  simpa using this
theorem Flat.hs {w : World} {g : Nat} {t : TypeId} {hs : List Hd} (h : Flat w g t (jj8 hs)) : IsHs w (some ⟨g, 0, none⟩) hs := by
 refine .inr ⟨g, 0, rfl, fun i hi => ?_⟩; obtain ⟨a, b, c⟩ := flat_get hs i hi; have hl := flat_len hs; rw [Nat.zero_add]; exact ⟨by rw [h.cell (by omega), a], by rw [h.cell (by omega), b], by rw [h.cell (by omega), c]⟩
def RowF (w : World) (base : Nat) (t : TypeId) (v : Value) (n : Nat) (zs : List Int) : Prop := (v = .slice none 0 0 ∧ n = 0) ∨ ∃ g cap, v = .slice (some ⟨g, 0, none⟩) n cap ∧ base ≤ g ∧ Flat w g t zs ∧ n ≤ cap
theorem RowF.next {w w' : World} {base n : Nat} {t : TypeId} {v : Value} {zs : List Int} (h : RowF w base t v n zs) (hb : Below w.heap.size w w') : RowF w' base t v n zs := by
 rcases h with h | ⟨g, cap, hv, hg, F, hc⟩
 ·exact .inl h
 ·exact .inr ⟨g, cap, hv, hg, F.next hb, hc⟩
theorem RowF.base {w : World} {a b n : Nat} {t : TypeId} {v : Value} {zs : List Int} (h : RowF w b t v n zs) (hab : a ≤ b) : RowF w a t v n zs := by
 rcases h with h | ⟨g, cap, hv, hg, r⟩
 ·exact .inl h
 ·exact .inr ⟨g, cap, hv, Nat.le_trans hab hg, r⟩
theorem RowF.far {w w' : World} {base n : Nat} {t : TypeId} {v : Value} {zs : List Int} {row : Option Nat} (h : RowF w base t v n zs) (hG : w.grownBy w' row) (hr : ∀ q, row = some q → q < base) : RowF w' base t v n zs := by
 rcases h with h | ⟨g, cap, hv, hg, F, hc⟩
 ·exact .inl h
 ·refine .inr ⟨g, cap, hv, hg, F.of_block (hG.block g F.lt ?_), hc⟩
  intro c; have := hr g c.symm
  omega
theorem rowN {w w' : World} {base n size : Nat} {t : TypeId} {v : Value} {xs : List Value} (h : w.ownsRow base t size v n xs) (hb : Below w.heap.size w w') : w'.ownsRow base t size v n xs := by
 refine ⟨h.1, ?_⟩
 rcases h.2 with h0 | ⟨g, cap, cur, hv, hg, hb0, r⟩
 ·exact .inl h0
 ·exact .inr ⟨g, cap, cur, hv, hg, (hb.block g (Blk.lt hb0)).trans hb0, r⟩
theorem rowH {w w' : World} {base n size : Nat} {t : TypeId} {v : Value} {xs : List Value} (h : w.ownsRow base t size v n xs) (hk : ∀ (g : Nat) (cs : Array Value), w.heap[g]? = some (Obj.cells cs t (0, 0)) → w'.heap[g]? = w.heap[g]?) : w'.ownsRow base t size v n xs := by
 refine ⟨h.1, ?_⟩
 rcases h.2 with h0 | ⟨g, cap, cur, hv, hg, hb0, r⟩
 ·exact .inl h0
 ·exact .inr ⟨g, cap, cur, hv, hg, (hk g cur hb0).trans hb0, r⟩
theorem blk_type {w : World} {b g : Nat} {t t' : TypeId} {cs cs' : Array Value} (K : Blk w b t cs) (h : w.heap[g]? = some (Obj.cells cs' t' (0, 0))) (hne : t ≠ t') : g ≠ b := by
 rintro rfl; unfold Blk at K; rw [K] at h; injection h with e; injection e with _ e2; exact hne e2
theorem rowS {w : World} {base n size b : Nat} {t t' : TypeId} {v : Value} {xs : List Value} {cs : Array Value} (h : w.ownsRow base t size v n xs) (K : Blk w b t' cs) (hne : t' ≠ t) (j : Nat) (x : Value) : (w.setCell ⟨b, j, none⟩ x).ownsRow base t size v n xs :=
 rowH h (fun g cs' hg => Below.heap_setCell w ⟨b, j, none⟩ x g (blk_type K hg hne))
theorem rowG {w w' : World} {base n size : Nat} {t : TypeId} {v : Value} {xs : List Value} {O : Obj} (h : w.ownsRow base t size v n xs) (hG : (w.alloc O).grownBy w' (some w.heap.size)) : w'.ownsRow base t size v n xs :=
 rowH h (fun g cs hg => by
  have hlt : g < w.heap.size := Blk.lt hg
  exact (hG.block g (by simp; omega) (fun e => by injection e with e; omega)).trans (Below.heap_alloc w O g hlt))
theorem blkN {w w' : World} {g : Nat} {t : TypeId} {cs : Array Value} {O : Obj} (h : Blk w g t cs) (hG : (w.alloc O).grownBy w' (some w.heap.size)) : Blk w' g t cs :=
 (h.alloc O).grown hG (fun e => by injection e with e; exact absurd h.lt (by omega))
theorem belN {w0 w w' : World} {O : Obj} (h : Below w0.heap.size w0 w) (hG : (w.alloc O).grownBy w' (some w.heap.size)) : Below w0.heap.size w0 w' :=
 (h.alloc h.size O).grown hG (by have := h.size; simp; omega) (fun q e => by injection e with e; have := h.size; omega)
theorem jj9 {w : World} {base n size : Nat} {t : TypeId} {v : Value} {xs : List Value} (h : w.ownsRow base t size v n xs) : ∃ b k, v = .slice b n k ∧ n ≤ k := by
 rcases h.2 with ⟨e, h0⟩ | ⟨g, cap, cur, e, _, _, hc, _⟩
 ·exact ⟨none, 0, by rw [e, h0], by omega⟩
 ·exact ⟨_, _, e, hc⟩
theorem jqe {w : World} {base n size : Nat} {t : TypeId} {v : Value} {zs : List Int} (h : w.ownsRow base t size v n (zs.map (Value.int .i64))) : RowF w base t v n zs := Flat.own h
def sets6 (w : World) (b : Nat) (v0 v1 v2 v3 v4 v5 : Value) : World := ((((((w.setCell ⟨b, 0, none⟩ v0).setCell ⟨b, 1, none⟩ v1).setCell ⟨b, 2, none⟩ v2).setCell ⟨b, 3, none⟩ v3).setCell ⟨b, 4, none⟩ v4).setCell ⟨b, 5, none⟩ v5)
theorem sets6_blk {w : World} {b : Nat} {t : TypeId} {u0 u1 u2 u3 u4 u5 v0 v1 v2 v3 v4 v5 : Value} (h : Blk w b t #[u0, u1, u2, u3, u4, u5]) : Blk (sets6 w b v0 v1 v2 v3 v4 v5) b t #[v0, v1, v2, v3, v4, v5] := by
 have k := ((((((h.set_ 0 v0).set_ 1 v1).set_ 2 v2).set_ 3 v3).set_ 4 v4).set_ 5 v5)
 simp only [List.setIfInBounds_toArray, List.set_cons_zero, List.set_cons_succ] at k; exact k
theorem cells6 {w : World} {g : Nat} {t : TypeId} {v0 v1 v2 v3 v4 v5 : Value} (h : Blk w g t #[v0, v1, v2, v3, v4, v5]) : w.cell? ⟨g, 0, none⟩ = some v0 ∧ w.cell? ⟨g, 1, none⟩ = some v1 ∧ w.cell? ⟨g, 2, none⟩ = some v2 ∧ w.cell? ⟨g, 3, none⟩ = some v3 ∧ w.cell? ⟨g, 4, none⟩ = some v4 ∧ w.cell? ⟨g, 5, none⟩ = some v5 := ⟨h.cell 0, h.cell 1, h.cell 2, h.cell 3, h.cell 4, h.cell 5⟩
def sets9 (w : World) (b : Nat) (v0 v1 v2 v3 v4 v5 v6 v7 v8 : Value) : World := (((((((((w.setCell ⟨b, 0, none⟩ v0).setCell ⟨b, 1, none⟩ v1).setCell ⟨b, 2, none⟩ v2).setCell ⟨b, 3, none⟩ v3).setCell ⟨b, 4, none⟩ v4).setCell ⟨b, 5, none⟩ v5).setCell ⟨b, 6, none⟩ v6).setCell ⟨b, 7, none⟩ v7).setCell ⟨b, 8, none⟩ v8)
theorem jxg {w : World} {b : Nat} {t : TypeId} {u0 u1 u2 u3 u4 u5 u6 u7 u8 v0 v1 v2 v3 v4 v5 v6 v7 v8 : Value} (h : Blk w b t #[u0, u1, u2, u3, u4, u5, u6, u7, u8]) : Blk (sets9 w b v0 v1 v2 v3 v4 v5 v6 v7 v8) b t #[v0, v1, v2, v3, v4, v5, v6, v7, v8] := by
 have k := (((((((((h.set_ 0 v0).set_ 1 v1).set_ 2 v2).set_ 3 v3).set_ 4 v4).set_ 5 v5).set_ 6 v6).set_ 7 v7).set_ 8 v8)
 simp only [List.setIfInBounds_toArray, List.set_cons_zero, List.set_cons_succ] at k; exact k
theorem jqa {w : World} {g : Nat} {t : TypeId} {v0 v1 v2 v3 v4 v5 v6 v7 v8 : Value} (h : Blk w g t #[v0, v1, v2, v3, v4, v5, v6, v7, v8]) : w.cell? ⟨g, 0, none⟩ = some v0 ∧ w.cell? ⟨g, 1, none⟩ = some v1 ∧ w.cell? ⟨g, 2, none⟩ = some v2 ∧ w.cell? ⟨g, 3, none⟩ = some v3 ∧ w.cell? ⟨g, 4, none⟩ = some v4 ∧ w.cell? ⟨g, 5, none⟩ = some v5 ∧ w.cell? ⟨g, 6, none⟩ = some v6 ∧ w.cell? ⟨g, 7, none⟩ = some v7 ∧ w.cell? ⟨g, 8, none⟩ = some v8 := ⟨h.cell 0, h.cell 1, h.cell 2, h.cell 3, h.cell 4, h.cell 5, h.cell 6, h.cell 7, h.cell 8⟩
theorem fS {w y : World} {g b j : Nat} {t : TypeId} {cs : Array Value} {v : Value} (h : Blk w g t cs) (hy : y = w.setCell ⟨b, j, none⟩ v) (hn : g ≠ b) : Blk y g t cs := by subst hy; exact h.far (p := ⟨b, j, none⟩) hn v
theorem fS2 {w y : World} {g b j j2 : Nat} {t : TypeId} {cs : Array Value} {v v2 : Value} (h : Blk w g t cs) (hy : y = (w.setCell ⟨b, j, none⟩ v).setCell ⟨b, j2, none⟩ v2) (hn : g ≠ b) : Blk y g t cs := fS (fS h rfl hn) hy hn
theorem rS {w y : World} {base n size b j : Nat} {t t' : TypeId} {v x : Value} {xs : List Value} {cs : Array Value} (h : w.ownsRow base t size v n xs) (K : Blk w b t' cs) (hy : y = w.setCell ⟨b, j, none⟩ x) (hne : t' ≠ t) : y.ownsRow base t size v n xs := by subst hy; exact rowS h K hne j x
theorem rS2 {w y : World} {base n size b j j2 : Nat} {t t' : TypeId} {v x x2 : Value} {xs : List Value} {cs : Array Value} (h : w.ownsRow base t size v n xs) (K : Blk w b t' cs) (hy : y = (w.setCell ⟨b, j, none⟩ x).setCell ⟨b, j2, none⟩ x2) (hne : t' ≠ t) : y.ownsRow base t size v n xs := rS (rS h K rfl hne) (K.set_ j x) hy hne
theorem bS {w0 w y : World} {b j : Nat} {v : Value} (h : Below w0.heap.size w0 w) (hy : y = w.setCell ⟨b, j, none⟩ v) (hb : w0.heap.size ≤ b) : Below w0.heap.size w0 y := by subst hy; exact h.setCell (p := ⟨b, j, none⟩) hb v
theorem bS2 {w0 w y : World} {b j j2 : Nat} {v v2 : Value} (h : Below w0.heap.size w0 w) (hy : y = (w.setCell ⟨b, j, none⟩ v).setCell ⟨b, j2, none⟩ v2) (hb : w0.heap.size ≤ b) : Below w0.heap.size w0 y := bS (bS h rfl hb) hy hb
theorem S10_0 {w y : World} {b : Nat} {t : TypeId} {u0 u1 u2 u3 u4 u5 u6 u7 u8 u9 v : Value} (h : Blk w b t #[u0, u1, u2, u3, u4, u5, u6, u7, u8, u9]) (hy : y = w.setCell ⟨b, 0, none⟩ v) : Blk y b t #[v, u1, u2, u3, u4, u5, u6, u7, u8, u9] := by subst hy; exact h.set_ 0 v
theorem S10_1 {w y : World} {b : Nat} {t : TypeId} {u0 u1 u2 u3 u4 u5 u6 u7 u8 u9 v : Value} (h : Blk w b t #[u0, u1, u2, u3, u4, u5, u6, u7, u8, u9]) (hy : y = w.setCell ⟨b, 1, none⟩ v) : Blk y b t #[u0, v, u2, u3, u4, u5, u6, u7, u8, u9] := by subst hy; exact h.set_ 1 v
theorem S10_2 {w y : World} {b : Nat} {t : TypeId} {u0 u1 u2 u3 u4 u5 u6 u7 u8 u9 v : Value} (h : Blk w b t #[u0, u1, u2, u3, u4, u5, u6, u7, u8, u9]) (hy : y = w.setCell ⟨b, 2, none⟩ v) : Blk y b t #[u0, u1, v, u3, u4, u5, u6, u7, u8, u9] := by subst hy; exact h.set_ 2 v
theorem S10_3 {w y : World} {b : Nat} {t : TypeId} {u0 u1 u2 u3 u4 u5 u6 u7 u8 u9 v : Value} (h : Blk w b t #[u0, u1, u2, u3, u4, u5, u6, u7, u8, u9]) (hy : y = w.setCell ⟨b, 3, none⟩ v) : Blk y b t #[u0, u1, u2, v, u4, u5, u6, u7, u8, u9] := by subst hy; exact h.set_ 3 v
theorem S10_4 {w y : World} {b : Nat} {t : TypeId} {u0 u1 u2 u3 u4 u5 u6 u7 u8 u9 v : Value} (h : Blk w b t #[u0, u1, u2, u3, u4, u5, u6, u7, u8, u9]) (hy : y = w.setCell ⟨b, 4, none⟩ v) : Blk y b t #[u0, u1, u2, u3, v, u5, u6, u7, u8, u9] := by subst hy; exact h.set_ 4 v
theorem S10_5 {w y : World} {b : Nat} {t : TypeId} {u0 u1 u2 u3 u4 u5 u6 u7 u8 u9 v : Value} (h : Blk w b t #[u0, u1, u2, u3, u4, u5, u6, u7, u8, u9]) (hy : y = w.setCell ⟨b, 5, none⟩ v) : Blk y b t #[u0, u1, u2, u3, u4, v, u6, u7, u8, u9] := by subst hy; exact h.set_ 5 v
theorem S10_7 {w y : World} {b : Nat} {t : TypeId} {u0 u1 u2 u3 u4 u5 u6 u7 u8 u9 v : Value} (h : Blk w b t #[u0, u1, u2, u3, u4, u5, u6, u7, u8, u9]) (hy : y = w.setCell ⟨b, 7, none⟩ v) : Blk y b t #[u0, u1, u2, u3, u4, u5, u6, v, u8, u9] := by subst hy; exact h.set_ 7 v
theorem S10_8 {w y : World} {b : Nat} {t : TypeId} {u0 u1 u2 u3 u4 u5 u6 u7 u8 u9 v : Value} (h : Blk w b t #[u0, u1, u2, u3, u4, u5, u6, u7, u8, u9]) (hy : y = w.setCell ⟨b, 8, none⟩ v) : Blk y b t #[u0, u1, u2, u3, u4, u5, u6, u7, v, u9] := by subst hy; exact h.set_ 8 v
theorem S10_9 {w y : World} {b : Nat} {t : TypeId} {u0 u1 u2 u3 u4 u5 u6 u7 u8 u9 v : Value} (h : Blk w b t #[u0, u1, u2, u3, u4, u5, u6, u7, u8, u9]) (hy : y = w.setCell ⟨b, 9, none⟩ v) : Blk y b t #[u0, u1, u2, u3, u4, u5, u6, u7, u8, v] := by subst hy; exact h.set_ 9 v
theorem S10_3x2 {w y : World} {b : Nat} {t : TypeId} {u0 u1 u2 u3 u4 u5 u6 u7 u8 u9 v v2 : Value} (h : Blk w b t #[u0, u1, u2, u3, u4, u5, u6, u7, u8, u9]) (hy : y = (w.setCell ⟨b, 3, none⟩ v).setCell ⟨b, 4, none⟩ v2) : Blk y b t #[u0, u1, u2, v, v2, u5, u6, u7, u8, u9] := S10_4 (S10_3 h rfl) hy
theorem S9_0 {w y : World} {b : Nat} {t : TypeId} {u0 u1 u2 u3 u4 u5 u6 u7 u8 v : Value} (h : Blk w b t #[u0, u1, u2, u3, u4, u5, u6, u7, u8]) (hy : y = w.setCell ⟨b, 0, none⟩ v) : Blk y b t #[v, u1, u2, u3, u4, u5, u6, u7, u8] := by subst hy; exact h.set_ 0 v
theorem S9_8 {w y : World} {b : Nat} {t : TypeId} {u0 u1 u2 u3 u4 u5 u6 u7 u8 v : Value} (h : Blk w b t #[u0, u1, u2, u3, u4, u5, u6, u7, u8]) (hy : y = w.setCell ⟨b, 8, none⟩ v) : Blk y b t #[u0, u1, u2, u3, u4, u5, u6, u7, v] := by subst hy; exact h.set_ 8 v
def ofDig (d : Nat) : UInt8 := UInt8.ofNat (48 + d)
def decL (n : Nat) : List UInt8 := if n < 10 then [ofDig n] else decL (n / 10) ++ [ofDig (n % 10)]
termination_by n
decreasing_by omega
def isDig (b : UInt8) : Bool := decide (48 ≤ b.toNat) && decide (b.toNat ≤ 57)
def valL (l : List UInt8) : Nat := l.foldl (fun a b => 10 * a + (b.toNat - 48)) 0
def rdI (lim : Nat) (l : List UInt8) : Int := if l.all isDig = true ∧ l ≠ [] ∧ decL (valL l) = l ∧ valL l < lim then (valL l : Int) else -1
def rdS (lim : Nat) (s : ByteArray) : Int := rdI lim s.data.toList
theorem jxj {P : Program} {ops : Array Oper} {rest : List Oper} {op : Oper} {a : Act} {w : World} {Q : Exit → Act → World → Prop} (hgd : op.guard = none) (ty : TypeId) (x y : Operand) (ho : op.op = .store ty x y)
  (b : Nat) (v0 v1 v2 v3 v4 v5 v6 v7 v8 : Value) (hx : a.eval x = .pointer (some ⟨b, 0, none⟩)) (hy : a.eval y = .agg #[v0, v1, v2, v3, v4, v5, v6, v7, v8]) {t : TypeId} {u0 u1 u2 u3 u4 u5 u6 u7 u8 : Value} (K : Blk w b t #[u0, u1, u2, u3, u4, u5, u6, u7, u8])
  (hi : (P.info? ty).map (·.size) = some 9) (h1 : (v0.oneCell' && v1.oneCell' && v2.oneCell' && v3.oneCell' && v4.oneCell' && v5.oneCell' && v6.oneCell' && v7.oneCell' && v8.oneCell') = true)
  (h : wpList P ops Q rest (a.put op.dst undef) (sets9 w b v0 v1 v2 v3 v4 v5 v6 v7 v8)) : wpList P ops Q (op :: rest) a w := by
 have h2 : (#[v0, v1, v2, v3, v4, v5, v6, v7, v8] : Array Value).all (·.oneCell') = true := by
  simp only [Bool.and_eq_true] at h1; obtain ⟨⟨⟨⟨⟨⟨⟨⟨a0, a1⟩, a2⟩, a3⟩, a4⟩, a5⟩, a6⟩, a7⟩, a8⟩ := h1
  simp [a0, a1, a2, a3, a4, a5, a6, a7, a8]
 refine wpList_store_mid hgd ty x y ho b 0 #[v0, v1, v2, v3, v4, v5, v6, v7, v8] hx hy (fun j hj => ?_) hi h2 ?_
 ·have hj' : j < 9 := hj
  have hc : ∃ v, (#[u0, u1, u2, u3, u4, u5, u6, u7, u8] : Array Value)[j]? = some v := ⟨_, Array.getElem?_eq_getElem (by simpa using hj')⟩
  rw [Nat.zero_add]; obtain ⟨q0, q1, q2, q3, q4, q5, q6, q7, q8⟩ := jqa K; refine ⟨?_, K.frozen j⟩
  have hm : j = 0 ∨ j = 1 ∨ j = 2 ∨ j = 3 ∨ j = 4 ∨ j = 5 ∨ j = 6 ∨ j = 7 ∨ j = 8 := by omega
  rcases hm with e | e | e | e | e | e | e | e | e <;> subst e <;> simp [*]
 ·exact h
theorem wpList_str6 {P : Program} {ops : Array Oper} {rest : List Oper} {op : Oper} {a : Act} {w : World} {Q : Exit → Act → World → Prop} (hgd : op.guard = none) (ty : TypeId) (x y : Operand) (ho : op.op = .store ty x y)
  (b : Nat) (v0 v1 v2 v3 v4 v5 : Value) (hx : a.eval x = .pointer (some ⟨b, 0, none⟩)) (hy : a.eval y = .agg #[v0, v1, v2, v3, v4, v5]) {t : TypeId} {u0 u1 u2 u3 u4 u5 : Value} (K : Blk w b t #[u0, u1, u2, u3, u4, u5])
  (hi : (P.info? ty).map (·.size) = some 6) (h1 : (v0.oneCell' && v1.oneCell' && v2.oneCell' && v3.oneCell' && v4.oneCell' && v5.oneCell') = true)
  (h : wpList P ops Q rest (a.put op.dst undef) (sets6 w b v0 v1 v2 v3 v4 v5)) : wpList P ops Q (op :: rest) a w := by
 have h2 : (#[v0, v1, v2, v3, v4, v5] : Array Value).all (·.oneCell') = true := by
  simp only [Bool.and_eq_true] at h1; obtain ⟨⟨⟨⟨⟨a0, a1⟩, a2⟩, a3⟩, a4⟩, a5⟩ := h1
  simp [a0, a1, a2, a3, a4, a5]
 refine wpList_store_mid hgd ty x y ho b 0 #[v0, v1, v2, v3, v4, v5] hx hy (fun j hj => ?_) hi h2 ?_
 ·have hj' : j < 6 := hj
  have hc : ∃ v, (#[u0, u1, u2, u3, u4, u5] : Array Value)[j]? = some v := ⟨_, Array.getElem?_eq_getElem (by simpa using hj')⟩
  rw [Nat.zero_add]; obtain ⟨q0, q1, q2, q3, q4, q5⟩ := cells6 K; refine ⟨?_, K.frozen j⟩
  have hm : j = 0 ∨ j = 1 ∨ j = 2 ∨ j = 3 ∨ j = 4 ∨ j = 5 := by omega
  rcases hm with e | e | e | e | e | e <;> subst e <;> simp [*]
 ·exact h
def Rd (w : World) (b : Nat) (P : Int) : Prop := ∃ (a : Option Addr) (len cap k : Nat),
 w.cell? ⟨b, 0, none⟩ = some (.slice a len cap) ∧ w.cell? ⟨b, 1, none⟩ = some (.int .i64 (k : Int)) ∧ (k : Int) ≤ P ∧ w.frozen? ⟨b, 1, none⟩ = false ∧ len ≤ 2000 ∧
 (len = 0 ∨ ∃ ab off, a = some ⟨ab, off, none⟩ ∧ ab < b ∧ ∀ i, i < len → ∃ x : Int, w.cell? ⟨ab, off + i, none⟩ = some (.int .u8 x) ∧ 0 ≤ x ∧ x < 256)
theorem g_alloc {a w : World} {row : Option Nat} (h : a.grownBy w row) (o : Obj) : a.grownBy (w.alloc o) row :=
 ⟨h.os, h.tape, h.output, Nat.le_trans h.size (by simp), fun i hi hne => (Below.heap_alloc w o i (Nat.lt_of_lt_of_le hi h.size)).trans (h.block i hi hne)⟩
theorem g_set {a w : World} {g : Nat} (h : a.grownBy w (some g)) {p : Addr} (hp : p.block = g ∨ a.heap.size ≤ p.block) (u : Value) : a.grownBy (w.setCell p u) (some g) :=
 ⟨h.os, h.tape, h.output, by simpa [World.setCell] using h.size, fun i hi hne => (Below.heap_setCell w p u i (by
  rintro rfl
  rcases hp with hp | hp
  ·exact hne (by rw [hp])
  ·omega)).trans (h.block i hi hne)⟩
theorem jxe {a w : World} (h : Below a.heap.size a w) (row : Option Nat) : a.grownBy w row := ⟨h.os, h.tape, h.output, h.size, fun i hi _ => h.block i hi⟩
theorem g_drewN {a w : World} {row : Option Nat} (h : a.grownBy w row) (n : Nat) : a.grownBy (w.drewN n) row := ⟨h.os, h.tape, h.output, h.size, h.block⟩
theorem jqd {a b c : World} {g : Nat} (h : a.grownBy b (some g)) (k : b.grownBy c (some g)) : a.grownBy c (some g) :=
 ⟨k.os.trans h.os, k.tape.trans h.tape, k.output.trans h.output, Nat.le_trans h.size k.size, fun i hi hne => (k.block i (Nat.lt_of_lt_of_le hi h.size) hne).trans (h.block i hi hne)⟩
theorem g_cell {a w : World} {g : Nat} (h : a.grownBy w (some g)) {b o : Nat} (hb : b < a.heap.size) (hne : b ≠ g) : w.cell? ⟨b, o, none⟩ = a.cell? ⟨b, o, none⟩ :=
 World.cell?_of_block (h.block b hb (fun e => hne (by injection e)))
theorem g_frozen {a w : World} {g : Nat} (h : a.grownBy w (some g)) {b o : Nat} (hb : b < a.heap.size) (hne : b ≠ g) : w.frozen? ⟨b, o, none⟩ = a.frozen? ⟨b, o, none⟩ :=
 World.frozen?_of_block (h.block b hb (fun e => hne (by injection e)))
theorem so {w : World} {a c : Addr} {v u : Value} (h : a ≠ c) (hu : w.cell? c = some u) : (w.setCell a v).cell? c = some u := by
 rw [World.cell?_setCell_other]
 ·exact hu
 ·exact h
theorem ofInt_i64 (a : Nat) (ha : a < 9223372036854775808) : (BitVec.ofInt 64 (a : Int)).toNat = a := by
 rw [BitVec.ofInt_natCast, BitVec.toNat_ofNat]; exact Nat.mod_eq_of_lt (by omega)
theorem i64_xor_nat (a b : Nat) (ha : a < 9223372036854775808) (hb : b < 9223372036854775808) : bits .xor .i64 (a : Int) (b : Int) = ((a ^^^ b : Nat) : Int) := by
 have hx : a ^^^ b < 2 ^ 63 := Nat.xor_lt_two_pow (by omega) (by omega)
 show IntKind.i64.wrap ((BitVec.ofInt 64 (a : Int) ^^^ BitVec.ofInt 64 (b : Int)).toNat : Int) = _
 rw [BitVec.toNat_xor, ofInt_i64 a ha, ofInt_i64 b hb, IntKind.wrap_i64]
 omega
theorem mixv (X n : Int) (h0 : 0 ≤ X) (h1 : X ≤ 1000000000) (hn : 1 ≤ n) : 0 ≤ (bits .xor .i64 X (X / 64)).tmod n ∧ (bits .xor .i64 X (X / 64)).tmod n < n := by
 obtain ⟨a, rfl⟩ := Int.eq_ofNat_of_zero_le h0
 have e : ((a : Int) / 64) = ((a / 64 : Nat) : Int) := by omega
 rw [e, i64_xor_nat a (a / 64) (by omega) (by omega)]; rw [Int.tmod_eq_emod_of_nonneg (by omega)]; exact ⟨Int.emod_nonneg _ (by omega), Int.emod_lt_of_pos _ (by omega)⟩
theorem pick_low (b len cap k : Nat) (a : Option Addr) (n : Int) (w : World) (_h0 : w.cell? ⟨b, 0, none⟩ = some (.slice a len cap)) (h1 : w.cell? ⟨b, 1, none⟩ = some (.int .i64 (k : Int))) (hf : w.frozen? ⟨b, 1, none⟩ = false) (hk : (k : Int) ≤ 100000) (hn : n < 1) :
  Calls Tryz.prog 38 #[.pointer (some ⟨b, 0, none⟩), .int .i64 n] w fun e w' => e = .returned (.int .i64 0) ∧ w.setCell ⟨b, 1, none⟩ (.int .i64 ((k : Int) + 1)) = w' := by
 go_enter Tryz.func38, Tryz.ntmps38
 go_wp2
 go_ret; exact ⟨rfl, rfl⟩
theorem pick_none (b cap k : Nat) (a : Option Addr) (n : Int) (w : World) (h0 : w.cell? ⟨b, 0, none⟩ = some (.slice a 0 cap)) (h1 : w.cell? ⟨b, 1, none⟩ = some (.int .i64 (k : Int))) (hf : w.frozen? ⟨b, 1, none⟩ = false) (hk : (k : Int) ≤ 100000) (hn : 1 ≤ n) :
  Calls Tryz.prog 38 #[.pointer (some ⟨b, 0, none⟩), .int .i64 n] w fun e w' => e = .returned (.int .i64 0) ∧ w.setCell ⟨b, 1, none⟩ (.int .i64 ((k : Int) + 1)) = w' := by
 have e1 : (⟨b, 1, none⟩ : Addr) ≠ ⟨b, 0, none⟩ := by simp
 have c0 := so (v := .int .i64 ((k : Int) + 1)) e1 h0; go_enter Tryz.func38, Tryz.ntmps38
 go_wp2
 go_ret; exact ⟨rfl, rfl⟩
theorem pick_byte (b len cap k ab off : Nat) (x n : Int) (w : World) (h0 : w.cell? ⟨b, 0, none⟩ = some (.slice (some ⟨ab, off, none⟩) len cap)) (h1 : w.cell? ⟨b, 1, none⟩ = some (.int .i64 (k : Int))) (hf : w.frozen? ⟨b, 1, none⟩ = false) (hl : len ≤ 2000) (hn : 1 ≤ n) (hlt : k < len)
  (hne : ab ≠ b) (hx : w.cell? ⟨ab, off + k, none⟩ = some (.int .u8 x)) (hx0 : 0 ≤ x) (hx1 : x < 256) :
  Calls Tryz.prog 38 #[.pointer (some ⟨b, 0, none⟩), .int .i64 n] w fun e w' => e = .returned (.int .i64 (x % n)) ∧ w.setCell ⟨b, 1, none⟩ (.int .i64 ((k : Int) + 1)) = w' := by
 have e1 : (⟨b, 1, none⟩ : Addr) ≠ ⟨b, 0, none⟩ := by simp
 have e2 : (⟨b, 1, none⟩ : Addr) ≠ ⟨ab, off + k, none⟩ := by intro h; injection h with h; exact hne h.symm
 have c0 := so (v := .int .i64 ((k : Int) + 1)) e1 h0; have c2 := so (v := .int .i64 ((k : Int) + 1)) e2 hx
 have hl0 : ((len : Int) == 0) = false := by simp; omega
 clear e2; go_enter Tryz.func38, Tryz.ntmps38
 go_wp2
 go_ret; exact ⟨rfl, rfl⟩
theorem pick_mix (b len cap k ab off : Nat) (x y n : Int) (w : World) (h0 : w.cell? ⟨b, 0, none⟩ = some (.slice (some ⟨ab, off, none⟩) len cap)) (h1 : w.cell? ⟨b, 1, none⟩ = some (.int .i64 (k : Int))) (hf : w.frozen? ⟨b, 1, none⟩ = false) (hl : len ≤ 2000) (hl1 : 1 ≤ len) (hk : k ≤ 100000) (hn : 1 ≤ n) (hlt : ¬ k < len)
  (hne : ab ≠ b) (hx : w.cell? ⟨ab, off + k % len, none⟩ = some (.int .u8 x)) (hx0 : 0 ≤ x) (hx1 : x < 256) (hy : w.cell? ⟨ab, off + (k * 7 + 3) % len, none⟩ = some (.int .u8 y)) (hy0 : 0 ≤ y) (hy1 : y < 256) :
  Calls Tryz.prog 38 #[.pointer (some ⟨b, 0, none⟩), .int .i64 n] w fun e w' => (∃ v : Int, e = .returned (.int .i64 v) ∧ 0 ≤ v ∧ v < n) ∧ ∃ m, (w.setCell ⟨b, 1, none⟩ (.int .i64 ((k : Int) + 1))).drewN m = w' := by
 have e1 : (⟨b, 1, none⟩ : Addr) ≠ ⟨b, 0, none⟩ := by simp
 have e2 : (⟨b, 1, none⟩ : Addr) ≠ ⟨ab, off + k % len, none⟩ := by intro h; injection h with h; exact hne h.symm
 have e3 : (⟨b, 1, none⟩ : Addr) ≠ ⟨ab, off + (k * 7 + 3) % len, none⟩ := by intro h; injection h with h; exact hne h.symm
 have c0 := so (v := .int .i64 ((k : Int) + 1)) e1 h0; have c2 := so (v := .int .i64 ((k : Int) + 1)) e2 hx; have c3 := so (v := .int .i64 ((k : Int) + 1)) e3 hy
 have hl0 : ((len : Int) == 0) = false := by simp; omega
 have hk' : ¬ (k : Int) < (len : Int) := by omega
 have m1 : (k : Int) % (len : Int) < (len : Int) := Int.emod_lt_of_pos _ (by omega); have m2 : 0 ≤ (k : Int) % (len : Int) := Int.emod_nonneg _ (by omega); have m3 : ((k : Int) * 7 + 3) % (len : Int) < (len : Int) := Int.emod_lt_of_pos _ (by omega); have m4 : 0 ≤ ((k : Int) * 7 + 3) % (len : Int) := Int.emod_nonneg _ (by omega); have q1 : 0 ≤ (k : Int) / (len : Int) := Int.ediv_nonneg (by omega) (by omega); have q2 : (k : Int) / (len : Int) ≤ 100000 := Int.le_trans (Int.ediv_le_self _ (by omega)) (by omega); clear e2 e3; go_enter Tryz.func38, Tryz.ntmps38; go_wp2_with fail
 go_quiet (fail)
 go_wp2
 go_ret; exact ⟨⟨_, rfl, mixv _ n (by omega) (by omega) hn⟩, _, rfl⟩
def Picked (w : World) (b : Nat) (P n : Int) (e : Ending) (w' : World) : Prop := ∃ v : Nat, e = .returned (.int .i64 (v : Int)) ∧ ((v : Int) < n ∨ v = 0) ∧ Rd w' b P ∧ w.grownBy w' (some b)
theorem picked {w : World} {b : Nat} {P n v : Int} {w' : World} (h0 : 0 ≤ v) (h1 : v < n ∨ v = 0) (h2 : Rd w' b P) (h3 : w.grownBy w' (some b)) : Picked w b P n (.returned (.int .i64 v)) w' :=
 ⟨v.toNat, by rw [Int.toNat_of_nonneg h0], by omega, h2, h3⟩
theorem rd_step {w : World} {b : Nat} {P : Int} {a : Option Addr} {len cap k : Nat} (m : Nat) (h0 : w.cell? ⟨b, 0, none⟩ = some (.slice a len cap)) (h1 : w.cell? ⟨b, 1, none⟩ = some (.int .i64 (k : Int))) (hk : (k : Int) ≤ P) (hf : w.frozen? ⟨b, 1, none⟩ = false) (hl : len ≤ 2000)
  (hr : len = 0 ∨ ∃ ab off, a = some ⟨ab, off, none⟩ ∧ ab < b ∧ ∀ i, i < len → ∃ x : Int, w.cell? ⟨ab, off + i, none⟩ = some (.int .u8 x) ∧ 0 ≤ x ∧ x < 256) :
  Rd ((w.setCell ⟨b, 1, none⟩ (.int .i64 ((k : Int) + 1))).drewN m) b (P + 1) ∧ w.grownBy ((w.setCell ⟨b, 1, none⟩ (.int .i64 ((k : Int) + 1))).drewN m) (some b) := by
 have hg : w.grownBy ((w.setCell ⟨b, 1, none⟩ (.int .i64 ((k : Int) + 1))).drewN m) (some b) := g_drewN (g_set (jxe (Below.refl _ _) _) (.inl rfl) _) m; refine ⟨⟨a, len, cap, k + 1, ?_, ?_, by omega, ?_, hl, ?_⟩, hg⟩
 ·show (w.setCell ⟨b, 1, none⟩ (.int .i64 ((k : Int) + 1))).cell? _ = _
  exact so (by simp) h0
 ·show (w.setCell ⟨b, 1, none⟩ (.int .i64 ((k : Int) + 1))).cell? _ = _
  rw [World.cell?_setCell_same' _ _ _ (by rw [h1]; rfl)]; simp
 ·show (w.setCell ⟨b, 1, none⟩ (.int .i64 ((k : Int) + 1))).frozen? _ = _
  simp [go_sem, hf]
 ·rcases hr with hr | ⟨ab, off, ha, hlt, hx⟩
  ·exact .inl hr
  ·refine .inr ⟨ab, off, ha, hlt, fun i hi => ?_⟩
   obtain ⟨x, hc, h2⟩ := hx i hi; refine ⟨x, ?_, h2⟩
   show (w.setCell ⟨b, 1, none⟩ (.int .i64 ((k : Int) + 1))).cell? _ = _
   exact so (by intro h; injection h with h; omega) hc
theorem jxb (b : Nat) (P n : Int) (w : World) (h : Rd w b P) (hP : P ≤ 100000) :
  Calls Tryz.prog 38 #[.pointer (some ⟨b, 0, none⟩), .int .i64 n] w (Picked w b (P + 1) n) := by
 obtain ⟨a, len, cap, k, h0, h1, hk, hf, hl, hr⟩ := h
 by_cases hn : n < 1
 ·refine (pick_low b len cap k a n w h0 h1 hf (by omega) hn).mono ?_
  rintro e w' ⟨rfl, rfl⟩; exact picked (by omega) (.inr rfl) (rd_step 0 h0 h1 hk hf hl hr).1 (rd_step 0 h0 h1 hk hf hl hr).2
 ·by_cases hz : len = 0
  ·subst hz
   refine (pick_none b cap k a n w h0 h1 hf (by omega) (by omega)).mono ?_; rintro e w' ⟨rfl, rfl⟩; exact picked (by omega) (.inr rfl) (rd_step 0 h0 h1 hk hf hl hr).1 (rd_step 0 h0 h1 hk hf hl hr).2
  ·have hr' := hr
   rcases hr' with hr' | ⟨ab, off, rfl, hlt, hx⟩
   ·exact absurd hr' hz
   ·by_cases hkl : k < len
    ·obtain ⟨x, hc, x0, x1⟩ := hx k hkl
     refine (pick_byte b len cap k ab off x n w h0 h1 hf hl (by omega) hkl (by omega) hc x0 x1).mono ?_; rintro e w' ⟨rfl, rfl⟩; exact picked (Int.emod_nonneg _ (by omega)) (.inl (Int.emod_lt_of_pos _ (by omega))) (rd_step 0 h0 h1 hk hf hl hr).1 (rd_step 0 h0 h1 hk hf hl hr).2
    ·obtain ⟨x, hc, x0, x1⟩ := hx (k % len) (Nat.mod_lt _ (by omega))
     obtain ⟨y, hd, y0, y1⟩ := hx ((k * 7 + 3) % len) (Nat.mod_lt _ (by omega)); refine (pick_mix b len cap k ab off x y n w h0 h1 hf hl (by omega) (by omega) (by omega) hkl (by omega) hc x0 x1 hd y0 y1).mono ?_; rintro e w' ⟨⟨v, rfl, v0, v1⟩, m, rfl⟩; exact picked v0 (.inl v1) (rd_step m h0 h1 hk hf hl hr).1 (rd_step m h0 h1 hk hf hl hr).2
def Oned (w : World) (b : Nat) (P lo hi : Int) (e : Ending) (w' : World) : Prop := ∃ v : Int, e = .returned (.int .i64 v) ∧ lo ≤ v ∧ v ≤ hi ∧ Rd w' b P ∧ w.grownBy w' (some b)
theorem one_any (b g n cap : Nat) (P lo hi : Int) (w : World) (h : Rd w b P) (hP : P ≤ 100000) (hgb : g ≠ b) (hgs : g < w.heap.size) (hn : 1 ≤ n) (hn' : n ≤ 1000)
  (hc : ∀ i, i < n → ∃ z : Int, w.cell? ⟨g, i, none⟩ = some (.int .i64 z) ∧ lo ≤ z ∧ z ≤ hi) :
  Calls Tryz.prog 39 #[.pointer (some ⟨b, 0, none⟩), .slice (some ⟨g, 0, none⟩) n cap] w (Oned w b (P + 1) lo hi) := by
 go_enter Tryz.func39, Tryz.ntmps39; go_wp2_with fail; refine (jxb b P n _ h hP).mono ?_; rintro e w' ⟨v, rfl, hv, hR, hG⟩
 have hvn : v < n := by omega
 have hvi : (v : Int) < (n : Int) := by omega
 obtain ⟨z, hz, z0, z1⟩ := hc v hvn; have hz' := (g_cell (o := v) hG hgs hgb).trans hz; clear hz hc hv
 go_wp2
 go_ret; exact ⟨z, rfl, z0, z1, hR, hG⟩
def Made (w : World) (e : Ending) (w' : World) : Prop := e = .returned (.pointer (some ⟨w.heap.size, 0, none⟩)) ∧ Rd w' w.heap.size 0 ∧ Below w.heap.size w w' ∧ w.heap.size < w'.heap.size
theorem byte_bd {z : Int} (h : (Lit.int .u8 z).wf = true) : 0 ≤ z ∧ z < 256 := by
 have := bounds_u8 h
 omega
theorem rd_new (w : World) (a : Option Addr) (len cap : Nat) (t : TypeId) (hl : len ≤ 2000)
  (hr : len = 0 ∨ ∃ ab off, a = some ⟨ab, off, none⟩ ∧ ab < w.heap.size ∧ ∀ i, i < len → ∃ x : Int, w.cell? ⟨ab, off + i, none⟩ = some (.int .u8 x) ∧ 0 ≤ x ∧ x < 256) :
  Made w (.returned (.pointer (some ⟨w.heap.size, 0, none⟩))) (w.alloc (.cells #[.slice a len cap, .int .i64 0] t)) := by
 have hb : Below w.heap.size w (w.alloc (.cells #[.slice a len cap, .int .i64 0] t)) := (Below.refl _ _).alloc (Nat.le_refl _) _; refine ⟨rfl, ⟨a, len, cap, 0, by simp [go_sem], by simp [go_sem], by simp, by simp [go_sem], hl, ?_⟩, hb, by simp⟩
 rcases hr with hr | ⟨ab, off, ha, hlt, hx⟩
 ·exact .inl hr
 ·refine .inr ⟨ab, off, ha, hlt, fun i hi => ?_⟩
  obtain ⟨x, hc, h2⟩ := hx i hi; exact ⟨x, (hb.cell (p := ⟨ab, off + i, none⟩) hlt).trans hc, h2⟩
theorem row_bytes {w : World} {x : Addr} {len cap : Nat} {zs : List Int} (hl : len ≤ cap) (hz : zs.length = cap) (hcell : ∀ i, i < zs.length → w.cell? (x.add i) = some (.int .u8 (zs.getD i 0))) (hwz : ∀ n ∈ zs, (Lit.int .u8 n).wf = true) :
  len = 0 ∨ ∃ ab off, some x = some (⟨ab, off, none⟩ : Addr) ∧ ab < w.heap.size ∧ ∀ i, i < len → ∃ y : Int, w.cell? ⟨ab, off + i, none⟩ = some (.int .u8 y) ∧ 0 ≤ y ∧ y < 256 := by
 by_cases h0 : len = 0
 ·exact .inl h0
 ·obtain ⟨b, off, spot⟩ := x
  have hc := hcell 0 (by omega)
  have hspot : spot = none := by simpa [Addr.add] using World.cell?_spot hc
  subst hspot; have hlt : b < w.heap.size := World.block_lt_of_cell? w _ hc; refine .inr ⟨b, off, rfl, hlt, fun i hi => ?_⟩; have hci := hcell i (by omega)
  have hci' : w.cell? ⟨b, off + i, none⟩ = some (.int .u8 (zs.getD i 0)) := by
   by_cases hi0 : i = 0
   ·subst hi0; simpa [Addr.add] using hci
   ·simpa [Addr.add, hi0] using hci
  exact ⟨zs.getD i 0, hci', byte_bd (hwz _ (by rw [List.getD_eq_getElem?_getD, List.getElem?_eq_getElem (by omega)]; simp))⟩
theorem newReader_any (a : Option Addr) (len cap : Nat) (zs : List Int) (w : World) (h : IsRow .u8 w a len cap zs) :
  Calls Tryz.prog 34 #[.slice a len cap] w (Made w) := by
 rcases h with ⟨rfl, rfl, rfl, rfl⟩ | ⟨x, rfl, hl, hm, hz, hcell, hwz⟩
 ·go_enter Tryz.func34, Tryz.ntmps34
  go_wp2
  go_ret; exact rd_new w none 0 0 _ (by omega) (.inl rfl)
 ·have hr := row_bytes hl hz hcell hwz
  clear hcell hwz; unfold maxLen at hm
  by_cases h2 : (2000 : Int) < (len : Int)
  ·have hr2 : 2000 = 0 ∨ ∃ ab off, some x = some (⟨ab, off, none⟩ : Addr) ∧ ab < w.heap.size ∧ ∀ i, i < 2000 → ∃ y : Int, w.cell? ⟨ab, off + i, none⟩ = some (.int .u8 y) ∧ 0 ≤ y ∧ y < 256 := by
    rcases hr with hr | ⟨ab, off, ha, hb, hx⟩
    ·omega
    ·exact .inr ⟨ab, off, ha, hb, fun i hi => hx i (by omega)⟩
   have HR := Lib.hid hr2; clear hr hr2; go_enter Tryz.func34, Tryz.ntmps34
   go_wp2
   go_ret; exact rd_new w (some x) 2000 cap _ (by omega) HR.out
  ·have HR := Lib.hid hr
   clear hr; go_enter Tryz.func34, Tryz.ntmps34
   go_wp2
   go_ret; exact rd_new w (some x) len cap _ (by omega) HR.out
def Cell2 (w : World) (g : Nat) (x y : Value) : Prop := w.cell? ⟨g, 0, none⟩ = some x ∧ w.cell? ⟨g, 1, none⟩ = some y ∧ w.frozen? ⟨g, 0, none⟩ = false ∧ w.frozen? ⟨g, 1, none⟩ = false ∧ g < w.heap.size
theorem c2_new (w : World) (x y : Value) (t : TypeId) : Cell2 (w.alloc (.cells #[x, y] t)) w.heap.size x y := by
 refine ⟨?_, ?_, ?_, ?_, ?_⟩ <;> simp [go_sem]
theorem c2_below {w w' : World} {g : Nat} {x y : Value} (h : Cell2 w g x y) (hB : Below w.heap.size w w') : Cell2 w' g x y := by
 obtain ⟨h0, h1, h2, h3, h4⟩ := h; exact ⟨(hB.cell (p := ⟨g, 0, none⟩) h4).trans h0, (hB.cell (p := ⟨g, 1, none⟩) h4).trans h1, (hB.frozen (p := ⟨g, 0, none⟩) h4).trans h2, (hB.frozen (p := ⟨g, 1, none⟩) h4).trans h3, Nat.lt_of_lt_of_le h4 hB.size⟩
theorem c2_grown {w w' : World} {g b : Nat} {x y : Value} (h : Cell2 w g x y) (hG : w.grownBy w' (some b)) (hne : g ≠ b) : Cell2 w' g x y := by
 obtain ⟨h0, h1, h2, h3, h4⟩ := h; exact ⟨(g_cell hG h4 hne).trans h0, (g_cell hG h4 hne).trans h1, (g_frozen hG h4 hne).trans h2, (g_frozen hG h4 hne).trans h3, Nat.lt_of_lt_of_le h4 hG.size⟩
theorem jzb {w w' : World} {b B : Nat} {P : Int} (h : Rd w b P) (hb : b < B) (hB : Below B w w') : Rd w' b P := by
 obtain ⟨a, len, cap, k, h0, h1, hk, hf, hl, hr⟩ := h; refine ⟨a, len, cap, k, (hB.cell (p := ⟨b, 0, none⟩) hb).trans h0, (hB.cell (p := ⟨b, 1, none⟩) hb).trans h1, hk, (hB.frozen (p := ⟨b, 1, none⟩) hb).trans hf, hl, ?_⟩
 rcases hr with hr | ⟨ab, off, ha, hlt, hx⟩
 ·exact .inl hr
 ·refine .inr ⟨ab, off, ha, hlt, fun i hi => ?_⟩
  obtain ⟨x, hc, h2⟩ := hx i hi; exact ⟨x, (hB.cell (p := ⟨ab, off + i, none⟩) (Nat.lt_trans hlt hb)).trans hc, h2⟩
theorem rd_end {w w4 wf : World} {b : Nat} {P P' : Int} (hb : b < w.heap.size) (hR : Rd w4 b P') (hP : P' = P) (hG : w.grownBy w4 (some b)) (hB : Below w.heap.size w4 wf) : Rd wf b P ∧ w.grownBy wf (some b) :=
 ⟨hP ▸ jzb hR hb hB, ⟨hB.os.trans hG.os, hB.tape.trans hG.tape, hB.output.trans hG.output, Nat.le_trans hG.size hB.size, fun i hi hne => (hB.block i hi).trans (hG.block i hi hne)⟩⟩
theorem jjb {w : World} {b : Nat} {P P' : Int} (h : Rd w b P) (hP : P ≤ P') : Rd w b P' := by
 obtain ⟨a, len, cap, k, h0, h1, hk, hr⟩ := h; exact ⟨a, len, cap, k, h0, h1, by omega, hr⟩
theorem rd_alloc {w : World} {b : Nat} {P : Int} (h : Rd w b P) (hb : b < w.heap.size) (o : Obj) : Rd (w.alloc o) b P := jzb h hb ((Below.refl _ _).alloc (Nat.le_refl _) _)
theorem g_new {w w' : World} {b : Nat} {o : Obj} (h : (w.alloc o).grownBy w' (some b)) : w.grownBy w' (some b) := jqd (World.grownBy_alloc w o _) h
theorem lit_cells (w : World) (zs : List Int) (t : TypeId) (lo hi : Int) (hz : ∀ z ∈ zs, lo ≤ z ∧ z ≤ hi) :
  ∀ i, i < zs.length → ∃ z : Int, (w.alloc (.cells (zs.map (Value.int .i64)).toArray t)).cell? ⟨w.heap.size, i, none⟩ = some (.int .i64 z) ∧ lo ≤ z ∧ z ≤ hi := by
 intro i hi'; refine ⟨zs[i], ?_, hz _ (List.getElem_mem hi')⟩
 simp [World.cell?_alloc_new, hi']
theorem jvc (b n : Nat) (P lo hi : Int) (zs : List Int) (t : TypeId) (w : World) (h : Rd w b P) (hP : P ≤ 100000) (hb : b < w.heap.size) (hl : zs.length = n) (hn : 1 ≤ n) (hn' : n ≤ 1000) (hz : ∀ z ∈ zs, lo ≤ z ∧ z ≤ hi) :
  Calls Tryz.prog 39 #[.pointer (some ⟨b, 0, none⟩), .slice (some ⟨w.heap.size, 0, none⟩) n n] (w.alloc (.cells (zs.map (Value.int .i64)).toArray t)) (Oned w b (P + 1) lo hi) := by
 refine (one_any b w.heap.size n n P lo hi _ (rd_alloc h hb _) hP (by omega) (by simp) hn hn' (by rw [← hl]; exact lit_cells w zs t lo hi hz)).mono ?_; rintro e w' ⟨v, rfl, v0, v1, hR, hG⟩; exact ⟨v, rfl, v0, v1, hR, g_new hG⟩
theorem row_below {k : IntKind} {w w' : World} {a : Option Addr} {len cap : Nat} {zs : List Int} (h : IsRow k w a len cap zs) (hB : Below w.heap.size w w') : IsRow k w' a len cap zs := by
 rcases h with h | ⟨x, ha, hl, hm, hz, hcell, hwz⟩
 ·exact .inl h
 ·refine .inr ⟨x, ha, hl, hm, hz, fun i hi => ?_, hwz⟩
  have hc := hcell i hi; exact (hB.cell (World.block_lt_of_cell? w _ hc)).trans hc
def FracOf (w : World) (b : Nat) (P L K : Int) (e : Ending) (w' : World) : Prop := ∃ x y : Int, e = .returned (.agg #[.int .i64 x, .int .i64 y]) ∧ L ≤ x ∧ x ≤ K ∧ L ≤ y ∧ y ≤ K ∧ Rd w' b P ∧ w.grownBy w' (some b)
theorem someFrac_any (b : Nat) (P : Int) (w : World) (h : Rd w b P) (hP : P ≤ 90000) (hb : b < w.heap.size) :
  Calls Tryz.prog 140 #[.pointer (some ⟨b, 0, none⟩)] w (FracOf w b (P + 3) 0 1000000) := by
 go_enter Tryz.func140, Tryz.ntmps140; go_wp2_with fail; refine (jxb b P 60 _ (rd_alloc h hb _) (by omega)).mono ?_; rintro e w1 ⟨v, rfl, hv, hR1, hG1⟩; have k1 := c2_grown (c2_new w (.int .i64 0) (.int .i64 0) _) hG1 (by omega); have hG1 := g_new hG1; have hb1 := Nat.lt_of_lt_of_le hb hG1.size
 have hv60 : (v : Int) < 60 := by omega
 clear hv; go_wp2_with fail; refine (jvc b 10 (P + 1) 1 97 [2, 3, 4, 6, 8, 12, 5, 1, 97, 1 + (v : Int)] _ w1 hR1 (by omega) hb1 rfl (by omega) (by omega) (by simp; omega)).mono ?_; rintro e w2 ⟨d, rfl, d0, d1, hR2, hG2⟩; have k2 := c2_grown k1 hG2 (by omega); have hb2 := Nat.lt_of_lt_of_le hb1 hG2.size; go_wp2_with fail; refine (jxb b (P + 1 + 1) (d + 1) _ hR2 (by omega)).mono ?_; rintro e w3 ⟨u, rfl, hu, hR3, hG3⟩; have k3 := c2_grown k2 hG3 (by omega); have hb3 := Nat.lt_of_lt_of_le hb2 hG3.size
 have hud : (u : Int) ≤ d := by omega
 clear hu; go_wp2_with fail; refine (sred u d _ (by omega) (by omega) (by omega) (by omega)).mono ?_; rintro e w4 ⟨rfl, hB4⟩; obtain ⟨c0, c1, f0, f1, hz⟩ := c2_below k3 hB4; have hR4 := jzb hR3 hb3 hB4; have hG4 : w.grownBy w4 (some b) := jqd (jqd (jqd hG1 hG2) hG3) (jxe hB4 _); obtain ⟨⟨q1, q2⟩, q3, q4⟩ := Wsh.red_bd (u := (u : Int)) (d := d) (Wsh.redB u d) (by omega) hud d0 (by omega); clear hR1 hR2 hR3 hG1 hG2 hG3 hB4 k1 k2 k3; go_wp2_with fail; refine bodyPost_ret (v := .agg #[.int .i64 (Wsh.qn (Wsh.redB u d) (Wsh.rn u d)), .int .i64 (Wsh.qn (Wsh.redB u d) (Wsh.rd u d))]) (by simp [results, Tryz.results140, go_sem, c0, c1, hz]) rfl ⟨_, _, rfl, by omega, by omega, by omega, by omega, rd_end hb hR4 (by omega) hG4 (by go_grown)⟩
theorem own_ints0 {w : World} {base g cp k : Nat} {zs : List Int} (h : w.ownsRow base 3 1 (.slice (some ⟨g, 0, none⟩) k cp) k (zs.map (Value.int .i64))) : jqc w (some ⟨g, 0, none⟩) zs := by
 refine .inr ⟨g, 0, rfl, fun i hi => ?_⟩; have := h.cells (g := g) rfl i (.int .i64 (zs.getD i 0)) (by rw [List.getElem?_map, List.getD_eq_getElem?_getD, List.getElem?_eq_getElem hi]; rfl)
 rwa [jv1] at this
theorem jjj {w w' : World} {a : Option Addr} {hs : List Hd} {b base : Nat} (h : IsHs w a hs) (hb : ∀ ad, a = some ad → base ≤ ad.block) (hlt : b < base) (hG : w.grownBy w' (some b)) : IsHs w' a hs := by
 rcases h with h | ⟨g, o, ha, hc⟩
 ·exact .inl h
 ·refine .inr ⟨g, o, ha, fun i hi => ?_⟩
  have hg := hb _ ha
  have hne : g ≠ b := by
   have : base ≤ g := hg
   omega
  obtain ⟨c0, c1, c2⟩ := hc i hi; exact ⟨(g_cell hG (World.block_lt_of_cell? w _ c0) hne).trans c0, (g_cell hG (World.block_lt_of_cell? w _ c1) hne).trans c1, (g_cell hG (World.block_lt_of_cell? w _ c2) hne).trans c2⟩
def OwnerOf (w : World) (b : Nat) (P : Int) (e : Ending) (w' : World) : Prop := ∃ o : Int, e = .returned (.int .i64 o) ∧ Rd w' b (P + 3) ∧ w.grownBy w' (some b)
theorem anOwner (b : Nat) (P : Int) (a : Option Addr) (cap base : Nat) (hs : List Hd) (w : World) (h : Rd w b P) (hP : P ≤ 70000) (hb : b < w.heap.size) (hi : IsHs w a hs) (hl : hs.length ≤ 1048576) (ha : ∀ ad, a = some ad → base ≤ ad.block) (hbb : b < base) :
  Calls Tryz.prog 138 #[.pointer (some ⟨b, 0, none⟩), .slice a hs.length cap] w (OwnerOf w b P) := by
 have last : ∀ W, Rd W b (P + 1) → b < W.heap.size → w.grownBy W (some b) → True := fun _ _ _ _ => trivial
 by_cases h0 : hs.length = 0
 ·have e0 : decide ((0 : Int) < (hs.length : Int)) = false := decide_eq_false (by omega)
  go_enter Tryz.func138, Tryz.ntmps138; go_wp2_with fail; refine (jvc b 7 _ 0 1000 [1, 2, 5, 30, 999, 0, 1000] _ w h (by omega) hb rfl (by omega) (by omega) (by simp)).mono ?_; rintro e w3 ⟨d, rfl, d0, d1, hR3, hG3⟩; have HF := Lib.hid (And.intro (jjb (P' := P + 3) hR3 (by omega)) hG3); clear hR3 hG3 h; go_wp2_with fail; go_ret; exact ⟨d, rfl, HF.out.1, HF.out.2⟩
 ·have e0 : decide ((0 : Int) < (hs.length : Int)) = true := decide_eq_true (by omega)
  go_enter Tryz.func138, Tryz.ntmps138; go_wp2_with fail; refine (jxb b _ 4 _ h (by omega)).mono ?_; rintro e w2 ⟨p, rfl, hp, hR2, hG2⟩; have hb2 := Nat.lt_of_lt_of_le hb hG2.size; clear hp
  by_cases p0 : p = 0
  ·have e1 : decide ((0 : Int) < (p : Int)) = false := decide_eq_false (by omega)
   have e2 : decide (0 < p) = false := decide_eq_false (by omega); clear p0; go_wp2_with fail; refine (jvc b 7 _ 0 1000 [1, 2, 5, 30, 999, 0, 1000] _ w2 hR2 (by omega) hb2 rfl (by omega) (by omega) (by simp)).mono ?_; rintro e w3 ⟨d, rfl, d0, d1, hR3, hG3⟩; have HF := Lib.hid (And.intro (jjb (P' := P + 3) hR3 (by omega)) (jqd hG2 hG3)); clear hR3 hG3 h hR2 hG2; go_wp2_with fail; go_ret; exact ⟨d, rfl, HF.out.1, HF.out.2⟩
  ·have e1 : decide ((0 : Int) < (p : Int)) = true := decide_eq_true (by omega)
   have e2 : decide (0 < p) = true := decide_eq_true (by omega); clear p0; go_wp2_with fail; refine (jxb b _ (hs.length : Int) _ hR2 (by omega)).mono ?_; rintro e w3 ⟨u, rfl, hu, hR3, hG3⟩
   have hul : u < hs.length := by omega
   have i3 := jjj (jjj hi ha hbb hG2) ha hbb hG3; have HF := Lib.hid (And.intro (jjb (P' := P + 3) hR3 (by omega)) (jqd hG2 hG3))
   rcases i3 with rfl | ⟨g, o, rfl, hc⟩
   ·simp at hul
   obtain ⟨c0, _, _⟩ := hc u hul; generalize (hs.getD u hd0).1 = x at c0
   have u0 : (0 : Int) ≤ (u : Int) := by omega
   have u1 : (u : Int) < (hs.length : Int) := by omega
   clear hR3 hG3 h hR2 hG2 hc hu hi; go_wp2_with fail; go_ret; exact ⟨x, rfl, HF.out.1, HF.out.2⟩

def ShareV (w : World) (hs : List Hd) (o : Int) (e : Ending) (w' : World) : Prop := e = .returned (.agg #[.int .i64 (shR hs o).1, .int .i64 (shR hs o).2]) ∧ Below w.heap.size w w'
theorem shR_hit {hs : List Hd} {o : Int} {k : Nat} (hk : k < hs.length) (h : ∀ j, j < k → (hs.getD j hd0).1 ≠ o) {n d : Int} (he : hs.getD k hd0 = (o, n, d)) : shR hs o = (n, d) := by
 rw [shR_at hk h (by rw [he]), he]
theorem ishare (a : Option Addr) (cap : Nat) (hs : List Hd) (o : Int) (w : World) (h : IsHs w a hs) (hn : hs.length ≤ 1048576) :
  Calls Tryz.prog 193 #[.slice a hs.length cap, .int .i64 o] w (ShareV w hs o) := by
 rcases h with rfl | ⟨g, off, rfl, hc⟩
 ·go_enter Tryz.func193, Tryz.ntmps193
  go_wp2_with fail; refine wp_loop_rounds 1 ?_; rw [rounds_succ]; go_wp2_with fail; refine (inoShare _).mono ?_; rintro e w1 ⟨rfl, hb⟩; obtain ⟨t0, t1, t2, t3, t4⟩ := jqh ((Blk.new w 32 #[.int .i64 0, .int .i64 0]).next hb); have hB := jq1 ((Below.refl w.heap.size w).alloc (Nat.le_refl _) _) hb; clear hb; go_wp2_with fail; exact bodyPost_ret (v := .agg #[.int .i64 0, .int .i64 1]) (by simp [results, Tryz.results193, go_sem, t0, t1]) rfl ⟨rfl, (hB.setCell (by simp) _).setCell (by simp) _⟩
 ·have HC := Lib.hid hc
  clear hc; go_enter Tryz.func193, Tryz.ntmps193; go_wp2_with fail
  go_loopw [9] (fun i wr => ∃ k : Nat, k ≤ hs.length ∧ i = .int .i64 k ∧ Hid (∀ j, j < k → (hs.getD j hd0).1 ≠ o) ∧ Blk wr w.heap.size 32 #[.int .i64 0, .int .i64 0] ∧ Below w.heap.size w wr) (fun i _ => hs.length - (intOf i).toNat)
  case atStart => exact ⟨0, Nat.zero_le _, rfl, fun j hj => by omega, Blk.new _ _ _, by go_grown⟩
  case round =>
   obtain ⟨k, hk, rfl, HK, hS, hB⟩ := hrel
   by_cases hlt : k < hs.length
   ·obtain ⟨c0, c1, c2⟩ := jjh HC.out hB hlt
    have hy : (hs.getD k hd0).1 ≠ o → ∀ j, j < k + 1 → (hs.getD j hd0).1 ≠ o := fun e j hj => by
     by_cases ej : j = k
     ·subst ej; exact e
     ·exact HK.out j (by omega)
    have hh2 : ∀ n d : Int, hs.getD k hd0 = (o, n, d) → shR hs o = (n, d) := fun n d e => shR_hit hlt HK.out e
    generalize hs.getD k hd0 = hh at c0 c1 c2 hy hh2; obtain ⟨x, n, d⟩ := hh; dsimp only at c0 c1 c2 hy; obtain ⟨t0, t1, t2, t3, t4⟩ := jqh hS; have HY := Lib.hid hy; have HH := Lib.hid hh2; have HS := Lib.hid hS; have HB := Lib.hid hB; clear hy hh2 hS hB
    by_cases hx : x = o
    ·have e : (x == o) = true := by simpa using hx
     have HR : Hid (shR hs o = (n, d)) := HH.out n d (by rw [hx]); clear hx; go_wp2_with fail; exact bodyPost_ret (v := .agg #[.int .i64 n, .int .i64 d]) (by simp [results, Tryz.results193, go_sem, t0, t1, t4]) rfl ⟨by rw [HR.out], (((HB.out.setCell (by simp) _).setCell (by simp) _).alloc (by simpa using HB.out.size) _)⟩
    ·have e : (x == o) = false := by simpa using hx
     go_wp2_with fail
     go_roundw
     case rel => exact ⟨k + 1, by omega, by go_num, HY.out hx, HS.out.alloc _, HB.out.alloc HB.out.size _⟩
     case measure => simp [intOf]; omega
   ·have HN : Hid (shR hs o = (0, 1)) := shR_none (fun j hj => HK.out j (by omega))
    obtain ⟨t0, t1, t2, t3, t4⟩ := jqh hS; go_wp2_with fail; refine (inoShare _).mono ?_; rintro e w1 ⟨rfl, hb⟩; obtain ⟨t0, t1, t2, t3, t4⟩ := jqh (hS.next hb); have hB1 := jq1 hB hb; clear hb hS; go_wp2_with fail; exact bodyPost_ret (v := .agg #[.int .i64 0, .int .i64 1]) (by simp [results, Tryz.results193, go_sem, t0, t1]) rfl ⟨by rw [HN.out], (hB1.setCell (by simp) _).setCell (by simp) _⟩
theorem sshare (a : Option Addr) (cap : Nat) (hs : List Hd) (o : Int) (w : World) (h : IsHs w a hs) (hn : hs.length ≤ 1048576) :
  Calls Tryz.prog 139 #[.slice a hs.length cap, .int .i64 o] w (ShareV w hs o) := by
 rcases h with rfl | ⟨g, off, rfl, hc⟩
 ·go_enter Tryz.func139, Tryz.ntmps139
  go_wp2_with fail; refine wp_loop_rounds 1 ?_; rw [rounds_succ]; go_wp2_with fail; exact bodyPost_ret (v := .agg #[.int .i64 0, .int .i64 1]) (by simp [results, Tryz.results139, go_sem]) rfl ⟨rfl, by go_grown⟩
 ·have HC := Lib.hid hc
  clear hc; go_enter Tryz.func139, Tryz.ntmps139; go_wp2_with fail
  go_loopw [5] (fun i wr => ∃ k : Nat, k ≤ hs.length ∧ i = .int .i64 k ∧ Hid (∀ j, j < k → (hs.getD j hd0).1 ≠ o) ∧ Blk wr w.heap.size 32 #[.int .i64 0, .int .i64 0] ∧ Below w.heap.size w wr) (fun i _ => hs.length - (intOf i).toNat)
  case atStart => exact ⟨0, Nat.zero_le _, rfl, fun j hj => by omega, Blk.new _ _ _, by go_grown⟩
  case round =>
   obtain ⟨k, hk, rfl, HK, hS, hB⟩ := hrel
   by_cases hlt : k < hs.length
   ·obtain ⟨c0, c1, c2⟩ := jjh HC.out hB hlt
    have hy : (hs.getD k hd0).1 ≠ o → ∀ j, j < k + 1 → (hs.getD j hd0).1 ≠ o := fun e j hj => by
     by_cases ej : j = k
     ·subst ej; exact e
     ·exact HK.out j (by omega)
    have hh2 : ∀ n d : Int, hs.getD k hd0 = (o, n, d) → shR hs o = (n, d) := fun n d e => shR_hit hlt HK.out e
    generalize hs.getD k hd0 = hh at c0 c1 c2 hy hh2; obtain ⟨x, n, d⟩ := hh; dsimp only at c0 c1 c2 hy; obtain ⟨t0, t1, t2, t3, t4⟩ := jqh hS; have HY := Lib.hid hy; have HH := Lib.hid hh2; have HS := Lib.hid hS; have HB := Lib.hid hB; clear hy hh2 hS hB
    by_cases hx : x = o
    ·have e : (x == o) = true := by simpa using hx
     have HR : Hid (shR hs o = (n, d)) := HH.out n d (by rw [hx]); clear hx; go_wp2_with fail; exact bodyPost_ret (v := .agg #[.int .i64 n, .int .i64 d]) (by simp [results, Tryz.results139, go_sem, t0, t1]) rfl ⟨by rw [HR.out], ((HB.out.setCell (by simp) _).setCell (by simp) _)⟩
    ·have e : (x == o) = false := by simpa using hx
     go_wp2_with fail
     go_roundw
     case rel => exact ⟨k + 1, by omega, by go_num, HY.out hx, HS.out, HB.out⟩
     case measure => simp [intOf]; omega
   ·have HN : Hid (shR hs o = (0, 1)) := shR_none (fun j hj => HK.out j (by omega))
    obtain ⟨t0, t1, t2, t3, t4⟩ := jqh hS; go_wp2_with fail; exact bodyPost_ret (v := .agg #[.int .i64 0, .int .i64 1]) (by simp [results, Tryz.results139, go_sem, t0, t1]) rfl ⟨by rw [HN.out], (hB.setCell (by simp) _).setCell (by simp) _⟩
theorem jv3 {w w' : World} {p : Addr} {v : Value} (hb : Below w.heap.size w w') (h : w.cell? p = some v) : w'.cell? p = some v := (hb.cell (World.block_lt_of_cell? w _ h)).trans h
theorem keep4 {w w' : World} {p q r s : Addr} {u v x y : Value} (hb : Below w.heap.size w w') (h : w.cell? p = some u ∧ w.cell? q = some v ∧ w.cell? r = some x ∧ w.cell? s = some y) : w'.cell? p = some u ∧ w'.cell? q = some v ∧ w'.cell? r = some x ∧ w'.cell? s = some y := ⟨jv3 hb h.1, jv3 hb h.2.1, jv3 hb h.2.2.1, jv3 hb h.2.2.2⟩
def allQ (hs : List Hd) : Bool := (List.range hs.length).all (fun j => frB (sumQ hs (j + 1)))
theorem saddQ {an ad bn bd x y : Int} {b : Bool} (w : World) (ha : Wsh.vfB an ad = true) (hb : Wsh.vfB bn bd = true) (hr : Wsh.redB (an * bd + bn * ad) (ad * bd) = b) (hx : Wsh.rn (an * bd + bn * ad) (ad * bd) = x) (hy : Wsh.rd (an * bd + bn * ad) (ad * bd) = y) :
  Calls Tryz.prog 173 #[.agg #[.int .i64 an, .int .i64 ad], .agg #[.int .i64 bn, .int .i64 bd]] w fun e w' => e = .returned (.tuple #[.agg #[.int .i64 (Wsh.qn b x), .int .i64 (Wsh.qn b y)], .bool b]) ∧ Below w.heap.size w w' := by
 have := sadd an ad bn bd w ha hb; rw [hr, hx, hy] at this; exact this
def SumV (w : World) (hs : List Hd) (e : Ending) (w' : World) : Prop := e = .returned (.tuple #[.agg #[.int .i64 (Wsh.qn (allQ hs) (sumQ hs hs.length).num), .int .i64 (Wsh.qn (allQ hs) ((sumQ hs hs.length).den : Int))], .bool (allQ hs)]) ∧ Below w.heap.size w w'
theorem ssumOf (a : Option Addr) (cap : Nat) (hs : List Hd) (w : World) (h : IsHs w a hs) (hn : hs.length ≤ 1048576) (hF : allF hs = true) :
    Calls Tryz.prog 137 #[.slice a hs.length cap] w (SumV w hs) := by
  have HF := Lib.hid ((jv6 _ _).1 hF); clear hF
  rcases h with rfl | ⟨g, off, rfl, hc⟩
  · go_enter Tryz.func137, Tryz.ntmps137
    go_wp2_with fail; refine wp_loop_rounds 1 ?_; rw [rounds_succ]; go_wp2_with fail; exact bodyPost_ret (v := .tuple #[.agg #[.int .i64 0, .int .i64 1], .bool true]) (by simp [results, Tryz.results137, go_sem]) rfl ⟨rfl, by go_grown⟩
  · have HC := Lib.hid hc
    clear hc; go_enter Tryz.func137, Tryz.ntmps137; go_wp2_with fail
    go_loopw [5, 6] (fun b i wr => ∃ (k : Nat) (c : Bool), k ≤ hs.length ∧ i = .int .i64 k ∧ b = .bool c ∧ Hid (∀ j, j < k → c = true → frB (sumQ hs (j + 1)) = true) ∧ Hid (c = false → ∃ j, j < k ∧ frB (sumQ hs (j + 1)) = false) ∧
        Blk wr w.heap.size 32 #[.int .i64 0, .int .i64 0] ∧ Blk wr (w.heap.size + 1) 32 #[.int .i64 (Wsh.qn c (sumQ hs k).num), .int .i64 (Wsh.qn c ((sumQ hs k).den : Int))] ∧ Below w.heap.size w wr) (fun _ i _ => hs.length - (intOf i).toNat)
    case atStart => exact ⟨0, true, Nat.zero_le _, rfl, rfl, fun j hj => by omega, (fun c => by cases c), (Blk.new _ _ _).alloc _, by have := Blk.new (w.alloc (.cells #[.int .i64 0, .int .i64 0] 32)) 32 #[.int .i64 0, .int .i64 1]; rw [World.size_alloc] at this; exact this, by go_grown⟩
    case round =>
      obtain ⟨k, c, hk, rfl, rfl, HK, HN, hR, hS, hB⟩ := hrel
      cases c with
      | false =>
        have hq : allQ hs = false := by
          obtain ⟨j, hj, hf⟩ := HN.out rfl; exact rng_no (by omega) hf
        have HQ := Lib.hid hq; obtain ⟨t0, t1, t2, t3, t4⟩ := jqh hS; obtain ⟨r0, r1, r2, r3, r4⟩ := jqh hR; clear hq hS hR; rw [Wsh.qn_false] at t0 t1; go_wp2_with fail
        all_goals exact bodyPost_ret (v := .tuple #[.agg #[.int .i64 0, .int .i64 0], .bool false]) (by simp [results, Tryz.results137, go_sem, r0, r1]) rfl ⟨by rw [HQ.out]; rfl, (hB.setCell (by simp) _).setCell (by simp) _⟩
      | true =>
        by_cases hlt : k < hs.length
        · obtain ⟨c0, c1, c2⟩ := jjh HC.out hB hlt
          have hf := (okF_is (HF.out k hlt)).1; have sr := sum_red hlt hf
          have qf : Wsh.vfB (sumQ hs k).num ((sumQ hs k).den : Int) = true := by
            cases k with
            | zero => exact q_vf frB_zero
            | succ k => exact q_vf (HK.out k (by omega) rfl)
          have y2 : ∀ c, frB (sumQ hs (k + 1)) = c → (∀ j, j < k + 1 → c = true → frB (sumQ hs (j + 1)) = true) ∧ (c = false → ∃ j, j < k + 1 ∧ frB (sumQ hs (j + 1)) = false) := fun c e => by
            refine ⟨fun j hj ct => ?_, fun cf => ⟨k, by omega, by rw [e, cf]⟩⟩
            by_cases ej : j = k
            · subst ej; rw [e, ct]
            · exact HK.out j (by omega) rfl
          obtain ⟨sr1, sr2, sr3⟩ := sr; generalize hcc : frB (sumQ hs (k + 1)) = cc at sr1 y2; have y3 := y2 cc rfl; generalize hs.getD k hd0 = hh at c0 c1 c2 hf sr1 sr2 sr3; obtain ⟨x, n, d⟩ := hh; dsimp only at c0 c1 c2 hf sr1 sr2 sr3; have A1 := Lib.hid sr1; have A2 := Lib.hid sr2; have A3 := Lib.hid sr3; have A4 := Lib.hid qf; have A5 := Lib.hid hf; have A6 := Lib.hid y3; have HS := Lib.hid hS; have HR := Lib.hid hR; have HB := Lib.hid hB; obtain ⟨t0, t1, t2, t3, t4⟩ := jqh hS; clear sr1 sr2 sr3 qf hf y2 y3 hS hR hB hcc
          have hgne : g ≠ w.heap.size + 1 := by have := World.block_lt_of_cell? w _ (HC.out k hlt).1; dsimp only at this; omega
          have i0 : (0 : Int) ≤ (k : Int) := by omega
          have i1 : (k : Int) < (hs.length : Int) := by omega
          go_wp2_with fail
          go_region_with (first | (go_at_call 173; refine (saddQ _ A4.out A5.out A1.out A2.out A3.out).mono ?_; rintro e w3 ⟨rfl, hb⟩; obtain ⟨t0, t1, t2, t3, t4⟩ := jqh (HS.out.drew.next hb)))
          all_goals (
            have hB3 := jq1 HB.out.drew hb; have hR3 := HR.out.drew.next hb; have hS3 := HS.out.drew.next hb; go_wp2_with fail
            go_roundw
            case rel => exact ⟨k + 1, cc, by omega, by go_num, rfl, A6.out.1, A6.out.2, (hR3.far (by simp) _).far (by simp) _, hS3.two _ _, (hB3.setCell (by simp) _).setCell (by simp) _⟩
            case measure => simp [intOf]; omega)
        · obtain rfl : hs.length = k := by omega
          have hq : allQ hs = true := jv5 (fun j hj => HK.out j hj rfl); have HQ := Lib.hid hq; obtain ⟨t0, t1, t2, t3, t4⟩ := jqh hS; obtain ⟨r0, r1, r2, r3, r4⟩ := jqh hR; clear hq hS hR; rw [Wsh.qn_true] at t0 t1; go_wp2_with fail; exact bodyPost_ret (v := .tuple #[.agg #[.int .i64 (sumQ hs hs.length).num, .int .i64 ((sumQ hs hs.length).den : Int)], .bool true]) (by simp [results, Tryz.results137, go_sem, r0, r1]) rfl ⟨by rw [HQ.out]; rfl, (hB.setCell (by simp) _).setCell (by simp) _⟩
theorem vf_boolN {n d : Int} (h : Wsh.vfB n d = false) (w : World) : Calls Tryz.prog 136 #[.agg #[.int .i64 n, .int .i64 d]] w fun e w' => e = .returned (.bool false) ∧ Below w.heap.size w w' := by
 have := svalid n d w; rw [h] at this; exact this
theorem vf_boolY {n d : Int} (h : Wsh.vfB n d = true) (w : World) : Calls Tryz.prog 136 #[.agg #[.int .i64 n, .int .i64 d]] w fun e w' => e = .returned (.bool true) ∧ Below w.heap.size w w' := by
 have := svalid n d w; rw [h] at this; exact this
theorem vl_all {hs : List Hd} (h1 : ascB hs = true) (h2 : allF hs = true) : vlR hs = (allQ hs && decide (sumQ hs hs.length = 1) && decide (hs.length ≤ 12)) := by
 have e : allS hs = allQ hs := by
  unfold allS allQ; rw [Bool.eq_iff_iff, jv6, jv6]; unfold allF at h2; rw [jv6] at h2; exact ⟨fun h j hj => (okS_is (h j hj)).2, fun h j hj => okS_yes (h2 j hj) (h j hj)⟩
 unfold vlR; rw [h1, e]
 cases allQ hs <;> cases decide (sumQ hs hs.length = 1) <;> cases decide (hs.length ≤ 12) <;> rfl
theorem vl_noF {hs : List Hd} {k : Nat} (hk : k < hs.length) (h : okF hs k = false) : vlR hs = false := vl_no2 hk (okS_no h)
theorem vl_noA {hs : List Hd} {k : Nat} (hk : k < hs.length) (h : okA hs k = false) : vlR hs = false := vl_no1 (rng_no hk h)
section
open Go.ChangeShapes Go.WideShapes Go.RowKit Go.Deep
abbrev Ac := Int × Int
abbrev ac0 : Ac := (0, 0)
def jx3 : List Ac → List Int
 | [] => []
 | h :: t => h.1 :: h.2 :: jx3 t
theorem flatAc_len : ∀ xs : List Ac, (jx3 xs).length = xs.length * 2 := by
 intro xs
 induction xs with
 | nil => rfl
 | cons h t ih => show (jx3 t).length + 1 + 1 = (t.length + 1) * 2; rw [ih]; omega
theorem flatAc_append : ∀ a b : List Ac, jx3 (a ++ b) = jx3 a ++ jx3 b := by
 intro a b
 induction a with
 | nil => rfl
 | cons h t ih => show h.1 :: h.2 :: jx3 (t ++ b) = _; rw [ih]; rfl
theorem flatAc_get : ∀ (xs : List Ac) (k : Nat), k < xs.length → (jx3 xs).getD (k * 2) 0 = (xs.getD k ac0).1 ∧ (jx3 xs).getD (k * 2 + 1) 0 = (xs.getD k ac0).2 := by
  intro xs
  induction xs with
  | nil => intro k h; simp at h
  | cons h t ih =>
    intro k hk
    cases k with
    | zero => exact ⟨rfl, rfl⟩
    | succ k =>
      have := ih k (by simpa using hk); rw [show (k + 1) * 2 = k * 2 + 1 + 1 from by omega]; exact this
theorem flatAc_take (xs : List Ac) (k : Nat) : (jx3 xs).take (k * 2) = jx3 (xs.take k) := by
  induction xs generalizing k with
  | nil => simp [jx3]
  | cons h t ih =>
    cases k with
    | zero => rfl
    | succ k =>
      rw [show (k + 1) * 2 = k * 2 + 1 + 1 from by omega]
      show h.1 :: h.2 :: (jx3 t).take (k * 2) = _
      rw [ih]; rfl
theorem flatAc_drop (xs : List Ac) (k : Nat) : (jx3 xs).drop (k * 2) = jx3 (xs.drop k) := by
  induction xs generalizing k with
  | nil => simp [jx3]
  | cons h t ih =>
    cases k with
    | zero => rfl
    | succ k =>
      rw [show (k + 1) * 2 = k * 2 + 1 + 1 from by omega]
      show (jx3 t).drop (k * 2) = _
      rw [ih]; rfl
def IsAc (w : World) (a : Option Addr) (xs : List Ac) : Prop := xs = [] ∨ ∃ g o, a = some ⟨g, o, none⟩ ∧ ∀ i, i < xs.length → w.cell? ⟨g, o + i * 2, none⟩ = some (.int .i64 (xs.getD i ac0).1) ∧ w.cell? ⟨g, o + i * 2 + 1, none⟩ = some (.int .i64 (xs.getD i ac0).2)
theorem ac_below {w w' : World} {a : Option Addr} {xs : List Ac} (h : IsAc w a xs) (hB : Below w.heap.size w w') : IsAc w' a xs := by
 rcases h with h | ⟨g, o, ha, hc⟩
 ·exact .inl h
 ·refine .inr ⟨g, o, ha, fun i hi => ?_⟩
  obtain ⟨c0, c1⟩ := hc i hi
  have kp : ∀ p v, w.cell? ⟨g, p, none⟩ = some v → w'.cell? ⟨g, p, none⟩ = some v := fun p v c => (hB.cell (p := ⟨g, p, none⟩) (World.block_lt_of_cell? w _ c)).trans c
  exact ⟨kp _ _ c0, kp _ _ c1⟩
theorem ac_at {w wr : World} {g o : Nat} {xs : List Ac} (hc : ∀ i, i < xs.length → w.cell? ⟨g, o + i * 2, none⟩ = some (.int .i64 (xs.getD i ac0).1) ∧ w.cell? ⟨g, o + i * 2 + 1, none⟩ = some (.int .i64 (xs.getD i ac0).2)) (hB : Below w.heap.size w wr) {k : Nat} (hk : k < xs.length) :
  wr.cell? ⟨g, o + k * 2, none⟩ = some (.int .i64 (xs.getD k ac0).1) ∧ wr.cell? ⟨g, o + k * 2 + 1, none⟩ = some (.int .i64 (xs.getD k ac0).2) := by
 obtain ⟨c0, c1⟩ := hc k hk
 have kp : ∀ p v, w.cell? ⟨g, p, none⟩ = some v → wr.cell? ⟨g, p, none⟩ = some v := fun p v c => (hB.cell (p := ⟨g, p, none⟩) (World.block_lt_of_cell? w _ c)).trans c
 exact ⟨kp _ _ c0, kp _ _ c1⟩
theorem Flat.ac {w : World} {g : Nat} {t : TypeId} {xs : List Ac} (h : Flat w g t (jx3 xs)) : IsAc w (some ⟨g, 0, none⟩) xs := by
 refine .inr ⟨g, 0, rfl, fun i hi => ?_⟩; obtain ⟨a0, a1⟩ := flatAc_get xs i hi; have hl := flatAc_len xs; rw [Nat.zero_add]; exact ⟨by rw [h.cell (by omega), a0], by rw [h.cell (by omega), a1]⟩
theorem ac_take {w : World} {g o : Nat} {xs : List Ac} (hc : ∀ i, i < xs.length → w.cell? ⟨g, o + i * 2, none⟩ = some (.int .i64 (xs.getD i ac0).1) ∧ w.cell? ⟨g, o + i * 2 + 1, none⟩ = some (.int .i64 (xs.getD i ac0).2)) (k : Nat) : IsAc w (some ⟨g, o, none⟩) (xs.take k) := by
 refine .inr ⟨g, o, rfl, fun i hi => ?_⟩; rw [List.length_take] at hi
 have e : (xs.take k).getD i ac0 = xs.getD i ac0 := by
  rw [List.getD_eq_getElem?_getD, List.getD_eq_getElem?_getD, List.getElem?_take_of_lt (by omega)]
 rw [e]; exact hc i (by omega)
def jz5 (xs : List Ac) : List Value := (jx3 xs).map (Value.int .i64)
theorem valsAc_len (xs : List Ac) : (jz5 xs).length = xs.length * 2 := by unfold jz5; rw [List.length_map, flatAc_len]
theorem valsAc_append (a b : List Ac) : jz5 (a ++ b) = jz5 a ++ jz5 b := by unfold jz5; rw [flatAc_append, List.map_append]
theorem jqg (xs : List Ac) : ∀ u ∈ jz5 xs, u.oneCell' = true := fun u hu => by
 unfold jz5 at hu; obtain ⟨z, _, rfl⟩ := List.mem_map.1 hu
 rfl
theorem valsAc_get {xs : List Ac} {k : Nat} (h : k < xs.length) : (jz5 xs)[k * 2]? = some (.int .i64 (xs.getD k ac0).1) ∧ (jz5 xs)[k * 2 + 1]? = some (.int .i64 (xs.getD k ac0).2) := by
 obtain ⟨a0, a1⟩ := flatAc_get xs k h; have hl := flatAc_len xs
 have get : ∀ j, j < (jx3 xs).length → (jz5 xs)[j]? = some (.int .i64 ((jx3 xs).getD j 0)) := fun j hj => by
  unfold jz5; rw [List.getElem?_map, List.getElem?_eq_getElem hj, List.getD_eq_getElem?_getD, List.getElem?_eq_getElem hj]; rfl
 rw [get _ (by omega), get _ (by omega), a0, a1]; exact ⟨rfl, rfl⟩
theorem jvd {w : World} {a : Option Addr} {xs : List Ac} (h : IsAc w a xs) : jj3 w w.heap.size 2 a xs.length (jz5 xs) := by
 refine ⟨valsAc_len xs, fun hn => ?_⟩
 rcases h with rfl | ⟨g, o, rfl, hc⟩
 ·exact absurd hn (by simp)
 ·refine ⟨⟨g, o, none⟩, rfl, ?_, fun j u hu => ?_⟩
  ·exact World.block_lt_of_cell? w _ (hc 0 hn).1
  ·have hl := valsAc_len xs
   have hj : j < (jz5 xs).length := by
    rcases Nat.lt_or_ge j (jz5 xs).length with h | h
    ·exact h
    ·rw [List.getElem?_eq_none h] at hu; cases hu
   have hk : j / 2 < xs.length := by omega
   obtain ⟨c0, c1⟩ := hc _ hk; obtain ⟨v0, v1⟩ := valsAc_get hk
   have hm : j % 2 = 0 ∨ j % 2 = 1 := by omega
   rw [jv1]
   rcases hm with e | e
   ·have ej : j = j / 2 * 2 := by omega
    rw [ej] at hu ⊢; rw [v0] at hu; rw [c0, ← hu]
   ·have ej : j = j / 2 * 2 + 1 := by omega
    rw [ej] at hu ⊢; rw [v1] at hu; rw [← Nat.add_assoc, c1, ← hu]
theorem infoAc : (Tryz.prog.info? 71).map (fun i => (i.zero, i.size, i.bytes)) = some (some (.agg #[.int .i64 0, .int .i64 0]), 2, 16) := by kernel_rfl
def OwnAc (w : World) (base : Nat) (v : Value) (xs : List Ac) : Prop := w.ownsRow base 71 2 v xs.length (jz5 xs)
end
end Go.Proofs.YtaehemmjemhgpabGreat
