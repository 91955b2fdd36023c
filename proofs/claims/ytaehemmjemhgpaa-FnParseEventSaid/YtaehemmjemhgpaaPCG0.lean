/- Contracts and facts of functions of this program, in build order. Conditions: those stated in each. -/
import Derived.Test.YtaehemmjemhgpaaChecked
import Derived.OrdersHeld
import Derived.WalkKit
import Derived.Below
import Derived.Lib.Hide
import Derived.Outline
import Derived.Deep.LoopGhost
import Derived.Handy
import Derived.Deep.QuietTactic
import Derived.BigQuiet
import Derived.Laws.AppendOwn
import Derived.OwnWalk
import Derived.OpenShut
import Derived.Deep.OwnRows
import Derived.Laws.OwnMore
import Derived.Maps.AppendAt
import Derived.Deep.AppendLies
import Derived.Deep.Draws
import Derived.RegionTactic
import Derived.Laws.Concat
import Derived.Laws.Strings2
import Derived.Deep.MidRow
import Derived.Laws.BitsAllLaws
import Derived.Laws.BitsLemmas
import Derived.WalkLawsBesides
import Derived.Deep.RegionHeld3
import Derived.Deep.DeepCutAuto
set_option maxRecDepth 100000
set_option maxHeartbeats 16000000
namespace Go.Proofs.Ytaehemmjemhgpaa
open Go.RowKit
set_option linter.unusedSimpArgs false
set_option linter.unusedVariables false
theorem tk {P : Program} {md : Region.Mode} {l : List Oper} {Q : Exit → Act → World → Prop} {S : World → Prop} {i : Nat} {oi : Oper} {v : Value} {fuel : Nat} {listed : Array Bool} {a : Act} {w : World}
    (hi : l[i]? = some oi) (hy : YieldsIf P l.toArray S oi v a) (h : wpAnyH P md l.toArray Q S fuel (listed.setIfInBounds i true) (a.put oi.dst v) w)
    (hs : Region.noSelect l.toArray = true := by kernel_rfl) (hf : (Region.free md l.toArray listed i && (Region.ready md l.toArray listed).contains i) = true := by kernel_rfl)
    (hS : S w := by assumption) (hQ : ∀ c a w, Q (.panic c) (a.put oi.dst v) w → Q (.panic c) a w := by exact fun _ _ _ h => h) : wpAnyH P md l.toArray Q S (fuel + 1) listed a w := by
  rw [Bool.and_eq_true] at hf
  exact wpAnyH_take (by rw [List.getElem?_toArray]; exact hi) hs hf.1 hf.2 hQ hy hS h
theorem pt : (∀ (a : Act) (t : Tmp) (v : Value), a.put (some t) v = { a with tmps := a.tmps.setIfInBounds t v }) ∧ (∀ (a : Act) (v : Value), a.put none v = a) ∧ (∀ (l : List Value) (i : Nat) (v : Value), l.toArray.setIfInBounds i v = (l.set i v).toArray) ∧ (∀ (l : List Bool) (i : Nat) (v : Bool), l.toArray.setIfInBounds i v = (l.set i v).toArray)
    ∧ (∀ (x : Value) (l : List Value) (v : Value), (x :: l).set 0 v = v :: l) ∧ (∀ (x : Value) (l : List Value) (i : Nat) (v : Value), (x :: l).set (i + 1) v = x :: l.set i v) ∧ (∀ (x : Bool) (l : List Bool) (v : Bool), (x :: l).set 0 v = v :: l) ∧ (∀ (x : Bool) (l : List Bool) (i : Nat) (v : Bool), (x :: l).set (i + 1) v = x :: l.set i v) :=
  ⟨fun _ _ _ => rfl, fun _ _ => rfl, fun _ _ _ => List.setIfInBounds_toArray .., fun _ _ _ => List.setIfInBounds_toArray .., fun _ _ _ => rfl, fun _ _ _ _ => rfl, fun _ _ _ => rfl, fun _ _ _ _ => rfl⟩
theorem jze {k : IntKind} {a b : Int} (h : a = b) : Ending.returned (.int k a) = .returned (.int k b) := by rw [h]
theorem bcell {W w1 : World} (hb : Below W.heap.size W w1) : (∀ b o, b < W.heap.size → w1.cell? ⟨b, o, none⟩ = W.cell? ⟨b, o, none⟩) ∧ (∀ b o, b < W.heap.size → w1.frozen? ⟨b, o, none⟩ = W.frozen? ⟨b, o, none⟩) :=
 ⟨fun b o h => hb.cell (p := ⟨b, o, none⟩) h, fun b o h => hb.frozen (p := ⟨b, o, none⟩) h⟩
theorem jq2 {w a b : World} (h1 : Below w.heap.size w a) (h2 : Below a.heap.size a b) : Below w.heap.size w b := h1.trans (h2.mono h1.size)
theorem jq8 {a b : Bool} (h : a = b) : Ending.returned (.bool a) = .returned (.bool b) := by rw [h]
theorem jqh (n l h : Int) (w : World) (a : l ≤ n) (b : n ≤ h) :
  Calls Try.prog 112 #[.int .i64 n, .int .i64 l, .int .i64 h] w fun e w' => e = .returned (.bool true) ∧ w = w' := by
 go_enter Try.func112, Try.ntmps112
 go_wp2
 go_ret; exact ⟨rfl, rfl⟩
theorem jz6 (n l h : Int) (w : World) (a : n < l ∨ h < n) :
  Calls Try.prog 112 #[.int .i64 n, .int .i64 l, .int .i64 h] w fun e w' => e = .returned (.bool false) ∧ w = w' := by
 by_cases b : n < l
 ·go_enter Try.func112, Try.ntmps112
  go_wp2
  go_ret; exact ⟨rfl, rfl⟩
 ·have c : h < n := by omega
  have hd : decide (n ≤ h) = false := by simp; omega
  clear a; go_enter Try.func112, Try.ntmps112
  go_wp2
  go_ret; exact ⟨rfl, rfl⟩
def IsRow (k : IntKind) (w : World) (a : Option Addr) (len cap : Nat) (zs : List Int) : Prop :=
 (a = none ∧ len = 0 ∧ cap = 0 ∧ zs = []) ∨
 ∃ x, a = some x ∧ len ≤ cap ∧ cap ≤ maxLen ∧ zs.length = cap ∧ (∀ i, i < zs.length → w.cell? (x.add i) = some (.int k (zs.getD i 0))) ∧ ∀ n ∈ zs, (Lit.int k n).wf = true
def jqf (w : World) (a : Option Addr) (zs : List Int) : Prop := zs = [] ∨ ∃ g o, a = some ⟨g, o, none⟩ ∧ ∀ i, i < zs.length → w.cell? ⟨g, o + i, none⟩ = some (.int .i64 (zs.getD i 0))
theorem take_sum (zs : List Int) (k : Nat) (h : k < zs.length) : (zs.take (k + 1)).sum = (zs.take k).sum + zs.getD k 0 := by
 rw [List.take_succ_eq_append_getElem h, List.sum_append, List.getD_eq_getElem?_getD, List.getElem?_eq_getElem h]
 simp
theorem jjh {zs : List Int} {k : Nat} (h : k < zs.length) : zs.getD k 0 ∈ zs := by
 rw [List.getD_eq_getElem?_getD, List.getElem?_eq_getElem h]; simp
theorem sum_bd (zs : List Int) (h : ∀ z ∈ zs, -1000000 ≤ z ∧ z ≤ 1000000) : ∀ k, k ≤ zs.length → -1000000 * (k : Int) ≤ (zs.take k).sum ∧ (zs.take k).sum ≤ 1000000 * (k : Int) := by
  intro k
  induction k with
  | zero => intro _; simp
  | succ k ih =>
    intro hk; have h1 := ih (by omega); have h2 := h _ (jjh (k := k) (by omega)); rw [take_sum zs k (by omega)]
    omega
theorem stotal (a : Option Addr) (cap : Nat) (zs : List Int) (w : World) (h : jqf w a zs) (hn : zs.length ≤ 1048576) (hz : ∀ z ∈ zs, -1000000 ≤ z ∧ z ≤ 1000000) :
  Calls Try.prog 158 #[.slice a zs.length cap] w fun e w' => e = .returned (.int .i64 zs.sum) ∧ w = w' := by
 rcases h with rfl | ⟨g, o, rfl, hc⟩
 ·go_enter Try.func158, Try.ntmps158
  go_wp2
  go_rounds 1
  go_ret; exact ⟨rfl, rfl⟩
 ·have HB := Lib.hid (sum_bd zs hz)
  have HC := Lib.hid hc; have HZ := Lib.hid hz; clear hc hz; go_enter Try.func158, Try.ntmps158
  go_wp2
  go_loop [3, 4] (fun s i => ∃ k : Nat, k ≤ zs.length ∧ i = .int .i64 k ∧ s = .int .i64 (zs.take k).sum) (fun _ i => zs.length - (intOf i).toNat)
  case atStart => exact ⟨0, Nat.zero_le _, rfl, rfl⟩
  case round =>
   obtain ⟨k, hk, rfl, rfl⟩ := hrel; obtain ⟨b0, b1⟩ := HB.out k hk
   by_cases hlt : k < zs.length
   ·have hc := HC.out k hlt
    have ht := take_sum zs k hlt; obtain ⟨z0, z1⟩ := HZ.out _ (jjh hlt); generalize zs.getD k 0 = z at hc ht z0 z1; have HT := Lib.hid ht; clear ht
    go_wp2
    go_round
    case rel => exact ⟨k + 1, by omega, by go_num, by rw [HT.out]⟩
    case measure => simp [intOf]; omega
   ·go_wp2
    go_ret; exact ⟨jze (by rw [List.take_of_length_le (by omega)]), rfl⟩
def allB (zs : List Int) (most : Int) : Bool := zs.all fun z => decide (0 ≤ z) && decide (z ≤ most)
theorem allB_iff (zs : List Int) (most : Int) : allB zs most = true ↔ ∀ z ∈ zs, 0 ≤ z ∧ z ≤ most := by unfold allB; simp
theorem allB_no {zs : List Int} {most : Int} {k : Nat} (h : k < zs.length) (hz : zs.getD k 0 < 0 ∨ most < zs.getD k 0) : allB zs most = false := by
 rw [Bool.eq_false_iff]; intro h2; rw [allB_iff] at h2; have := h2 _ (jjh h); omega
theorem allB_yes {zs : List Int} {most : Int} (h : ∀ i, i < zs.length → 0 ≤ zs.getD i 0 ∧ zs.getD i 0 ≤ most) : allB zs most = true := by
 rw [allB_iff]; intro z hz; obtain ⟨i, hi, rfl⟩ := List.getElem_of_mem hz; have := h i hi
 rwa [List.getD_eq_getElem?_getD, List.getElem?_eq_getElem hi, Option.getD_some] at this
theorem iwithin_yes (n m : Int) (w : World) (a : 0 ≤ n) (b : n ≤ m) :
  Calls Try.prog 83 #[.int .i64 n, .int .i64 m] w fun e w' => e = .returned (.bool true) ∧ w = w' := by
 go_enter Try.func83, Try.ntmps83
 go_wp2
 go_ret; exact ⟨rfl, rfl⟩
theorem iwithin_no (n m : Int) (w : World) (a : n < 0 ∨ m < n) :
  Calls Try.prog 83 #[.int .i64 n, .int .i64 m] w fun e w' => e = .returned (.bool false) ∧ w = w' := by
 by_cases b : n < 0
 ·go_enter Try.func83, Try.ntmps83
  go_wp2
  go_ret; exact ⟨rfl, rfl⟩
 ·have c : m < n := by omega
  have hd : decide (n ≤ m) = false := by simp; omega
  clear a; go_enter Try.func83, Try.ntmps83
  go_wp2
  go_ret; exact ⟨rfl, rfl⟩
theorem jqc {B : Nat} {a w : World} (h : Below B a w) (n : Nat) : Below B a (w.drewN n) := ⟨h.os, h.tape, h.output, h.size, h.block⟩
theorem infoInt : (Try.prog.info? 3).map (fun i => (i.zero, i.size, i.bytes)) = some (some (.int .i64 0), 1, 8) := by kernel_rfl
def Row (w : World) (g : Nat) (zs : List Int) : Prop := w.rowIs g 3 zs.length (fun i => .int .i64 (zs.getD i 0))
theorem row_keep {w w' : World} {g : Nat} {zs : List Int} (h : Row w g zs) (hB : Below w.heap.size w w') : Row w' g zs := World.rowIs.of_block h (hB.block g (World.rowIs.lt h))
theorem jq9 {w w' : World} {a : Option Addr} {zs : List Int} (h : jqf w a zs) (hB : Below w.heap.size w w') : jqf w' a zs := by
 rcases h with h | ⟨g, o, ha, hc⟩
 ·exact .inl h
 ·exact .inr ⟨g, o, ha, fun i hi => (hB.cell (p := ⟨g, o + i, none⟩) (World.block_lt_of_cell? w _ (hc i hi))).trans (hc i hi)⟩
section
namespace Wsh
def vfB (n d : Int) : Bool := decide (1 ≤ d) && decide (d ≤ 10000) && decide (0 ≤ n) && decide (n ≤ d) && decide (Int.gcd n d = 1)
theorem vfB_iff (n d : Int) : vfB n d = true ↔ (1 ≤ d ∧ d ≤ 10000 ∧ 0 ≤ n ∧ n ≤ d ∧ Int.gcd n d = 1) := by
 unfold vfB; simp [and_assoc]
def rn (n d : Int) : Int := n / (Int.gcd n d : Int)
def rd (n d : Int) : Int := d / (Int.gcd n d : Int)
def redB (n d : Int) : Bool := decide (0 ≤ n) && decide (n ≤ d) && decide (rd n d ≤ 10000)
theorem gcd_step (a b : Int) (ha : 0 ≤ a) (hb : 0 < b) : Int.gcd b (a % b) = Int.gcd a b := by
 rw [Int.gcd_comm a b]; obtain ⟨n, rfl⟩ := Int.eq_ofNat_of_zero_le ha; obtain ⟨m, rfl⟩ := Int.eq_ofNat_of_zero_le (Int.le_of_lt hb); rw [← Int.natCast_emod]; simp only [Int.gcd_natCast_natCast]; rw [Nat.gcd_comm m n, Nat.gcd_comm m (n % m), ← Nat.gcd_rec, Nat.gcd_comm]
theorem gcd_pos (n d : Int) (hd : 0 < d) : 0 < (Int.gcd n d : Int) := by
 have : Int.gcd n d ≠ 0 := by
  intro h; have := Int.gcd_eq_zero_iff.1 h
  omega
 omega
theorem rn_mul (n d : Int) : rn n d * (Int.gcd n d : Int) = n := Int.ediv_mul_cancel (Int.gcd_dvd_left ..)
theorem rd_mul (n d : Int) : rd n d * (Int.gcd n d : Int) = d := Int.ediv_mul_cancel (Int.gcd_dvd_right ..)
theorem rd_pos (n d : Int) (hd : 0 < d) : 0 < rd n d := by
 have h := rd_mul n d; have hg := gcd_pos n d hd
 apply Int.pos_of_mul_pos_left _ hg
 rw [h]; exact hd
theorem gcd_red (n d : Int) (hd : 0 < d) : Int.gcd (rn n d) (rd n d) = 1 := by
 unfold rn rd; exact Int.gcd_ediv_gcd_ediv_gcd (by have := gcd_pos n d hd; omega)
theorem red_valid (n d : Int) (hd : 0 < d) (h : redB n d = true) : vfB (rn n d) (rd n d) = true := by
 unfold redB at h; simp only [Bool.and_eq_true, decide_eq_true_eq] at h; obtain ⟨⟨h1, h2⟩, h3⟩ := h; have hg := gcd_pos n d hd; have hp := rd_pos n d hd; rw [vfB_iff]; refine ⟨by omega, h3, ?_, ?_, gcd_red n d hd⟩
 ·exact Int.ediv_nonneg h1 (by omega)
 ·exact Int.ediv_le_ediv hg h2
theorem red_self (n d : Int) (h : vfB n d = true) : rn n d = n ∧ rd n d = d ∧ redB n d = true := by
 rw [vfB_iff] at h; obtain ⟨h1, h2, h3, h4, h5⟩ := h
 have e1 : rn n d = n := by unfold rn; rw [h5]; simp
 have e2 : rd n d = d := by unfold rd; rw [h5]; simp
 refine ⟨e1, e2, ?_⟩; unfold redB; rw [e2]
 simp [h2, h3, h4]
theorem mul_bd {x y : Int} (hx : 0 ≤ x) (hx' : x ≤ 10000) (hy : 0 ≤ y) (hy' : y ≤ 10000) : 0 ≤ x * y ∧ x * y ≤ 100000000 :=
 ⟨Int.mul_nonneg hx hy, Int.le_trans (Int.mul_le_mul hx' hy' hy (by omega)) (by decide)⟩
theorem mul_pos1 {x y : Int} (hx : 1 ≤ x) (hy : 1 ≤ y) : 1 ≤ x * y := Int.mul_pos (by omega) (by omega)
theorem parts (n f d : Int) (hd : 0 < d) : n * f / d + n * (d - f) / d ≤ n ∧ n - 1 ≤ n * f / d + n * (d - f) / d ∧ (n * f / d + n * (d - f) / d = n ↔ n * f % d = 0) := by
 have e : n * (d - f) = n * d - n * f := Int.mul_sub ..; rw [e]; generalize n * f = x; have h1 := Int.mul_ediv_add_emod x d; have h2 := Int.mul_ediv_add_emod (n * d - x) d; have b1 := Int.emod_nonneg x (show d ≠ 0 by omega); have b2 := Int.emod_lt_of_pos x hd; have c1 := Int.emod_nonneg (n * d - x) (show d ≠ 0 by omega); have c2 := Int.emod_lt_of_pos (n * d - x) hd; generalize x / d = q at *; generalize (n * d - x) / d = p at *; generalize x % d = r at *; generalize (n * d - x) % d = s at *
 have h3 : d * (n - q - p) = r + s := by grind
 have l1 : 0 ≤ n - q - p := by
  apply Int.nonneg_of_mul_nonneg_right (b := n - q - p) (a := d) _ hd
  omega
 have l2 : n - q - p < 2 := by
  apply Int.lt_of_mul_lt_mul_left (a := d) _ (by omega)
  omega
 refine ⟨by omega, by omega, ?_, ?_⟩
 ·intro h
  have : n - q - p = 0 := by omega
  rw [this] at h3
  omega
 ·intro h
  have : n - q - p = 0 := by
   by_cases hz : n - q - p = 1
   ·rw [hz] at h3; omega
   ·omega
  omega
def qn (b : Bool) (x : Int) : Int := if b then x else 0
theorem qn_true (x : Int) : qn true x = x := rfl
theorem qn_false (x : Int) : qn false x = 0 := rfl
theorem redB_no {n d : Int} (h : ¬ (0 ≤ n ∧ n ≤ d)) : redB n d = false := by
 unfold redB; rw [Bool.eq_false_iff]; intro k; simp at k; omega
theorem redB_den {n d : Int} (h : 0 ≤ n ∧ n ≤ d) : redB n d = decide (rd n d ≤ 10000) := by
 unfold redB; simp [h.1, h.2]
theorem rd_le (n d : Int) (hd : 0 < d) : rd n d ≤ d := Int.ediv_le_self _ (by omega)
theorem rn_le (n d : Int) (hn : 0 ≤ n) : 0 ≤ rn n d ∧ rn n d ≤ n := ⟨Int.ediv_nonneg hn (by omega), Int.ediv_le_self _ hn⟩
theorem rn_bd (n d : Int) (hn : 0 ≤ n) (hnd : n ≤ d) (hd : 0 < d) : 0 ≤ rn n d ∧ rn n d ≤ rd n d :=
 ⟨(rn_le n d hn).1, Int.ediv_le_ediv (gcd_pos n d hd) hnd⟩
theorem vfB_red (n d : Int) (hn : 0 ≤ n) (hd : 0 < d) : vfB (rn n d) (rd n d) = redB n d := by
  cases h : redB n d with
  | true => exact red_valid n d hd h
  | false =>
    rw [Bool.eq_false_iff]; intro k; have kk := (vfB_iff _ _).1 k; have hg := gcd_pos n d hd; have h1 := rn_mul n d; have h2 := rd_mul n d
    have : n ≤ d := by
      have h3 := Int.mul_le_mul_of_nonneg_right kk.2.2.2.1 (Int.le_of_lt hg); rw [h1, h2] at h3; exact h3
    rw [redB_den ⟨hn, this⟩] at h
    simp at h
    omega
def cmpI (x y : Int) : Int := if x < y then -1 else if y < x then 1 else 0
theorem cmpI_lt {x y : Int} (h : x < y) : cmpI x y = -1 := by unfold cmpI; rw [if_pos h]
theorem cmpI_gt {x y : Int} (h : y < x) : cmpI x y = 1 := by unfold cmpI; rw [if_neg (by omega), if_pos h]
theorem cmpI_eq {x y : Int} (h : x = y) : cmpI x y = 0 := by unfold cmpI; rw [if_neg (by omega), if_neg (by omega)]
theorem cmpI_nlt {x y : Int} (h : ¬ x < y) : (cmpI x y < 0) = False := by
 rw [eq_iff_iff, iff_false]; unfold cmpI; rw [if_neg h]
 split <;> omega
theorem qn_bd {x K : Int} (b : Bool) (h0 : 0 ≤ x) (h1 : x ≤ K) : 0 ≤ qn b x ∧ qn b x ≤ K := by
 unfold qn; split <;> omega
theorem red_bd {u d : Int} (b : Bool) (hu : 0 ≤ u) (hud : u ≤ d) (hd : 1 ≤ d) (hd' : d ≤ 1000000) : (0 ≤ qn b (rn u d) ∧ qn b (rn u d) ≤ 1000000) ∧ (0 ≤ qn b (rd u d) ∧ qn b (rd u d) ≤ 1000000) := by
 have h1 := rn_le u d hu; have h2 := rd_le u d (by omega); have h3 := rd_pos u d (by omega); exact ⟨qn_bd b (by omega) (by omega), qn_bd b (by omega) (by omega)⟩
end Wsh
end
theorem sgcd (a b : Int) (w : World) (ha : 0 ≤ a) (ha' : a ≤ 1000000000) (hb : 0 ≤ b) (hb' : b ≤ 1000000000) :
  Calls Try.prog 159 #[.int .i64 a, .int .i64 b] w fun e w' => e = .returned (.int .i64 (Int.gcd a b)) ∧ w = w' := by
 go_enter Try.func159, Try.ntmps159
 go_wp2
 go_loop [0, 1, 5] (fun x y z => ∃ n m : Int, 0 ≤ n ∧ n ≤ 1000000000 ∧ 0 ≤ m ∧ m ≤ 1000000000 ∧ x = .int .i64 n ∧ y = .int .i64 m ∧ Hid (Int.gcd n m = Int.gcd a b)) (fun _ y _ => (intOf y).toNat)
 case atStart => exact ⟨a, b, ha, ha', hb, hb', rfl, rfl, rfl⟩
 case round =>
  obtain ⟨n, m, hn, hn', hm, hm', rfl, rfl, hg⟩ := hrel
  by_cases h0 : m = 0
  ·have hz : (m != 0) = false := by simp [h0]
   have H := Lib.hid h0; clear h0
   go_wp2
   go_ret; have h1 := H.out; exact ⟨jze (by have := hg.out; rw [h1] at this; simp at this; omega), rfl⟩
  ·have hz : (m != 0) = true := by simp [h0]
   have hm1 : 1 ≤ m := by omega
   have hr0 := Int.emod_nonneg n h0; have hr1 := Int.emod_lt_of_pos n (show 0 < m by omega); clear h0
   go_wp2
   go_round
   case rel => exact ⟨m, n % m, by omega, by omega, hr0, by omega, rfl, rfl, by rw [Wsh.gcd_step n m hn (by omega)]; exact hg.out⟩
   case measure => simp [intOf]; omega
theorem igcd (a b : Int) (w : World) (ha : 0 ≤ a) (ha' : a ≤ 1000000000) (hb : 0 ≤ b) (hb' : b ≤ 1000000000) :
    Calls Try.prog 167 #[.int .i64 a, .int .i64 b] w fun e w' => e = .returned (.int .i64 (Int.gcd a b)) ∧ w = w' := by
  go_enter Try.func167, Try.ntmps167
  go_wp2
  go_loop [0, 1] (fun x y => ∃ n m : Int, 0 ≤ n ∧ n ≤ 1000000000 ∧ 0 ≤ m ∧ m ≤ 1000000000 ∧ x = .int .i64 n ∧ y = .int .i64 m ∧ Hid (Int.gcd n m = Int.gcd a b)) (fun x _ => (intOf x).toNat)
  case atStart => exact ⟨a, b, ha, ha', hb, hb', rfl, rfl, rfl⟩
  case round =>
    obtain ⟨n, m, hn, hn', hm, hm', rfl, rfl, hg⟩ := hrel
    by_cases h0 : 0 < n
    · have hr0 := Int.emod_nonneg m (show n ≠ 0 by omega)
      have hr1 := Int.emod_lt_of_pos m h0
      go_wp2
      go_round
      case rel => exact ⟨m % n, n, hr0, by omega, by omega, by omega, rfl, rfl, by rw [Int.gcd_comm, Wsh.gcd_step m n hm h0, Int.gcd_comm]; exact hg.out⟩
      case measure => simp [intOf]; omega
    · go_wp2
      go_ret
      exact ⟨jze (by have h1 : n = 0 := by omega
                     have := hg.out; rw [h1] at this; simp at this; omega), rfl⟩
theorem vf_no {n d : Int} (h : ¬ (1 ≤ d ∧ d ≤ 10000 ∧ 0 ≤ n ∧ n ≤ d)) : Wsh.vfB n d = false := by
 rw [Bool.eq_false_iff]; intro k; rw [Wsh.vfB_iff] at k; exact h ⟨k.1, k.2.1, k.2.2.1, k.2.2.2.1⟩
theorem vf_gcd {n d : Int} (h : 1 ≤ d ∧ d ≤ 10000 ∧ 0 ≤ n ∧ n ≤ d) : ((Int.gcd n d : Int) == 1) = Wsh.vfB n d := by
 rw [Bool.eq_iff_iff, Wsh.vfB_iff]; simp; omega
theorem iValid (n d : Int) (w : World) :
  Calls Try.prog 120 #[.agg #[.int .i64 n, .int .i64 d]] w fun e w' => e = .returned (.bool (Wsh.vfB n d)) ∧ Below w.heap.size w w' := by
 by_cases h1 : d < 1
 ·go_enter Try.func120, Try.ntmps120
  go_wp2
  go_ret; exact ⟨jq8 (vf_no (by omega)).symm, by go_grown⟩
 ·by_cases h2 : 10000 < d
  ·go_enter Try.func120, Try.ntmps120
   go_wp2
   go_ret; exact ⟨jq8 (vf_no (by omega)).symm, by go_grown⟩
  ·by_cases h3 : n < 0
   ·go_enter Try.func120, Try.ntmps120
    go_wp2
    go_ret; exact ⟨jq8 (vf_no (by omega)).symm, by go_grown⟩
   ·by_cases h4 : d < n
    ·go_enter Try.func120, Try.ntmps120
     go_wp2
     go_ret; exact ⟨jq8 (vf_no (by omega)).symm, by go_grown⟩
    ·have hv := vf_gcd (n := n) (d := d) (by omega)
     have HV := Lib.hid hv; clear hv; go_enter Try.func120, Try.ntmps120; go_wp2_with fail; refine (igcd n d _ (by omega) (by omega) (by omega) (by omega)).mono ?_; rintro e w' ⟨rfl, rfl⟩; go_wp2_with fail; go_ret; exact ⟨jq8 HV.out, by go_grown⟩
theorem svalid (n d : Int) (w : World) :
  Calls Try.prog 109 #[.agg #[.int .i64 n, .int .i64 d]] w fun e w' => e = .returned (.bool (Wsh.vfB n d)) ∧ Below w.heap.size w w' := by
 by_cases h1 : d < 1 ∨ 10000 < d
 ·go_enter Try.func109, Try.ntmps109
  go_wp2_with fail; refine (jz6 d 1 10000 _ h1).mono ?_; rintro e w' ⟨rfl, rfl⟩; go_wp2_with fail; go_ret; exact ⟨jq8 (vf_no (by omega)).symm, by go_grown⟩
 ·by_cases h2 : n < 0 ∨ d < n
  ·go_enter Try.func109, Try.ntmps109
   go_wp2_with fail; refine (jqh d 1 10000 _ (by omega) (by omega)).mono ?_; rintro e w' ⟨rfl, rfl⟩; go_wp2_with fail; refine (jz6 n 0 d _ h2).mono ?_; rintro e w' ⟨rfl, rfl⟩; go_wp2_with fail; go_ret; exact ⟨jq8 (vf_no (by omega)).symm, by go_grown⟩
  ·have hv := vf_gcd (n := n) (d := d) (by omega)
   have HV := Lib.hid hv; clear hv; go_enter Try.func109, Try.ntmps109; go_wp2_with fail; refine (jqh d 1 10000 _ (by omega) (by omega)).mono ?_; rintro e w' ⟨rfl, rfl⟩; go_wp2_with fail; refine (jqh n 0 d _ (by omega) (by omega)).mono ?_; rintro e w' ⟨rfl, rfl⟩; go_wp2_with fail; refine (sgcd n d _ (by omega) (by omega) (by omega) (by omega)).mono ?_; rintro e w' ⟨rfl, rfl⟩; go_wp2_with fail; go_ret; exact ⟨jq8 HV.out, by go_grown⟩
abbrev frV (b : Bool) (x y : Int) : Value := .tuple #[.agg #[.int .i64 (Wsh.qn b x), .int .i64 (Wsh.qn b y)], .bool b]
theorem ret_frV {b : Bool} {n d x y x' y' : Int} (hb : Wsh.redB n d = b) (hx : x' = Wsh.qn b x) (hy : y' = Wsh.qn b y) :
  Ending.returned (.tuple #[.agg #[.int .i64 x', .int .i64 y'], .bool b]) = .returned (frV (Wsh.redB n d) x y) := by rw [hb, hx, hy]
theorem swal {n d : Int} {b : Bool} (h : Wsh.redB n d = b) (hn : 0 ≤ n) (hd : 0 < d) : Wsh.vfB (n / (Int.gcd n d : Int)) (d / (Int.gcd n d : Int)) = b := by
 have := Wsh.vfB_red n d hn hd; unfold Wsh.rn Wsh.rd at this; rw [this]; exact h
theorem sred (n d : Int) (w : World) (hn : 0 ≤ n) (hn' : n ≤ 1000000000) (hd : 1 ≤ d) (hd' : d ≤ 100000000) :
    Calls Try.prog 110 #[.int .i64 n, .int .i64 d] w fun e w' => e = .returned (frV (Wsh.redB n d) (Wsh.rn n d) (Wsh.rd n d)) ∧ Below w.heap.size w w' := by
  have hg := Wsh.gcd_pos n d (by omega); obtain ⟨b0, b1⟩ := Wsh.rn_le n d (by omega); have b2 := Wsh.rd_le n d (by omega); have b3 := Wsh.rd_pos n d (by omega); unfold Wsh.rn at b0 b1; unfold Wsh.rd at b2 b3
  have hg0 : ((Int.gcd n d : Int) == 0) = false := by simp; omega
  cases hr : Wsh.redB n d with
  | false =>
    have hv := swal hr hn (by omega); clear hr; go_enter Try.func110, Try.ntmps110; go_wp2_with fail; refine (sgcd n d _ (by omega) (by omega) (by omega) (by omega)).mono ?_; rintro e w' ⟨rfl, rfl⟩; go_wp2_with fail
    go_region
    all_goals
      go_wp2_with fail; refine (svalid _ _ _).mono ?_; rintro e w1 ⟨rfl, hb⟩; obtain ⟨hc, hf⟩ := bcell hb; have hB : Below w.heap.size w w1 := jq2 (by go_grown) hb; have c0 := hc w.heap.size 0 (by simp; omega); have c1 := hc w.heap.size 1 (by simp; omega); have c2 := hc (w.heap.size + 1) 0 (by simp); have c3 := hc (w.heap.size + 1) 1 (by simp); have f0 := hf w.heap.size 0 (by simp; omega); have f1 := hf w.heap.size 1 (by simp; omega)
      simp [go_sem] at c0 c1 c2 c3 f0 f1
      clear hc hf hb; go_wp2_with fail; refine bodyPost_ret (v := .tuple #[.agg #[.int .i64 0, .int .i64 0], .bool false]) (by simp [results, Try.results110, go_sem, c0, c1]) rfl ⟨rfl, by go_grown⟩
  | true =>
    have hv := swal hr hn (by omega); clear hr; go_enter Try.func110, Try.ntmps110; go_wp2_with fail; refine (sgcd n d _ (by omega) (by omega) (by omega) (by omega)).mono ?_; rintro e w' ⟨rfl, rfl⟩; go_wp2_with fail
    go_region
    all_goals
      go_wp2_with fail; refine (svalid _ _ _).mono ?_; rintro e w1 ⟨rfl, hb⟩; obtain ⟨hc, hf⟩ := bcell hb; have hB : Below w.heap.size w w1 := jq2 (by go_grown) hb; have c0 := hc w.heap.size 0 (by simp; omega); have c1 := hc w.heap.size 1 (by simp; omega); have c2 := hc (w.heap.size + 1) 0 (by simp); have c3 := hc (w.heap.size + 1) 1 (by simp); have f0 := hf w.heap.size 0 (by simp; omega); have f1 := hf w.heap.size 1 (by simp; omega)
      simp [go_sem] at c0 c1 c2 c3 f0 f1
      clear hc hf hb; go_wp2_with fail; refine bodyPost_ret (v := .tuple #[.agg #[.int .i64 (n / (Int.gcd n d : Int)), .int .i64 (d / (Int.gcd n d : Int))], .bool true]) (by simp [results, Try.results110, go_sem, c0, c1]) rfl ⟨rfl, by go_grown⟩
theorem ired (n d : Int) (w : World) (hd : 1 ≤ d) (hd' : d ≤ 100000000) :
  Calls Try.prog 121 #[.int .i64 n, .int .i64 d] w fun e w' => e = .returned (frV (Wsh.redB n d) (Wsh.rn n d) (Wsh.rd n d)) ∧ Below w.heap.size w w' := by
 by_cases h1 : n < 0
 ·go_enter Try.func121, Try.ntmps121
  go_wp2
  go_returns
  exact ⟨ret_frV (Wsh.redB_no (by omega)) rfl rfl, by go_grown⟩
 ·by_cases h2 : d < n
  ·go_enter Try.func121, Try.ntmps121
   go_wp2
   go_returns
   exact ⟨ret_frV (Wsh.redB_no (by omega)) rfl rfl, by go_grown⟩
  ·have hg := Wsh.gcd_pos n d (by omega)
   have hq := Wsh.redB_den (n := n) (d := d) (by omega); have HQ := Lib.hid hq; clear hq; obtain ⟨b0, b1⟩ := Wsh.rn_bd n d (by omega) (by omega) (by omega); have b2 := Wsh.rd_le n d (by omega); have b3 := Wsh.rd_pos n d (by omega); unfold Wsh.rn at b0 b1; unfold Wsh.rd at b1 b2 b3
   have hg0 : ((Int.gcd n d : Int) == 0) = false := by simp; omega
   by_cases h3 : 10000 < d / (Int.gcd n d : Int)
   ·go_enter Try.func121, Try.ntmps121
    go_wp2_with fail; refine (igcd n d _ (by omega) (by omega) (by omega) (by omega)).mono ?_; rintro e w' ⟨rfl, rfl⟩; go_wp2_with fail
    go_region
    all_goals
     go_wp2
     go_returns
     exact ⟨ret_frV (by rw [HQ.out]; unfold Wsh.rd; simp; omega) rfl rfl, by go_grown⟩
   ·go_enter Try.func121, Try.ntmps121
    go_wp2_with fail; refine (igcd n d _ (by omega) (by omega) (by omega) (by omega)).mono ?_; rintro e w' ⟨rfl, rfl⟩; go_wp2_with fail
    go_region
    all_goals
     go_wp2
     go_returns
     exact ⟨ret_frV (by rw [HQ.out]; unfold Wsh.rd; simp; omega) rfl rfl, by go_grown⟩
theorem fr_no1 {va vb r : Bool} {x y : Int} (h : va = false) : Ending.returned (.tuple #[.agg #[.int .i64 0, .int .i64 0], .bool false]) = .returned (frV (va && vb && r) x y) := by rw [h]; rfl
theorem fr_no2 {va vb r : Bool} {x y : Int} (h : vb = false) : Ending.returned (.tuple #[.agg #[.int .i64 0, .int .i64 0], .bool false]) = .returned (frV (va && vb && r) x y) := by rw [h]; cases va <;> rfl
theorem fr_yes {va vb r : Bool} {x y : Int} (ha : va = true) (hb : vb = true) : Ending.returned (frV r x y) = .returned (frV (va && vb && r) x y) := by rw [ha, hb]; rfl
theorem bounds {an ad bn bd : Int} (ha : Wsh.vfB an ad = true) (hb : Wsh.vfB bn bd = true) :
  (0 ≤ an * bd ∧ an * bd ≤ 100000000) ∧ (0 ≤ bn * ad ∧ bn * ad ≤ 100000000) ∧ (1 ≤ ad * bd ∧ ad * bd ≤ 100000000) ∧ (0 ≤ an * bn ∧ an * bn ≤ 100000000) := by
 have ka := (Wsh.vfB_iff _ _).1 ha; have kb := (Wsh.vfB_iff _ _).1 hb; exact ⟨Wsh.mul_bd (by omega) (by omega) (by omega) (by omega), Wsh.mul_bd (by omega) (by omega) (by omega) (by omega), ⟨Wsh.mul_pos1 (by omega) (by omega), (Wsh.mul_bd (by omega) (by omega) (by omega) (by omega)).2⟩, Wsh.mul_bd (by omega) (by omega) (by omega) (by omega)⟩
theorem iAdd (an ad bn bd : Int) (w : World) :
    Calls Try.prog 63 #[.agg #[.int .i64 an, .int .i64 ad], .agg #[.int .i64 bn, .int .i64 bd]] w fun e w' => e = .returned (frV (Wsh.vfB an ad && Wsh.vfB bn bd && Wsh.redB (an * bd + bn * ad) (ad * bd)) (Wsh.rn (an * bd + bn * ad) (ad * bd)) (Wsh.rd (an * bd + bn * ad) (ad * bd))) ∧ Below w.heap.size w w' := by
  cases ha : Wsh.vfB an ad with
  | false =>
    go_enter Try.func63, Try.ntmps63; go_wp2_with fail; refine (iValid an ad _).mono ?_; rintro e w1 ⟨rfl, hb⟩; have hB : Below w.heap.size w w1 := jq2 (by go_grown) hb; obtain ⟨hc, hf⟩ := bcell hb; have c0 := hc (w.heap.size) 0 (by simp <;> omega); have c1 := hc (w.heap.size) 1 (by simp <;> omega); have c2 := hc (w.heap.size + 1) 0 (by simp <;> omega); have c3 := hc (w.heap.size + 1) 1 (by simp <;> omega); have c4 := hc (w.heap.size + 2) 0 (by simp <;> omega); have c5 := hc (w.heap.size + 2) 1 (by simp <;> omega); have f0 := hf (w.heap.size + 2) 0 (by simp <;> omega); have f1 := hf (w.heap.size + 2) 1 (by simp <;> omega)
    simp [go_sem] at c0 c1 c2 c3 c4 c5 f0 f1
    clear hc hf hb; go_wp2_with fail; refine bodyPost_ret (v := .tuple #[.agg #[.int .i64 0, .int .i64 0], .bool false]) (by simp [results, Try.results63, go_sem, c4, c5]) rfl ⟨fr_no1 rfl, by go_grown⟩
  | true =>
    cases hb0 : Wsh.vfB bn bd with
    | false =>
      go_enter Try.func63, Try.ntmps63; go_wp2_with fail; refine (iValid an ad _).mono ?_; rintro e w1 ⟨rfl, hb⟩; have hB : Below w.heap.size w w1 := jq2 (by go_grown) hb; have hz := hb.size
      simp at hz
      obtain ⟨hc, hf⟩ := bcell hb; have c0 := hc (w.heap.size) 0 (by simp <;> omega); have c1 := hc (w.heap.size) 1 (by simp <;> omega); have c2 := hc (w.heap.size + 1) 0 (by simp <;> omega); have c3 := hc (w.heap.size + 1) 1 (by simp <;> omega); have c4 := hc (w.heap.size + 2) 0 (by simp <;> omega); have c5 := hc (w.heap.size + 2) 1 (by simp <;> omega); have f0 := hf (w.heap.size + 2) 0 (by simp <;> omega); have f1 := hf (w.heap.size + 2) 1 (by simp <;> omega)
      simp [go_sem] at c0 c1 c2 c3 c4 c5 f0 f1
      clear hc hf hb; go_wp2_with fail; refine (iValid bn bd _).mono ?_; rintro e w2 ⟨rfl, hb⟩; have hB2 : Below w.heap.size w w2 := jq2 hB hb; obtain ⟨hc, hf⟩ := bcell hb; have d0 := (hc (w.heap.size) 0 (by omega)).trans c0; have d1 := (hc (w.heap.size) 1 (by omega)).trans c1; have d2 := (hc (w.heap.size + 1) 0 (by omega)).trans c2; have d3 := (hc (w.heap.size + 1) 1 (by omega)).trans c3; have d4 := (hc (w.heap.size + 2) 0 (by omega)).trans c4; have d5 := (hc (w.heap.size + 2) 1 (by omega)).trans c5; have g0 := (hf (w.heap.size + 2) 0 (by omega)).trans f0; have g1 := (hf (w.heap.size + 2) 1 (by omega)).trans f1; clear hc hf hb; go_wp2_with fail; refine bodyPost_ret (v := .tuple #[.agg #[.int .i64 0, .int .i64 0], .bool false]) (by simp [results, Try.results63, go_sem, d4, d5]) rfl ⟨fr_no2 rfl, by go_grown⟩
    | true =>
      obtain ⟨⟨p1, p2⟩, ⟨p3, p4⟩, ⟨p5, p6⟩, p7, p8⟩ := bounds ha hb0; go_enter Try.func63, Try.ntmps63; go_wp2_with fail; refine (iValid an ad _).mono ?_; rintro e w1 ⟨rfl, hb⟩; have hB : Below w.heap.size w w1 := jq2 (by go_grown) hb; have hz := hb.size
      simp at hz
      obtain ⟨hc, hf⟩ := bcell hb; have c0 := hc (w.heap.size) 0 (by simp <;> omega); have c1 := hc (w.heap.size) 1 (by simp <;> omega); have c2 := hc (w.heap.size + 1) 0 (by simp <;> omega); have c3 := hc (w.heap.size + 1) 1 (by simp <;> omega); have c4 := hc (w.heap.size + 2) 0 (by simp <;> omega); have c5 := hc (w.heap.size + 2) 1 (by simp <;> omega); have f0 := hf (w.heap.size + 2) 0 (by simp <;> omega); have f1 := hf (w.heap.size + 2) 1 (by simp <;> omega)
      simp [go_sem] at c0 c1 c2 c3 c4 c5 f0 f1
      clear hc hf hb; go_wp2_with fail; refine (iValid bn bd _).mono ?_; rintro e w2 ⟨rfl, hb⟩; have hB2 : Below w.heap.size w w2 := jq2 hB hb; have hz2 := hb.size; obtain ⟨hc, hf⟩ := bcell hb; have d0 := (hc (w.heap.size) 0 (by omega)).trans c0; have d1 := (hc (w.heap.size) 1 (by omega)).trans c1; have d2 := (hc (w.heap.size + 1) 0 (by omega)).trans c2; have d3 := (hc (w.heap.size + 1) 1 (by omega)).trans c3; have d4 := (hc (w.heap.size + 2) 0 (by omega)).trans c4; have d5 := (hc (w.heap.size + 2) 1 (by omega)).trans c5; have g0 := (hf (w.heap.size + 2) 0 (by omega)).trans f0; have g1 := (hf (w.heap.size + 2) 1 (by omega)).trans f1; clear hc hf hb; clear c0 c1 c2 c3 c4 c5 f0 f1; go_wp2_with fail; refine (ired (an * bd + bn * ad) (ad * bd) _ (by omega) (by omega)).mono ?_; rintro e w3 ⟨rfl, hb⟩; have hB3 : Below w.heap.size w w3 := jq2 hB2 hb; obtain ⟨hc, hf⟩ := bcell hb; have c4 := (hc (w.heap.size + 2) 0 (by omega)).trans d4; have c5 := (hc (w.heap.size + 2) 1 (by omega)).trans d5; have f0 := (hf (w.heap.size + 2) 0 (by omega)).trans g0; have f1 := (hf (w.heap.size + 2) 1 (by omega)).trans g1; clear hc hf hb; clear d0 d1 d2 d3 d4 d5 g0 g1; go_wp2_with fail; refine bodyPost_ret (v := .tuple #[.agg #[.int .i64 (Wsh.qn (Wsh.redB (an * bd + bn * ad) (ad * bd)) (Wsh.rn (an * bd + bn * ad) (ad * bd))), .int .i64 (Wsh.qn (Wsh.redB (an * bd + bn * ad) (ad * bd)) (Wsh.rd (an * bd + bn * ad) (ad * bd)))], .bool (Wsh.redB (an * bd + bn * ad) (ad * bd))]) (by simp [results, Try.results63, go_sem, c4, c5]) rfl ⟨fr_yes rfl rfl, by go_grown⟩
theorem scompare (an ad bn bd : Int) (w : World) (ha : Wsh.vfB an ad = true) (hb : Wsh.vfB bn bd = true) :
  Calls Try.prog 125 #[.agg #[.int .i64 an, .int .i64 ad], .agg #[.int .i64 bn, .int .i64 bd]] w fun e w' => e = .returned (.int .i64 (Wsh.cmpI (an * bd) (bn * ad))) ∧ Below w.heap.size w w' := by
 obtain ⟨⟨p1, p2⟩, ⟨p3, p4⟩, ⟨p5, p6⟩, p7, p8⟩ := bounds ha hb; clear ha hb
 by_cases h1 : an * bd < bn * ad
 ·go_enter Try.func125, Try.ntmps125
  go_wp2
  go_ret; exact ⟨jze (Wsh.cmpI_lt h1).symm, by go_grown⟩
 ·by_cases h2 : bn * ad < an * bd
  ·go_enter Try.func125, Try.ntmps125
   go_wp2
   go_ret; exact ⟨jze (Wsh.cmpI_gt h2).symm, by go_grown⟩
  ·go_enter Try.func125, Try.ntmps125
   go_wp2
   go_ret; exact ⟨jze (Wsh.cmpI_eq (by omega)).symm, by go_grown⟩
theorem sadd (an ad bn bd : Int) (w : World) (ha : Wsh.vfB an ad = true) (hb : Wsh.vfB bn bd = true) :
  Calls Try.prog 124 #[.agg #[.int .i64 an, .int .i64 ad], .agg #[.int .i64 bn, .int .i64 bd]] w fun e w' => e = .returned (frV (Wsh.redB (an * bd + bn * ad) (ad * bd)) (Wsh.rn (an * bd + bn * ad) (ad * bd)) (Wsh.rd (an * bd + bn * ad) (ad * bd))) ∧ Below w.heap.size w w' := by
 obtain ⟨⟨p1, p2⟩, ⟨p3, p4⟩, ⟨p5, p6⟩, p7, p8⟩ := bounds ha hb; clear ha hb; go_enter Try.func124, Try.ntmps124; go_wp2_with fail; refine (sred (an * bd + bn * ad) (ad * bd) _ (by omega) (by omega) (by omega) (by omega)).mono ?_; rintro e w1 ⟨rfl, hb⟩; have hB : Below w.heap.size w w1 := jq2 (by go_grown) hb; obtain ⟨hc, hf⟩ := bcell hb; have c0 := hc (w.heap.size + 2) 0 (by simp <;> omega); have c1 := hc (w.heap.size + 2) 1 (by simp <;> omega); have f0 := hf (w.heap.size + 2) 0 (by simp <;> omega); have f1 := hf (w.heap.size + 2) 1 (by simp <;> omega)
 simp [go_sem] at c0 c1 f0 f1
 clear hc hf hb; go_wp2_with fail; refine bodyPost_ret (v := .tuple #[.agg #[.int .i64 (Wsh.qn (Wsh.redB (an * bd + bn * ad) (ad * bd)) (Wsh.rn (an * bd + bn * ad) (ad * bd))), .int .i64 (Wsh.qn (Wsh.redB (an * bd + bn * ad) (ad * bd)) (Wsh.rd (an * bd + bn * ad) (ad * bd)))], .bool (Wsh.redB (an * bd + bn * ad) (ad * bd))]) (by simp [results, Try.results124, go_sem, c0, c1]) rfl ⟨rfl, by go_grown⟩
theorem ssub (an ad bn bd : Int) (w : World) (ha : Wsh.vfB an ad = true) (hb : Wsh.vfB bn bd = true) :
  Calls Try.prog 160 #[.agg #[.int .i64 an, .int .i64 ad], .agg #[.int .i64 bn, .int .i64 bd]] w fun e w' => e = .returned (frV (Wsh.redB (an * bd - bn * ad) (ad * bd)) (Wsh.rn (an * bd - bn * ad) (ad * bd)) (Wsh.rd (an * bd - bn * ad) (ad * bd))) ∧ Below w.heap.size w w' := by
 obtain ⟨⟨p1, p2⟩, ⟨p3, p4⟩, ⟨p5, p6⟩, p7, p8⟩ := bounds ha hb
 by_cases h1 : an * bd < bn * ad
 ·have hm : Wsh.cmpI (an * bd) (bn * ad) < 0 := by rw [Wsh.cmpI_lt h1]; decide
  go_enter Try.func160, Try.ntmps160; go_wp2_with fail; refine (scompare an ad bn bd _ ha hb).mono ?_; rintro e w1 ⟨rfl, hb⟩; have hB : Below w.heap.size w w1 := jq2 (by go_grown) hb; obtain ⟨hc, hf⟩ := bcell hb; have c0 := hc (w.heap.size + 2) 0 (by simp <;> omega); have c1 := hc (w.heap.size + 2) 1 (by simp <;> omega); have f0 := hf (w.heap.size + 2) 0 (by simp <;> omega); have f1 := hf (w.heap.size + 2) 1 (by simp <;> omega)
  simp [go_sem] at c0 c1 f0 f1
  clear hc hf hb; go_wp2_with fail; refine bodyPost_ret (v := .tuple #[.agg #[.int .i64 0, .int .i64 0], .bool false]) (by simp [results, Try.results160, go_sem, c0, c1]) rfl ⟨ret_frV (Wsh.redB_no (by omega)) rfl rfl, by go_grown⟩
 ·have hm : ¬ Wsh.cmpI (an * bd) (bn * ad) < 0 := by rw [Wsh.cmpI_nlt h1]; simp
  go_enter Try.func160, Try.ntmps160; go_wp2_with fail; refine (scompare an ad bn bd _ ha hb).mono ?_; rintro e w1 ⟨rfl, hb⟩; have hB : Below w.heap.size w w1 := jq2 (by go_grown) hb; have hz := hb.size
  simp at hz
  obtain ⟨hc, hf⟩ := bcell hb; have c0 := hc (w.heap.size) 0 (by simp <;> omega); have c1 := hc (w.heap.size) 1 (by simp <;> omega); have c2 := hc (w.heap.size + 1) 0 (by simp <;> omega); have c3 := hc (w.heap.size + 1) 1 (by simp <;> omega); have c4 := hc (w.heap.size + 2) 0 (by simp <;> omega); have c5 := hc (w.heap.size + 2) 1 (by simp <;> omega); have f0 := hf (w.heap.size + 2) 0 (by simp <;> omega); have f1 := hf (w.heap.size + 2) 1 (by simp <;> omega)
  simp [go_sem] at c0 c1 c2 c3 c4 c5 f0 f1
  clear hc hf hb; go_wp2_with fail; refine (sred (an * bd - bn * ad) (ad * bd) _ (by omega) (by omega) (by omega) (by omega)).mono ?_; rintro e w2 ⟨rfl, hb⟩; have hB2 : Below w.heap.size w w2 := jq2 hB hb; obtain ⟨hc, hf⟩ := bcell hb; have d4 := (hc (w.heap.size + 2) 0 (by omega)).trans c4; have d5 := (hc (w.heap.size + 2) 1 (by omega)).trans c5; have g0 := (hf (w.heap.size + 2) 0 (by omega)).trans f0; have g1 := (hf (w.heap.size + 2) 1 (by omega)).trans f1; clear hc hf hb; clear c0 c1 c2 c3 c4 c5 f0 f1; go_wp2_with fail; refine bodyPost_ret (v := .tuple #[.agg #[.int .i64 (Wsh.qn (Wsh.redB (an * bd - bn * ad) (ad * bd)) (Wsh.rn (an * bd - bn * ad) (ad * bd))), .int .i64 (Wsh.qn (Wsh.redB (an * bd - bn * ad) (ad * bd)) (Wsh.rd (an * bd - bn * ad) (ad * bd)))], .bool (Wsh.redB (an * bd - bn * ad) (ad * bd))]) (by simp [results, Try.results160, go_sem, d4, d5]) rfl ⟨rfl, by go_grown⟩
abbrev Led := List (Int × Rat)
def jq6 : Led → Int → Rat
 | [], _ => 0
 | h :: t, o => if h.1 = o then h.2 else jq6 t o
def Asc (L : Led) : Prop := L.Pairwise (fun a b => a.1 < b.1)
def Pos (L : Led) : Prop := ∀ h ∈ L, 0 < h.2
def setP (o : Int) (q : Rat) : Bool → Led → Led × Bool
 | d, [] => ([], d)
 | d, h :: t => ((if !d && decide (o ≤ h.1) then [(o, q)] else []) ++ (if h.1 ≠ o then [h] else []) ++ (setP o q (d || decide (o ≤ h.1)) t).1, (setP o q (d || decide (o ≤ h.1)) t).2)
def setL (L : Led) (o : Int) (q : Rat) : Led := (setP o q (decide (q = 0)) L).1 ++ (if (setP o q (decide (q = 0)) L).2 then [] else [(o, q)])
theorem setP_append (o : Int) (q : Rat) : ∀ (A B : Led) (d : Bool), setP o q d (A ++ B) = ((setP o q d A).1 ++ (setP o q (setP o q d A).2 B).1, (setP o q (setP o q d A).2 B).2) := by
 intro A
 induction A with
 | nil => intro B d; simp [setP]
 | cons h t ih => intro B d; simp only [List.cons_append, setP, ih, List.append_assoc]
theorem setP_done (o : Int) (q : Rat) : ∀ L : Led, setP o q true L = (L.filter (fun h => decide (h.1 ≠ o)), true) := by
  intro L
  induction L with
  | nil => rfl
  | cons h t ih =>
    simp only [setP, Bool.true_or, Bool.not_true, Bool.false_and, ih]
    by_cases e : h.1 = o
    · simp [e]
    · simp [e]
theorem share_mem {L : Led} {o : Int} (h : jq6 L o ≠ 0) : ∃ x ∈ L, x.1 = o ∧ x.2 = jq6 L o := by
  induction L with
  | nil => exact absurd rfl h
  | cons x t ih =>
    by_cases e : x.1 = o
    · exact ⟨x, by simp, e, by show x.2 = (if x.1 = o then x.2 else jq6 t o); rw [if_pos e]⟩
    · have e2 : jq6 (x :: t) o = jq6 t o := by show (if x.1 = o then x.2 else jq6 t o) = _; rw [if_neg e]
      rw [e2] at h ⊢; obtain ⟨y, hy, h1, h2⟩ := ih h; exact ⟨y, by simp [hy], h1, h2⟩
theorem setL_zero (L : Led) (o : Int) : setL L o 0 = L.filter (fun h => decide (h.1 ≠ o)) := by
 unfold setL; rw [show decide ((0 : Rat) = 0) = true from by decide, setP_done]; simp
def insL (o : Int) (q : Rat) : Led → Led
 | [] => [(o, q)]
 | h :: t => if o ≤ h.1 then (o, q) :: (h :: t).filter (fun h => decide (h.1 ≠ o)) else h :: insL o q t
theorem setL_ins {q : Rat} (hq : q ≠ 0) (L : Led) (o : Int) : setL L o q = insL o q L := by
  unfold setL; rw [decide_eq_false hq]
  induction L with
  | nil => rfl
  | cons h t ih =>
    show _ = if o ≤ h.1 then _ else _
    by_cases e : o ≤ h.1
    · rw [if_pos e]
      simp only [setP, Bool.not_false, Bool.true_and, decide_eq_true e, Bool.false_or, setP_done]
      by_cases e2 : h.1 = o
      · simp [e2]
      · simp [e2]
    · rw [if_neg e]
      simp only [setP, Bool.not_false, Bool.true_and, decide_eq_false e, Bool.false_or]; rw [← ih]
      have : h.1 ≠ o := by omega
      simp [this]
theorem ins_mem {o : Int} {q : Rat} : ∀ {L : Led} {x : Int × Rat}, x ∈ insL o q L → x = (o, q) ∨ x ∈ L := by
  intro L
  induction L with
  | nil => intro x hx; left; simpa [insL] using hx
  | cons h t ih =>
    intro x hx; unfold insL at hx
    split at hx
    · rcases List.mem_cons.1 hx with hx | hx
      · exact .inl hx
      · exact .inr (List.mem_filter.1 hx).1
    · rcases List.mem_cons.1 hx with hx | hx
      · exact .inr (by simp [hx])
      · rcases ih hx with h | h
        · exact .inl h
        · exact .inr (by simp [h])
def frB (q : Rat) : Bool := decide (0 ≤ q.num) && decide (q.num ≤ (q.den : Int)) && decide ((q.den : Int) ≤ 10000)
theorem frB_iff (q : Rat) : frB q = true ↔ 0 ≤ q.num ∧ q.num ≤ (q.den : Int) ∧ (q.den : Int) ≤ 10000 := by unfold frB; simp [and_assoc]
theorem den_pos (q : Rat) : 1 ≤ (q.den : Int) := by have := q.den_pos; omega
theorem q_mk (q : Rat) : Rat.divInt q.num q.den = q := Rat.num_divInt_den q
theorem rn_q {n d : Int} (h : 0 < d) : Wsh.rn n d = (Rat.divInt n d).num := by
 rw [Rat.num_divInt, Int.sign_eq_one_of_pos h, Int.one_mul, Int.gcd_comm]; rfl
theorem rd_q {n d : Int} (h : 0 < d) : Wsh.rd n d = ((Rat.divInt n d).den : Int) := by
 rw [Rat.den_divInt, if_neg (by omega)]; unfold Wsh.rd; rw [Int.gcd_comm]; have : (d.natAbs : Int) = d := Int.natAbs_of_nonneg (by omega); rw [Int.natCast_ediv, this]
theorem redB_q {n d : Int} (h : 0 < d) : Wsh.redB n d = frB (Rat.divInt n d) := by
 have g := Wsh.gcd_pos n d h; have e1 := Wsh.rn_mul n d; have e2 := Wsh.rd_mul n d; unfold frB Wsh.redB; rw [← rn_q h, ← rd_q h]
 have a1 : 0 ≤ n ↔ 0 ≤ Wsh.rn n d := by
  constructor
  ·intro hn; exact (Wsh.rn_le n d hn).1
  ·intro hn; rw [← e1]; exact Int.mul_nonneg hn (by omega)
 have a2 : n ≤ d ↔ Wsh.rn n d ≤ Wsh.rd n d := by
  constructor
  ·intro hn
   have : Wsh.rn n d * (Int.gcd n d : Int) ≤ Wsh.rd n d * (Int.gcd n d : Int) := by rw [e1, e2]; exact hn
   exact Int.le_of_mul_le_mul_right this g
  ·intro hn
   have := Int.mul_le_mul_of_nonneg_right hn (Int.le_of_lt g); rw [e1, e2] at this; exact this
 rw [decide_eq_decide.2 a1, decide_eq_decide.2 a2]
theorem vf_q {n d : Int} (h : Wsh.vfB n d = true) : (Rat.divInt n d).num = n ∧ ((Rat.divInt n d).den : Int) = d ∧ frB (Rat.divInt n d) = true := by
 have hd := ((Wsh.vfB_iff n d).1 h).1; obtain ⟨a, b, c⟩ := Wsh.red_self n d h; rw [rn_q (by omega)] at a; rw [rd_q (by omega)] at b; rw [redB_q (by omega)] at c; exact ⟨a, b, c⟩
theorem gcd_q (q : Rat) : Int.gcd q.num q.den = 1 := by
 have := q.reduced; unfold Int.gcd
 simpa [Nat.Coprime] using this
theorem q_vf {q : Rat} (h : frB q = true) : Wsh.vfB q.num q.den = true := by
 rw [frB_iff] at h; rw [Wsh.vfB_iff]; exact ⟨den_pos q, h.2.2, h.1, h.2.1, gcd_q q⟩
theorem mul_dpos (p q : Rat) : 0 < (p.den : Int) * (q.den : Int) := Int.mul_pos (by have := den_pos p; omega) (by have := den_pos q; omega)
theorem add_q (p q : Rat) : Rat.divInt (p.num * q.den + q.num * p.den) (p.den * q.den) = p + q := by
 conv => rhs; rw [← q_mk p, ← q_mk q]
 rw [Rat.divInt_add_divInt _ _ (by have := den_pos p; omega) (by have := den_pos q; omega)]
theorem sub_q (p q : Rat) : Rat.divInt (p.num * q.den - q.num * p.den) (p.den * q.den) = p - q := by
 conv => rhs; rw [← q_mk p, ← q_mk q]
 rw [Rat.divInt_sub_divInt _ _ (by have := den_pos p; omega) (by have := den_pos q; omega)]
theorem add_red (p q : Rat) : Wsh.redB (p.num * q.den + q.num * p.den) (p.den * q.den) = frB (p + q) ∧ Wsh.rn (p.num * q.den + q.num * p.den) (p.den * q.den) = (p + q).num ∧ Wsh.rd (p.num * q.den + q.num * p.den) (p.den * q.den) = ((p + q).den : Int) := by
 rw [redB_q (mul_dpos p q), rn_q (mul_dpos p q), rd_q (mul_dpos p q), add_q]; exact ⟨rfl, rfl, rfl⟩
theorem sub_red (p q : Rat) : Wsh.redB (p.num * q.den - q.num * p.den) (p.den * q.den) = frB (p - q) ∧ Wsh.rn (p.num * q.den - q.num * p.den) (p.den * q.den) = (p - q).num ∧ Wsh.rd (p.num * q.den - q.num * p.den) (p.den * q.den) = ((p - q).den : Int) := by
 rw [redB_q (mul_dpos p q), rn_q (mul_dpos p q), rd_q (mul_dpos p q), sub_q]; exact ⟨rfl, rfl, rfl⟩
theorem frB_nonneg {q : Rat} (h : frB q = true) : 0 ≤ q := Rat.num_nonneg.1 ((frB_iff q).1 h).1
theorem num_zero (q : Rat) : q.num = 0 ↔ q = 0 := Rat.num_eq_zero
def totL : Led → Rat
 | [] => 0
 | h :: t => h.2 + totL t
theorem tot_append (A B : Led) : totL (A ++ B) = totL A + totL B := by
 induction A with
 | nil => show totL B = 0 + totL B; grind
 | cons h t ih => show h.2 + totL (t ++ B) = h.2 + totL t + totL B; rw [ih]; grind
structure VL (L : Led) : Prop where
 len : L.length ≤ 12
 own : ∀ h ∈ L, 1 ≤ h.1 ∧ h.1 ≤ 999
 fr : ∀ h ∈ L, frB h.2 = true
 pos : Pos L
 asc : Asc L
 sums : ∀ k, k ≤ L.length → frB (totL (L.take k)) = true
 one : totL L = 1
def vlB (L : Led) : Bool := decide (L.length ≤ 12) && L.all (fun h => decide (1 ≤ h.1) && decide (h.1 ≤ 999)) && L.all (fun h => frB h.2) && L.all (fun h => decide (0 < h.2)) && decide (L.Pairwise (fun a b => a.1 < b.1)) && (List.range (L.length + 1)).all (fun k => frB (totL (L.take k))) && decide (totL L = 1)
theorem vl_iff (L : Led) : vlB L = true ↔ VL L := by
 unfold vlB; simp only [Bool.and_eq_true, decide_eq_true_eq, List.all_eq_true, List.mem_range]
 constructor
 ·rintro ⟨⟨⟨⟨⟨⟨a, b⟩, c⟩, d⟩, e⟩, f⟩, g⟩
  exact ⟨a, b, c, d, e, fun k hk => f k (by omega), g⟩
 ·intro h
  exact ⟨⟨⟨⟨⟨⟨h.len, h.own⟩, h.fr⟩, h.pos⟩, h.asc⟩, fun k hk => h.sums k (by omega)⟩, h.one⟩
theorem frB_zero : frB 0 = true := by decide
def soldL (L : Led) (f t : Int) (p : Rat) : Led := setL (setL L f (jq6 L f - p)) t (jq6 L t + p)
def sellB (L : Led) (f t : Int) (p : Rat) : Bool :=
 frB (jq6 L f - p) && frB (jq6 L t + p) && decide (p ≠ 0) && decide (f ≠ t) && decide (1 ≤ t) && decide (t ≤ 999) && vlB (soldL L f t p)
theorem sell_iff (L : Led) (f t : Int) (p : Rat) : sellB L f t p = true ↔ frB (jq6 L f - p) = true ∧ frB (jq6 L t + p) = true ∧ p ≠ 0 ∧ f ≠ t ∧ 1 ≤ t ∧ t ≤ 999 ∧ VL (soldL L f t p) := by
 unfold sellB; simp [vl_iff, and_assoc]
def giveL (p : Rat) : Led → List Int → Led
 | L, [] => L
 | L, h :: t => giveL p (setL L h (jq6 L h + p)) t
theorem give_snoc (p : Rat) : ∀ (hs : List Int) (L : Led) (h : Int), giveL p L (hs ++ [h]) = setL (giveL p L hs) h (jq6 (giveL p L hs) h + p) := by
 intro hs
 induction hs with
 | nil => intro L h; rfl
 | cons x t ih => intro L h; exact ih _ h
def jz7 (L : Led) : Nat → Nat
 | 0 => 1
 | k + 1 => Nat.lcm (jz7 L k) (L.getD k (0, 0)).2.den
theorem lcm_succ (L : Led) (k : Nat) : jz7 L (k + 1) = Nat.lcm (jz7 L k) (L.getD k (0, 0)).2.den := rfl
theorem lcm_pos (L : Led) : ∀ k, 0 < jz7 L k := by
 intro k
 induction k with
 | zero => exact Nat.one_pos
 | succ k ih => exact Nat.lcm_pos ih (Rat.den_pos _)
theorem lcm_mono (L : Led) (k : Nat) : jz7 L k ≤ jz7 L (k + 1) := Nat.le_of_dvd (lcm_pos L (k + 1)) (Nat.dvd_lcm_left _ _)
theorem lcm_mono' (L : Led) : ∀ n k, jz7 L k ≤ jz7 L (k + n) := by
 intro n
 induction n with
 | zero => intro k; exact Nat.le_refl _
 | succ n ih => intro k; exact Nat.le_trans (ih k) (lcm_mono L (k + n))
abbrev Hd := Int × Int × Int
abbrev hd0 : Hd := (0, 0, 0)
def jqa (hs : List Hd) : Led := hs.map fun h => (h.1, Rat.divInt h.2.1 h.2.2)
def rawH (h : Int × Rat) : Hd := (h.1, h.2.num, (h.2.den : Int))
def rawL (L : Led) : List Hd := L.map rawH
def jv5 : List Hd → List Int
 | [] => []
 | h :: t => h.1 :: h.2.1 :: h.2.2 :: jv5 t
theorem flat_len : ∀ hs : List Hd, (jv5 hs).length = hs.length * 3 := by
 intro hs
 induction hs with
 | nil => rfl
 | cons h t ih => show (jv5 t).length + 1 + 1 + 1 = (t.length + 1) * 3; rw [ih]; omega
theorem flat_append : ∀ a b : List Hd, jv5 (a ++ b) = jv5 a ++ jv5 b := by
 intro a b
 induction a with
 | nil => rfl
 | cons h t ih => show h.1 :: h.2.1 :: h.2.2 :: jv5 (t ++ b) = _; rw [ih]; rfl
theorem flat_get : ∀ (hs : List Hd) (k : Nat), k < hs.length → (jv5 hs).getD (k * 3) 0 = (hs.getD k hd0).1 ∧ (jv5 hs).getD (k * 3 + 1) 0 = (hs.getD k hd0).2.1 ∧ (jv5 hs).getD (k * 3 + 2) 0 = (hs.getD k hd0).2.2 := by
  intro hs
  induction hs with
  | nil => intro k h; simp at h
  | cons h t ih =>
    intro k hk
    cases k with
    | zero => exact ⟨rfl, rfl, rfl⟩
    | succ k =>
      have := ih k (by simpa using hk); rw [show (k + 1) * 3 = k * 3 + 1 + 1 + 1 from by omega]; exact this
theorem jjd {α : Type} (l : List α) {k : Nat} (h : k < l.length) (d : α) : l.getD k d = l[k] := by
 rw [List.getD_eq_getElem?_getD, List.getElem?_eq_getElem h]; rfl
theorem take_snocD {α : Type} (l : List α) {k : Nat} (h : k < l.length) (d : α) : l.take (k + 1) = l.take k ++ [l.getD k d] := by
 rw [List.take_succ_eq_append_getElem h, jjd l h]
theorem led_len (hs : List Hd) : (jqa hs).length = hs.length := by unfold jqa; simp
theorem led_raw (L : Led) : jqa (rawL L) = L := by
 unfold jqa rawL; rw [List.map_map]
 conv => rhs; rw [← List.map_id L]
 refine List.map_congr_left fun h _ => ?_
 show (h.1, Rat.divInt h.2.num h.2.den) = h
 rw [q_mk]
theorem jjb (L : Led) : (rawL L).length = L.length := by unfold rawL; simp
theorem raw_get (L : Led) {k : Nat} (h : k < L.length) : (rawL L).getD k hd0 = rawH (L.getD k (0, 0)) := by
 rw [jjd _ (by rw [jjb]; exact h), jjd _ h]; unfold rawL; simp
theorem led_get (hs : List Hd) {k : Nat} (h : k < hs.length) : (jqa hs).getD k (0, 0) = ((hs.getD k hd0).1, Rat.divInt (hs.getD k hd0).2.1 (hs.getD k hd0).2.2) := by
 rw [jjd _ (by rw [led_len]; exact h), jjd _ h]; unfold jqa; simp
theorem raw_append (a b : Led) : rawL (a ++ b) = rawL a ++ rawL b := by unfold rawL; simp
def prevO (hs : List Hd) (k : Nat) : Int := if k = 0 then 0 else (hs.getD (k - 1) hd0).1
def okA (hs : List Hd) (k : Nat) : Bool := decide (prevO hs k < (hs.getD k hd0).1) && decide (1 ≤ (hs.getD k hd0).1) && decide ((hs.getD k hd0).1 ≤ 999)
def ascB (hs : List Hd) : Bool := (List.range hs.length).all (okA hs)
def okF (hs : List Hd) (k : Nat) : Bool := Wsh.vfB (hs.getD k hd0).2.1 (hs.getD k hd0).2.2 && decide ((hs.getD k hd0).2.1 ≠ 0)
def sumQ (hs : List Hd) (k : Nat) : Rat := totL ((jqa hs).take k)
def okS (hs : List Hd) (k : Nat) : Bool := okF hs k && frB (sumQ hs (k + 1))
def allS (hs : List Hd) : Bool := (List.range hs.length).all (okS hs)
def allF (hs : List Hd) : Bool := (List.range hs.length).all (okF hs)
def vlR (hs : List Hd) : Bool := decide (hs.length ≤ 12) && ascB hs && allS hs && decide (sumQ hs hs.length = 1)
theorem jji (n : Nat) (f : Nat → Bool) : (List.range n).all f = true ↔ ∀ j, j < n → f j = true := by
 rw [List.all_eq_true]; simp
theorem rng_no {n k : Nat} {f : Nat → Bool} (h : k < n) (hk : f k = false) : (List.range n).all f = false := by
 rw [Bool.eq_false_iff]; intro c; rw [jji] at c; rw [c k h] at hk; cases hk
theorem rng_yes {n : Nat} {f : Nat → Bool} (h : ∀ j, j < n → f j = true) : (List.range n).all f = true := (jji n f).2 h
theorem rng_more {k : Nat} {f : Nat → Bool} (h : ∀ j, j < k → f j = true) (hk : f k = true) : ∀ j, j < k + 1 → f j = true := fun j hj => by
 by_cases e : j = k
 ·subst e; exact hk
 ·exact h j (by omega)
theorem okF_is {hs : List Hd} {k : Nat} (h : okF hs k = true) : Wsh.vfB (hs.getD k hd0).2.1 (hs.getD k hd0).2.2 = true ∧ (hs.getD k hd0).2.1 ≠ 0 := by
 unfold okF at h; simpa using h
theorem okF_no1 {hs : List Hd} {k : Nat} (h : Wsh.vfB (hs.getD k hd0).2.1 (hs.getD k hd0).2.2 = false) : okF hs k = false := by unfold okF; rw [h]; rfl
theorem okF_no2 {hs : List Hd} {k : Nat} (h : (hs.getD k hd0).2.1 = 0) : okF hs k = false := by unfold okF; rw [h]; simp
theorem okF_yes {hs : List Hd} {k : Nat} (h : Wsh.vfB (hs.getD k hd0).2.1 (hs.getD k hd0).2.2 = true) (h2 : (hs.getD k hd0).2.1 ≠ 0) : okF hs k = true := by unfold okF; rw [h]; simpa using h2
theorem okS_no {hs : List Hd} {k : Nat} (h : okF hs k = false) : okS hs k = false := by unfold okS; rw [h]; rfl
theorem okS_no2 {hs : List Hd} {k : Nat} (h : frB (sumQ hs (k + 1)) = false) : okS hs k = false := by unfold okS; rw [h]; simp
theorem okS_yes {hs : List Hd} {k : Nat} (h : okF hs k = true) (h2 : frB (sumQ hs (k + 1)) = true) : okS hs k = true := by unfold okS; rw [h, h2]; rfl
theorem okS_is {hs : List Hd} {k : Nat} (h : okS hs k = true) : okF hs k = true ∧ frB (sumQ hs (k + 1)) = true := by unfold okS at h; simpa using h
theorem sum_succ {hs : List Hd} {k : Nat} (h : k < hs.length) : sumQ hs (k + 1) = sumQ hs k + Rat.divInt (hs.getD k hd0).2.1 (hs.getD k hd0).2.2 := by
 unfold sumQ; rw [take_snocD (jqa hs) (by rw [led_len]; exact h) (0, 0), tot_append, led_get hs h]
 show _ + (Rat.divInt _ _ + 0) = _
 grind
theorem sum_red {hs : List Hd} {k : Nat} (h : k < hs.length) (hv : Wsh.vfB (hs.getD k hd0).2.1 (hs.getD k hd0).2.2 = true) :
  Wsh.redB ((sumQ hs k).num * (hs.getD k hd0).2.2 + (hs.getD k hd0).2.1 * (sumQ hs k).den) ((sumQ hs k).den * (hs.getD k hd0).2.2) = frB (sumQ hs (k + 1)) ∧
  Wsh.rn ((sumQ hs k).num * (hs.getD k hd0).2.2 + (hs.getD k hd0).2.1 * (sumQ hs k).den) ((sumQ hs k).den * (hs.getD k hd0).2.2) = (sumQ hs (k + 1)).num ∧
  Wsh.rd ((sumQ hs k).num * (hs.getD k hd0).2.2 + (hs.getD k hd0).2.1 * (sumQ hs k).den) ((sumQ hs k).den * (hs.getD k hd0).2.2) = ((sumQ hs (k + 1)).den : Int) := by
 obtain ⟨a, b, _⟩ := vf_q hv; have := add_red (sumQ hs k) (Rat.divInt (hs.getD k hd0).2.1 (hs.getD k hd0).2.2); rw [a, b, ← sum_succ h] at this; exact this
theorem one_iff {q : Rat} : q = 1 ↔ q.num = (q.den : Int) := by
 constructor
 ·rintro rfl; rfl
 ·intro h
  have := q_mk q; rw [h, Rat.divInt_self' (by have := den_pos q; omega)] at this; exact this.symm
theorem asc_is {hs : List Hd} (h : ascB hs = true) : Asc (jqa hs) ∧ ∀ x ∈ jqa hs, 1 ≤ x.1 ∧ x.1 ≤ 999 := by
  unfold ascB at h; rw [jji] at h
  have h1 : ∀ k, k < hs.length → prevO hs k < (hs.getD k hd0).1 ∧ 1 ≤ (hs.getD k hd0).1 ∧ (hs.getD k hd0).1 ≤ 999 := fun k hk => by
    have := h k hk; unfold okA at this; simp only [Bool.and_eq_true, decide_eq_true_eq] at this; exact ⟨this.1.1, this.1.2, this.2⟩
  have mono : ∀ n i, i + n + 1 < hs.length → (hs.getD i hd0).1 < (hs.getD (i + n + 1) hd0).1 := by
    intro n
    induction n with
    | zero =>
      intro i hi; have := (h1 (i + 1) hi).1; unfold prevO at this; rw [if_neg (by omega)] at this; exact this
    | succ n ih =>
      intro i hi; have a := ih i (by omega); have := (h1 (i + (n + 1) + 1) hi).1; unfold prevO at this; rw [if_neg (by omega), show i + (n + 1) + 1 - 1 = i + n + 1 from by omega] at this
      omega
  refine ⟨?_, ?_⟩
  · unfold Asc
    rw [List.pairwise_iff_getElem]; intro i j hi hj hij; rw [led_len] at hi hj; have a := mono (j - i - 1) i (by omega); rw [show i + (j - i - 1) + 1 = j from by omega] at a; rw [← jjd (jqa hs) (by rw [led_len]; exact hi) (0, 0), ← jjd (jqa hs) (by rw [led_len]; exact hj) (0, 0), led_get hs hi, led_get hs hj]; exact a
  · intro x hx
    obtain ⟨i, hi, rfl⟩ := List.getElem_of_mem hx; rw [← jjd (jqa hs) hi (0, 0), led_get hs (by rw [led_len] at hi; exact hi)]; exact (h1 i (by rw [led_len] at hi; exact hi)).2
theorem frac_is {hs : List Hd} (h : allF hs = true) : rawL (jqa hs) = hs ∧ Pos (jqa hs) ∧ ∀ x ∈ jqa hs, frB x.2 = true := by
 unfold allF at h; rw [jji] at h
 have h1 : ∀ x ∈ hs, Wsh.vfB x.2.1 x.2.2 = true ∧ x.2.1 ≠ 0 := fun x hx => by
  obtain ⟨i, hi, rfl⟩ := List.getElem_of_mem hx; have := okF_is (h i hi)
  rwa [jjd _ hi] at this
 refine ⟨?_, ?_, ?_⟩
 ·unfold rawL jqa
  rw [List.map_map]
  conv => rhs; rw [← List.map_id hs]
  refine List.map_congr_left fun x hx => ?_
  obtain ⟨a, b, _⟩ := vf_q (h1 x hx).1
  show (x.1, (Rat.divInt x.2.1 x.2.2).num, ((Rat.divInt x.2.1 x.2.2).den : Int)) = x
  rw [a, b]
 ·intro x hx
  unfold jqa at hx; obtain ⟨y, hy, rfl⟩ := List.mem_map.1 hx; obtain ⟨a, b, c⟩ := vf_q (h1 y hy).1; have := frB_nonneg c
  have hn : Rat.divInt y.2.1 y.2.2 ≠ 0 := fun e => (h1 y hy).2 (by rw [← a]; exact (num_zero _).2 e)
  show 0 < Rat.divInt y.2.1 y.2.2
  grind
 ·intro x hx
  unfold jqa at hx; obtain ⟨y, hy, rfl⟩ := List.mem_map.1 hx; exact (vf_q (h1 y hy).1).2.2
theorem all_frac {hs : List Hd} (h : allS hs = true) : allF hs = true := by
 unfold allS at h; unfold allF; rw [jji] at h ⊢; exact fun j hj => (okS_is (h j hj)).1
theorem vlR_is {hs : List Hd} (h : vlR hs = true) : rawL (jqa hs) = hs ∧ VL (jqa hs) := by
  unfold vlR at h; simp only [Bool.and_eq_true, decide_eq_true_eq] at h; obtain ⟨⟨⟨h1, h2⟩, h3⟩, h4⟩ := h; obtain ⟨f1, f2, f3⟩ := frac_is (all_frac h3); obtain ⟨a1, a2⟩ := asc_is h2; refine ⟨f1, ⟨by rw [led_len]; exact h1, a2, f3, f2, a1, fun k hk => ?_, ?_⟩⟩
  · cases k with
    | zero => exact frB_zero
    | succ k =>
      unfold allS at h3; rw [jji] at h3; rw [led_len] at hk; exact (okS_is (h3 k hk)).2
  · have := h4
    unfold sumQ at this
    rwa [List.take_of_length_le (by rw [led_len]; exact Nat.le_refl _)] at this
theorem vlR_raw {L : Led} (h : VL L) : vlR (rawL L) = true := by
 have get : ∀ k, k < L.length → (rawL L).getD k hd0 = rawH L[k]! := fun k hk => by
  rw [raw_get L hk, jjd _ hk, List.getElem!_eq_getElem?_getD, List.getElem?_eq_getElem hk]; rfl
 unfold vlR; simp only [Bool.and_eq_true, decide_eq_true_eq]; refine ⟨⟨⟨by rw [jjb]; exact h.len, ?_⟩, ?_⟩, ?_⟩
 ·refine rng_yes fun k hk => ?_
  rw [jjb] at hk; unfold okA; simp only [Bool.and_eq_true, decide_eq_true_eq]; have o := h.own _ (List.getElem_mem hk); rw [raw_get L hk, jjd _ hk]; refine ⟨⟨?_, o.1⟩, o.2⟩; unfold prevO
  by_cases e : k = 0
  ·rw [if_pos e]; exact Int.lt_of_lt_of_le (by decide) o.1
  ·rw [if_neg e, raw_get L (by omega), jjd _ (by omega)]
   exact (List.pairwise_iff_getElem.1 h.asc) (k - 1) k (by omega) hk (by omega)
 ·refine rng_yes fun k hk => ?_
  rw [jjb] at hk; refine okS_yes (okF_yes ?_ ?_) ?_
  ·rw [raw_get L hk, jjd _ hk]; exact q_vf (h.fr _ (List.getElem_mem hk))
  ·rw [raw_get L hk, jjd _ hk]
   have := h.pos _ (List.getElem_mem hk); intro c; rw [(num_zero _).1 c] at this; exact absurd this (by decide)
  ·unfold sumQ; rw [led_raw]; exact h.sums _ (by omega)
 ·unfold sumQ; rw [led_raw, jjb, List.take_of_length_le (Nat.le_refl _)]; exact h.one
theorem vlR_vl (L : Led) : vlR (rawL L) = vlB L := by
 rw [Bool.eq_iff_iff, vl_iff]; refine ⟨fun h => ?_, vlR_raw⟩; have := (vlR_is h).2
 rwa [led_raw] at this
def shR : List Hd → Int → Int × Int
 | [], _ => (0, 1)
 | h :: t, o => if h.1 = o then h.2 else shR t o
theorem shR_raw (L : Led) (o : Int) : shR (rawL L) o = ((jq6 L o).num, ((jq6 L o).den : Int)) := by
  induction L with
  | nil => rfl
  | cons h t ih =>
    show (if h.1 = o then (h.2.num, (h.2.den : Int)) else shR (rawL t) o) = _
    show _ = ((if h.1 = o then h.2 else jq6 t o).num, ((if h.1 = o then h.2 else jq6 t o).den : Int))
    by_cases e : h.1 = o
    · rw [if_pos e, if_pos e]
    · rw [if_neg e, if_neg e]; exact ih
theorem shR_at {hs : List Hd} {o : Int} {k : Nat} (hk : k < hs.length) (h : ∀ j, j < k → (hs.getD j hd0).1 ≠ o) (he : (hs.getD k hd0).1 = o) : shR hs o = (hs.getD k hd0).2 := by
  induction hs generalizing k with
  | nil => simp at hk
  | cons x t ih =>
    show (if x.1 = o then x.2 else shR t o) = _
    cases k with
    | zero => have he : x.1 = o := he
              rw [if_pos he]; rfl
    | succ k =>
      have h0 : x.1 ≠ o := h 0 (by omega); rw [if_neg h0]; exact ih (by simpa using hk) (fun j hj => h (j + 1) (by omega)) he
theorem shR_none {hs : List Hd} {o : Int} (h : ∀ j, j < hs.length → (hs.getD j hd0).1 ≠ o) : shR hs o = (0, 1) := by
  induction hs with
  | nil => rfl
  | cons x t ih =>
    show (if x.1 = o then x.2 else shR t o) = _
    have h0 : x.1 ≠ o := h 0 (by simp); rw [if_neg h0]; exact ih (fun j hj => h (j + 1) (by simpa using hj))
def setTo (L : Led) (o : Int) (q : Rat) (k : Nat) : Led × Bool := setP o q (decide (q = 0)) (L.take k)
theorem setTo_zero (L : Led) (o : Int) (q : Rat) : setTo L o q 0 = ([], decide (q = 0)) := rfl
theorem setTo_succ {L : Led} (o : Int) (q : Rat) {k : Nat} (h : k < L.length) :
  setTo L o q (k + 1) = ((setTo L o q k).1 ++ ((if !(setTo L o q k).2 && decide (o ≤ (L.getD k (0, 0)).1) then [(o, q)] else []) ++ (if (L.getD k (0, 0)).1 ≠ o then [L.getD k (0, 0)] else [])), (setTo L o q k).2 || decide (o ≤ (L.getD k (0, 0)).1)) := by
 unfold setTo; rw [take_snocD L h (0, 0), setP_append]
 simp [setP]
theorem setTo_end (L : Led) (o : Int) (q : Rat) : setL L o q = (setTo L o q L.length).1 ++ (if (setTo L o q L.length).2 then [] else [(o, q)]) := by
 unfold setTo setL; rw [List.take_of_length_le (Nat.le_refl _)]
theorem setTo_len (L : Led) (o : Int) (q : Rat) : ∀ k, k ≤ L.length → (setTo L o q k).1.length ≤ 2 * k := by
  intro k
  induction k with
  | zero => intro _; simp [setTo_zero]
  | succ k ih =>
    intro h; have := ih (by omega); rw [setTo_succ o q (by omega)]; simp only [List.length_append]
    have a : (if !(setTo L o q k).2 && decide (o ≤ (L.getD k (0, 0)).1) then [(o, q)] else [] : Led).length ≤ 1 := by split <;> simp
    have b : (if (L.getD k (0, 0)).1 ≠ o then [L.getD k (0, 0)] else [] : Led).length ≤ 1 := by split <;> simp
    omega
def shareIs (n d : Int) (q : Rat) : Prop := (n = q.num ∧ d = (q.den : Int)) ∨ (n = 0 ∧ q = 0)
theorem shareIs_zero {n d : Int} {q : Rat} (h : shareIs n d q) : decide (q = 0) = decide (n = 0) := by
 rcases h with ⟨h, _⟩ | ⟨h, h2⟩
 ·rw [h, decide_eq_decide]; exact (num_zero q).symm
 ·rw [h, h2]; rfl
theorem shareIs_raw {n d : Int} {q : Rat} (h : shareIs n d q) (hq : q ≠ 0) (o : Int) : rawH (o, q) = (o, n, d) := by
 rcases h with ⟨h, h1⟩ | ⟨h, h2⟩
 ·rw [h, h1]; rfl
 ·exact absurd h2 hq
theorem share_ok (b : Bool) (q : Rat) : shareIs (Wsh.qn b q.num) (Wsh.qn b (q.den : Int)) (if b then q else 0) := by
 cases b with
 | true => exact .inl ⟨rfl, rfl⟩
 | false => exact .inr ⟨rfl, rfl⟩
theorem share_no : shareIs 0 1 0 := .inl ⟨rfl, rfl⟩
theorem fr_set {L : Led} (h : ∀ x ∈ L, frB x.2 = true) (o : Int) {q : Rat} (hq : frB q = true) : ∀ x ∈ setL L o q, frB x.2 = true := by
 by_cases e : q = 0
 ·rw [e, setL_zero]; exact fun x hx => h x (List.mem_filter.1 hx).1
 ·rw [setL_ins e]
  intro x hx
  rcases ins_mem hx with rfl | hx
  ·exact hq
  ·exact h x hx
theorem share_frA {L : Led} (h : ∀ x ∈ L, frB x.2 = true) (o : Int) : frB (jq6 L o) = true := by
 by_cases e : jq6 L o = 0
 ·rw [e]; exact frB_zero
 ·obtain ⟨x, hx, _, h2⟩ := share_mem e
  rw [← h2]; exact h x hx
theorem set_len {L : Led} (o : Int) (q : Rat) : (setL L o q).length ≤ L.length + 1 := by
  by_cases e : q = 0
  · rw [e, setL_zero]; have := List.length_filter_le (fun h : Int × Rat => decide (h.1 ≠ o)) L; omega
  · rw [setL_ins e]
    induction L with
    | nil => simp [insL]
    | cons h t ih =>
      unfold insL
      split
      · have := List.length_filter_le (fun h : Int × Rat => decide (h.1 ≠ o)) (h :: t); simp only [List.length_cons] at this ⊢; omega
      · simp only [List.length_cons]; omega
def IsHs (w : World) (a : Option Addr) (hs : List Hd) : Prop := hs = [] ∨ ∃ g o, a = some ⟨g, o, none⟩ ∧ ∀ i, i < hs.length → w.cell? ⟨g, o + i * 3, none⟩ = some (.int .i64 (hs.getD i hd0).1) ∧ w.cell? ⟨g, o + i * 3 + 1, none⟩ = some (.int .i64 (hs.getD i hd0).2.1) ∧ w.cell? ⟨g, o + i * 3 + 2, none⟩ = some (.int .i64 (hs.getD i hd0).2.2)
theorem jx3 {w w' : World} {a : Option Addr} {hs : List Hd} (h : IsHs w a hs) (hB : Below w.heap.size w w') : IsHs w' a hs := by
 rcases h with h | ⟨g, o, ha, hc⟩
 ·exact .inl h
 ·refine .inr ⟨g, o, ha, fun i hi => ?_⟩
  obtain ⟨c0, c1, c2⟩ := hc i hi; exact ⟨(hB.cell (p := ⟨g, _, none⟩) (World.block_lt_of_cell? w _ c0)).trans c0, (hB.cell (p := ⟨g, _, none⟩) (World.block_lt_of_cell? w _ c1)).trans c1, (hB.cell (p := ⟨g, _, none⟩) (World.block_lt_of_cell? w _ c2)).trans c2⟩
theorem iowner_yes (n : Int) (w : World) (h1 : 1 ≤ n) (h2 : n ≤ 999) :
  Calls Try.prog 119 #[.int .i64 n] w fun e w' => e = .returned (.bool true) ∧ w = w' := by
 go_enter Try.func119, Try.ntmps119
 go_wp2
 go_ret; exact ⟨rfl, rfl⟩
theorem iowner_no (n : Int) (w : World) (h : n < 1 ∨ 999 < n) :
  Calls Try.prog 119 #[.int .i64 n] w fun e w' => e = .returned (.bool false) ∧ w = w' := by
 by_cases h1 : 1 ≤ n
 ·have hd : decide (n ≤ 999) = false := by simp; omega
  clear h; go_enter Try.func119, Try.ntmps119
  go_wp2
  go_ret; exact ⟨rfl, rfl⟩
 ·have hd : decide (1 ≤ n) = false := by simpa using h1
  clear h; go_enter Try.func119, Try.ntmps119
  go_wp2
  go_ret; exact ⟨rfl, rfl⟩
theorem okA_def (hs : List Hd) (k : Nat) : okA hs k = (decide (prevO hs k < (hs.getD k hd0).1) && decide (1 ≤ (hs.getD k hd0).1) && decide ((hs.getD k hd0).1 ≤ 999)) := rfl
theorem prev_succ (hs : List Hd) (k : Nat) : prevO hs (k + 1) = (hs.getD k hd0).1 := by unfold prevO; rw [if_neg (by omega)]; rfl
theorem iasc (a : Option Addr) (cap : Nat) (hs : List Hd) (w : World) (h : IsHs w a hs) (hn : hs.length ≤ 1048576) :
  Calls Try.prog 61 #[.slice a hs.length cap] w fun e w' => e = .returned (.bool (ascB hs)) ∧ Below w.heap.size w w' := by
 rcases h with rfl | ⟨g, o, rfl, hc⟩
 ·go_enter Try.func61, Try.ntmps61
  go_wp2
  go_rounds 1
  go_ret; exact ⟨rfl, by go_grown⟩
 ·have HC := Lib.hid hc
  clear hc; go_enter Try.func61, Try.ntmps61
  go_wp2
  go_loopw [3, 8] (fun l i wr => ∃ k : Nat, k ≤ hs.length ∧ i = .int .i64 k ∧ l = .int .i64 (prevO hs k) ∧ Hid (∀ j, j < k → okA hs j = true) ∧ Below w.heap.size w wr) (fun _ i _ => hs.length - (intOf i).toNat)
  case atStart => exact ⟨0, Nat.zero_le _, rfl, rfl, fun j hj => by omega, by go_grown⟩
  case round =>
   obtain ⟨k, hk, rfl, rfl, HA, hB⟩ := hrel
   by_cases hlt : k < hs.length
   ·obtain ⟨d0, d1, d2⟩ := HC.out k hlt
    have c0 := (hB.cell (p := ⟨g, _, none⟩) (World.block_lt_of_cell? w _ d0)).trans d0; have c1 := (hB.cell (p := ⟨g, _, none⟩) (World.block_lt_of_cell? w _ d1)).trans d1; have c2 := (hB.cell (p := ⟨g, _, none⟩) (World.block_lt_of_cell? w _ d2)).trans d2; have hok := okA_def hs k; have hpv := prev_succ hs k; clear d0 d1 d2; generalize hs.getD k hd0 = hh at c0 c1 c2 hok hpv; obtain ⟨x, n, d⟩ := hh; generalize prevO hs k = p at hok; dsimp only at c0 c1 c2 hok hpv; have HO := Lib.hid hok; have HP := Lib.hid hpv; have HB := Lib.hid hB; clear hok hpv hB
    by_cases h1 : x ≤ p
    ·have HN : Hid (ascB hs = false) := rng_no hlt (by rw [HO.out, decide_eq_false (by omega : ¬ p < x)]; rfl)
     go_wp2_with fail; go_ret; exact ⟨jq8 HN.out.symm, HB.out.alloc HB.out.size _⟩
    ·have e1 : decide (x ≤ p) = false := by simpa using h1
     by_cases h2 : 1 ≤ x ∧ x ≤ 999
     ·have HY : Hid (∀ j, j < k + 1 → okA hs j = true) := rng_more HA.out (by rw [HO.out]; simp; omega)
      go_wp2_with fail; refine (iowner_yes x _ h2.1 h2.2).mono ?_; rintro e w' ⟨rfl, rfl⟩; go_wp2_with fail
      go_roundw
      case rel => exact ⟨k + 1, by omega, by go_num, by rw [HP.out], HY.out, HB.out.alloc HB.out.size _⟩
      case measure => simp [intOf]; omega
     ·have HN : Hid (ascB hs = false) := rng_no hlt (by rw [HO.out]; simp; omega)
      go_wp2_with fail; refine (iowner_no x _ (by omega)).mono ?_; rintro e w' ⟨rfl, rfl⟩; go_wp2_with fail; go_ret; exact ⟨jq8 HN.out.symm, HB.out.alloc HB.out.size _⟩
   ·go_wp2_with fail
    go_ret; exact ⟨jq8 (rng_yes (fun j hj => HA.out j (by omega))).symm, hB⟩
section
def Blk (w : World) (g : Nat) (t : TypeId) (cs : Array Value) : Prop := w.heap[g]? = some (.cells cs t (0, 0))
section
variable {w w' : World} {g : Nat} {t : TypeId} {cs : Array Value}
theorem Blk.lt (h : Blk w g t cs) : g < w.heap.size := by
 rcases Nat.lt_or_ge g w.heap.size with hlt | hge
 ·exact hlt
 ·unfold Blk at h; rw [Array.getElem?_eq_none hge] at h; cases h
theorem Blk.cell (h : Blk w g t cs) (i : Nat) : w.cell? ⟨g, i, none⟩ = cs[i]? := cell_of_row w g i cs t (0, 0) h
theorem Blk.frozen (h : Blk w g t cs) (i : Nat) : w.frozen? ⟨g, i, none⟩ = false := by
 unfold Blk at h
 simp [World.frozen?, h]
theorem Blk.new (w : World) (t : TypeId) (cs : Array Value) : Blk (w.alloc (.cells cs t)) w.heap.size t cs := heap_alloc_new w _
theorem Blk.alloc (h : Blk w g t cs) (o : Obj) : Blk (w.alloc o) g t cs := (Below.heap_alloc w o g h.lt).trans h
theorem Blk.drew (h : Blk w g t cs) : Blk w.drew g t cs := h
theorem Blk.set_ (h : Blk w g t cs) (i : Nat) (u : Value) : Blk (w.setCell ⟨g, i, none⟩ u) g t (cs.setIfInBounds i u) := by
 unfold Blk at h ⊢
 simp [World.setCell, Array.getElem?_modify, h]
theorem Blk.far (h : Blk w g t cs) {p : Addr} (hp : g ≠ p.block) (u : Value) : Blk (w.setCell p u) g t cs := (Below.heap_setCell w p u g hp).trans h
theorem Blk.below {B : Nat} (h : Blk w g t cs) (hb : Below B w w') (hg : g < B) : Blk w' g t cs := (hb.block g hg).trans h
theorem Blk.next (h : Blk w g t cs) (hb : Below w.heap.size w w') : Blk w' g t cs := h.below hb h.lt
theorem Blk.grown {row : Option Nat} (h : Blk w g t cs) (hb : w.grownBy w' row) (hg : some g ≠ row) : Blk w' g t cs := (hb.block g h.lt hg).trans h
theorem Blk.two {x y : Value} (h : Blk w g t #[x, y]) (u v : Value) : Blk ((w.setCell ⟨g, 0, none⟩ u).setCell ⟨g, 1, none⟩ v) g t #[u, v] := (h.set_ 0 u).set_ 1 v
end
theorem jx1 {w : World} {g : Nat} {t : TypeId} {x y : Value} (h : Blk w g t #[x, y]) : w.cell? ⟨g, 0, none⟩ = some x ∧ w.cell? ⟨g, 1, none⟩ = some y ∧ w.frozen? ⟨g, 0, none⟩ = false ∧ w.frozen? ⟨g, 1, none⟩ = false ∧ g < w.heap.size := ⟨h.cell 0, h.cell 1, h.frozen 0, h.frozen 1, h.lt⟩
theorem fzs6 {w : World} {g : Nat} {t : TypeId} {cs : Array Value} (h : Blk w g t cs) : w.frozen? ⟨g, 0, none⟩ = false ∧ w.frozen? ⟨g, 1, none⟩ = false ∧ w.frozen? ⟨g, 2, none⟩ = false ∧ w.frozen? ⟨g, 3, none⟩ = false ∧ w.frozen? ⟨g, 4, none⟩ = false ∧ w.frozen? ⟨g, 5, none⟩ = false :=
 ⟨h.frozen 0, h.frozen 1, h.frozen 2, h.frozen 3, h.frozen 4, h.frozen 5⟩
theorem fzs9 {w : World} {g : Nat} {t : TypeId} {cs : Array Value} (h : Blk w g t cs) : w.frozen? ⟨g, 0, none⟩ = false ∧ w.frozen? ⟨g, 1, none⟩ = false ∧ w.frozen? ⟨g, 2, none⟩ = false ∧ w.frozen? ⟨g, 3, none⟩ = false ∧ w.frozen? ⟨g, 4, none⟩ = false ∧ w.frozen? ⟨g, 5, none⟩ = false ∧ w.frozen? ⟨g, 6, none⟩ = false ∧ w.frozen? ⟨g, 7, none⟩ = false ∧ w.frozen? ⟨g, 8, none⟩ = false :=
 ⟨h.frozen 0, h.frozen 1, h.frozen 2, h.frozen 3, h.frozen 4, h.frozen 5, h.frozen 6, h.frozen 7, h.frozen 8⟩
theorem fzs10 {w : World} {g : Nat} {t : TypeId} {cs : Array Value} (h : Blk w g t cs) : w.frozen? ⟨g, 0, none⟩ = false ∧ w.frozen? ⟨g, 1, none⟩ = false ∧ w.frozen? ⟨g, 2, none⟩ = false ∧ w.frozen? ⟨g, 3, none⟩ = false ∧ w.frozen? ⟨g, 4, none⟩ = false ∧ w.frozen? ⟨g, 5, none⟩ = false ∧ w.frozen? ⟨g, 6, none⟩ = false ∧ w.frozen? ⟨g, 7, none⟩ = false ∧ w.frozen? ⟨g, 8, none⟩ = false ∧ w.frozen? ⟨g, 9, none⟩ = false :=
 ⟨h.frozen 0, h.frozen 1, h.frozen 2, h.frozen 3, h.frozen 4, h.frozen 5, h.frozen 6, h.frozen 7, h.frozen 8, h.frozen 9⟩
end
theorem inoShare (w : World) : Calls Try.prog 62 #[] w fun e w' => e = .returned (.agg #[.int .i64 0, .int .i64 1]) ∧ Below w.heap.size w w' := by
 go_enter Try.func62, Try.ntmps62
 go_wp2
 refine bodyPost_ret (v := .agg #[.int .i64 0, .int .i64 1]) (by simp [results, Try.results62, go_sem]) rfl ⟨rfl, by go_grown⟩
theorem iAddQ {an ad bn bd x y : Int} (w : World) (hb : (Wsh.vfB an ad && Wsh.vfB bn bd && Wsh.redB (an * bd + bn * ad) (ad * bd)) = true) (hx : Wsh.rn (an * bd + bn * ad) (ad * bd) = x) (hy : Wsh.rd (an * bd + bn * ad) (ad * bd) = y) :
  Calls Try.prog 63 #[.agg #[.int .i64 an, .int .i64 ad], .agg #[.int .i64 bn, .int .i64 bd]] w fun e w' => e = .returned (.tuple #[.agg #[.int .i64 x, .int .i64 y], .bool true]) ∧ Below w.heap.size w w' := by
 have := iAdd an ad bn bd w; rw [hb, hx, hy] at this; exact this
theorem iAddN {an ad bn bd : Int} (w : World) (hb : (Wsh.vfB an ad && Wsh.vfB bn bd && Wsh.redB (an * bd + bn * ad) (ad * bd)) = false) :
  Calls Try.prog 63 #[.agg #[.int .i64 an, .int .i64 ad], .agg #[.int .i64 bn, .int .i64 bd]] w fun e w' => e = .returned (.tuple #[.agg #[.int .i64 0, .int .i64 0], .bool false]) ∧ Below w.heap.size w w' := by
 have := iAdd an ad bn bd w; rw [hb] at this; exact this
theorem vl_no0 {hs : List Hd} (h : 12 < hs.length) : vlR hs = false := by unfold vlR; rw [decide_eq_false (by omega : ¬ hs.length ≤ 12)]; rfl
theorem vl_no1 {hs : List Hd} (h : ascB hs = false) : vlR hs = false := by unfold vlR; rw [h]; simp
theorem vl_no2 {hs : List Hd} {k : Nat} (hk : k < hs.length) (h : okS hs k = false) : vlR hs = false := by unfold vlR allS; rw [rng_no hk h]; simp
theorem vl_end {hs : List Hd} (h1 : hs.length ≤ 12) (h2 : ascB hs = true) (h3 : ∀ j, j < hs.length → okS hs j = true) : vlR hs = decide ((sumQ hs hs.length).num = ((sumQ hs hs.length).den : Int)) := by
 unfold vlR allS; rw [decide_eq_true h1, h2, rng_yes h3, decide_eq_decide.2 one_iff]; rfl
theorem sum_fr {hs : List Hd} {k : Nat} (h : ∀ j, j < k → okS hs j = true) : frB (sumQ hs k) = true := by
 cases k with
 | zero => exact frB_zero
 | succ k => exact (okS_is (h k (by omega))).2
theorem jjg {w wr : World} {g o : Nat} {hs : List Hd} (hc : ∀ i, i < hs.length → w.cell? ⟨g, o + i * 3, none⟩ = some (.int .i64 (hs.getD i hd0).1) ∧ w.cell? ⟨g, o + i * 3 + 1, none⟩ = some (.int .i64 (hs.getD i hd0).2.1) ∧ w.cell? ⟨g, o + i * 3 + 2, none⟩ = some (.int .i64 (hs.getD i hd0).2.2)) (hB : Below w.heap.size w wr) {k : Nat} (hk : k < hs.length) :
  wr.cell? ⟨g, o + k * 3, none⟩ = some (.int .i64 (hs.getD k hd0).1) ∧ wr.cell? ⟨g, o + k * 3 + 1, none⟩ = some (.int .i64 (hs.getD k hd0).2.1) ∧ wr.cell? ⟨g, o + k * 3 + 2, none⟩ = some (.int .i64 (hs.getD k hd0).2.2) := by
 obtain ⟨d0, d1, d2⟩ := hc k hk; exact ⟨(hB.cell (p := ⟨g, _, none⟩) (World.block_lt_of_cell? w _ d0)).trans d0, (hB.cell (p := ⟨g, _, none⟩) (World.block_lt_of_cell? w _ d1)).trans d1, (hB.cell (p := ⟨g, _, none⟩) (World.block_lt_of_cell? w _ d2)).trans d2⟩
theorem iVL (a : Option Addr) (cap : Nat) (hs : List Hd) (w : World) (h : IsHs w a hs) (hn : hs.length ≤ 1048576) :
    Calls Try.prog 16 #[.slice a hs.length cap] w fun e w' => e = .returned (.bool (vlR hs)) ∧ Below w.heap.size w w' := by
  by_cases h12 : 12 < hs.length
  · go_enter Try.func16, Try.ntmps16
    go_wp2_with fail; go_ret; exact ⟨jq8 (vl_no0 h12).symm, by go_grown⟩
  have g12 : decide (12 < (hs.length : Int)) = false := by simp; omega
  cases ha : ascB hs with
  | false =>
    have HN := Lib.hid (vl_no1 ha); have IA := iasc a cap hs w h hn; rw [ha] at IA; clear ha; go_enter Try.func16, Try.ntmps16; go_wp2_with fail; refine IA.mono ?_; rintro e w1 ⟨rfl, hb⟩; go_wp2_with fail; go_ret; exact ⟨jq8 HN.out.symm, hb⟩
  | true =>
    have HA := Lib.hid ha; have IA := iasc a cap hs w h hn; rw [ha] at IA; clear ha; go_enter Try.func16, Try.ntmps16; go_wp2_with fail; refine IA.mono ?_; rintro e w1 ⟨rfl, hb⟩; clear IA; go_wp2_with fail; refine (inoShare _).mono ?_; rintro e w2 ⟨rfl, hb2⟩; have hB := jq2 hb hb2
    obtain ⟨S, hS⟩ : ∃ S, S = w2.heap.size := ⟨_, rfl⟩
    have hSw : w.heap.size ≤ S := by rw [hS]; exact hB.size
    rcases h with rfl | ⟨g, o, rfl, hc⟩
    · go_wp2_with fail
      refine wp_loop_rounds 1 ?_; rw [rounds_succ]; go_wp2_with fail; go_ret; exact ⟨rfl, hB.alloc hB.size _⟩
    · have HC := Lib.hid hc
      clear hc; go_wp2_with fail; rw [← hS]; have hB0 : Below w.heap.size w (w2.alloc (.cells #[.int .i64 0, .int .i64 1] 58)) := hB.alloc hB.size _
      have hS0 : Blk (w2.alloc (.cells #[.int .i64 0, .int .i64 1] 58)) S 58 #[.int .i64 0, .int .i64 1] := by rw [hS]; exact Blk.new _ _ _
      clear hS hb hb2
      go_loopw [19] (fun i wr => ∃ k : Nat, k ≤ hs.length ∧ i = .int .i64 k ∧ Hid (∀ j, j < k → okS hs j = true) ∧ Blk wr S 58 #[.int .i64 (sumQ hs k).num, .int .i64 ((sumQ hs k).den : Int)] ∧ Below w.heap.size w wr) (fun i _ => hs.length - (intOf i).toNat)
      case atStart => exact ⟨0, Nat.zero_le _, rfl, fun j hj => by omega, hS0, hB0⟩
      case round =>
        clear hB0 hS0 hB; obtain ⟨k, hk, rfl, HK, hS, hB⟩ := hrel
        by_cases hlt : k < hs.length
        · obtain ⟨c0, c1, c2⟩ := jjg HC.out hB hlt
          have n0 : (hs.getD k hd0).2.1 = 0 → vlR hs = false := fun e => vl_no2 hlt (okS_no (okF_no2 e))
          have n1 : Wsh.vfB (hs.getD k hd0).2.1 (hs.getD k hd0).2.2 = false → vlR hs = false := fun e => vl_no2 hlt (okS_no (okF_no1 e))
          have n2 : frB (sumQ hs (k + 1)) = false → vlR hs = false := fun e => vl_no2 hlt (okS_no2 e)
          have y2 : Wsh.vfB (hs.getD k hd0).2.1 (hs.getD k hd0).2.2 = true → (hs.getD k hd0).2.1 ≠ 0 → frB (sumQ hs (k + 1)) = true → ∀ j, j < k + 1 → okS hs j = true := fun a b c => rng_more HK.out (okS_yes (okF_yes a b) c)
          have sr := sum_red hlt; have qf := q_vf (sum_fr HK.out); generalize hs.getD k hd0 = hh at c0 c1 c2 n0 n1 n2 y2 sr; obtain ⟨x, n, d⟩ := hh; dsimp only at c0 c1 c2 n0 n1 n2 y2 sr; obtain ⟨s0, s1, s2, s3, s4⟩ := jx1 hS; have N0 := Lib.hid n0; have N1 := Lib.hid n1; have N2 := Lib.hid n2; have Y2 := Lib.hid y2; have SR := Lib.hid sr; have QF := Lib.hid qf; have HS := Lib.hid hS; have HB := Lib.hid hB; clear n0 n1 n2 y2 sr qf hS hB
          by_cases hz : n = 0
          · have e : (n == 0) = true := by simpa using hz
            have HN := Lib.hid (N0.out hz); clear hz; go_wp2_with fail; go_ret; exact ⟨jq8 HN.out.symm, HB.out.alloc HB.out.size _⟩
          · have e : (n == 0) = false := by simpa using hz
            have HZ := Lib.hid hz; clear hz
            cases hv : Wsh.vfB n d with
            | false =>
              have HN := Lib.hid (N1.out hv); have HV := Lib.hid hv; clear hv; go_wp2_with fail; refine (iAddN _ (by rw [HV.out]; simp)).mono ?_; rintro e w3 ⟨rfl, hb⟩; go_wp2_with fail; go_ret; exact ⟨jq8 HN.out.symm, (jq2 (HB.out.alloc HB.out.size _) hb).alloc (jq2 (HB.out.alloc HB.out.size _) hb).size _⟩
            | true =>
              obtain ⟨r1, r2, r3⟩ := SR.out hv
              cases hf : frB (sumQ hs (k + 1)) with
              | false =>
                have HN := Lib.hid (N2.out hf); have HR : Hid _ := r1.trans hf; clear hv hf r1 r2 r3; go_wp2_with fail; refine (iAddN _ (by rw [HR.out]; simp)).mono ?_; rintro e w3 ⟨rfl, hb⟩; go_wp2_with fail; go_ret; exact ⟨jq8 HN.out.symm, (jq2 (HB.out.alloc HB.out.size _) hb).alloc (jq2 (HB.out.alloc HB.out.size _) hb).size _⟩
              | true =>
                have HY := Lib.hid (Y2.out hv HZ.out hf); have HR := Lib.hid (r1.trans hf); have H2 := Lib.hid r2; have H3 := Lib.hid r3; have HV := Lib.hid hv; clear hv hf r1 r2 r3; go_wp2_with fail; refine (iAddQ _ (by rw [QF.out, HV.out, HR.out]; rfl) H2.out H3.out).mono ?_; rintro e w3 ⟨rfl, hb⟩; have hB3 := jq2 (HB.out.alloc HB.out.size _) hb; have hS3 := (HS.out.alloc _).next hb; obtain ⟨t0, t1, t2, t3, t4⟩ := jx1 hS3; clear s0 s1 s2 s3 s4 c0 c1 c2; go_wp2_with fail
                go_roundw
                case rel => exact ⟨k + 1, by omega, by go_num, HY.out, (hS3.two _ _).alloc _, ((hB3.setCell (by exact hSw) _).setCell (by exact hSw) _).alloc (by simpa using hB3.size) _⟩
                case measure => simp [intOf]; omega
        · obtain rfl : hs.length = k := by omega
          obtain ⟨s0, s1, s2, s3, s4⟩ := jx1 hS; have HN := Lib.hid (vl_end (by omega) HA.out HK.out); generalize (sumQ hs hs.length).num = x at s0 HN; generalize ((sumQ hs hs.length).den : Int) = y at s1 HN; clear hS; go_wp2_with fail; go_ret; exact ⟨jq8 HN.out.symm, hB⟩
theorem getD_setZ {zs : List Int} {i : Nat} (j : Nat) (z : Int) (hi : i < zs.length) : (zs.set i z).getD j 0 = if j = i then z else zs.getD j 0 := by
 rw [List.getD_eq_getElem?_getD, List.getD_eq_getElem?_getD, List.getElem?_set]
 by_cases e : i = j
 ·subst e; rw [if_pos rfl, if_pos hi, if_pos rfl]; rfl
 ·rw [if_neg e, if_neg (fun c => e c.symm)]
theorem ext_z {l l' : List Int} (hl : l.length = l'.length) (h : ∀ i, i < l.length → l.getD i 0 = l'.getD i 0) : l = l' := by
 apply List.ext_getElem hl
 intro i h1 h2; have := h i h1
 rwa [List.getD_eq_getElem?_getD, List.getElem?_eq_getElem h1, List.getD_eq_getElem?_getD, List.getElem?_eq_getElem h2] at this
theorem own_ints {w : World} {base : Nat} {v : Value} {zs : List Int} (h : w.ownsRow base 3 1 v zs.length (zs.map (Value.int .i64))) : ∃ (b : Option Addr) (cap : Nat), v = .slice b zs.length cap ∧ jqf w b zs := by
 have h0 := h
 rcases h.2 with ⟨hv, hn⟩ | ⟨g, cap, cur, hv, _⟩
 ·exact ⟨none, 0, by rw [hv, hn], .inl (List.eq_nil_of_length_eq_zero hn)⟩
 ·subst hv
  refine ⟨some ⟨g, 0, none⟩, cap, rfl, .inr ⟨g, 0, rfl, fun i hi => ?_⟩⟩; have := h0.cellAt i (by omega); rw [List.getElem?_map, List.getElem?_eq_getElem hi] at this; rw [Nat.zero_add, this, List.getD_eq_getElem?_getD, List.getElem?_eq_getElem hi]
  rfl
theorem take_map (l : List Int) (k : Nat) (h : k < l.length) : (l.take (k + 1)).map (Value.int .i64) = (l.take k).map (Value.int .i64) ++ [.int .i64 (l.getD k 0)] := by
 rw [List.take_succ_eq_append_getElem h, List.map_append, List.getD_eq_getElem?_getD, List.getElem?_eq_getElem h]; rfl
def OwnI (w : World) (base : Nat) (v : Value) (zs : List Int) : Prop := w.ownsRow base 3 1 v zs.length (zs.map (Value.int .i64))
theorem OwnI.nil (w : World) (base : Nat) : OwnI w base (.slice none 0 0) [] := World.ownsRow_nil w base 3 1
theorem OwnI.new {w W : World} (h : Below w.heap.size w W) : OwnI (W.alloc (.cells #[] 3)) w.heap.size (.slice (some ⟨W.heap.size, 0, none⟩) 0 0) [] :=
 ⟨by simp, .inr ⟨W.heap.size, 0, #[], rfl, h.size, Go.Deep.blk_alloc_new _ _, Nat.le_refl _, by unfold maxLen; omega, rfl, rfl⟩⟩
theorem OwnI.snoc {w : World} {base : Nat} {v : Value} {zs : List Int} {z : Int} (h : w.ownsRow base 3 1 v (zs.length + 1) (zs.map (Value.int .i64) ++ [.int .i64 z])) : OwnI w base v (zs ++ [z]) := by
 unfold OwnI; rw [List.length_append, List.map_append]; exact h
theorem OwnI.ints {w : World} {base : Nat} {v : Value} {zs : List Int} (h : OwnI w base v zs) : ∃ (b : Option Addr) (cap : Nat), v = .slice b zs.length cap ∧ jqf w b zs := own_ints h
theorem OwnI.of_block {w w' : World} {base : Nat} {v : Value} {zs : List Int} (h : OwnI w base v zs) (hb : Below w.heap.size w w') : OwnI w' base v zs := by
 refine ⟨h.1, ?_⟩
 rcases h.2 with h0 | ⟨g, cap, cur, hv, hg, hb0, r⟩
 ·exact .inl h0
 ·exact .inr ⟨g, cap, cur, hv, hg, (hb.block g (Blk.lt hb0)).trans hb0, r⟩
theorem own_lower {w : World} {a b : Nat} {v : Value} {zs : List Int} (h : OwnI w b v zs) (hab : a ≤ b) : OwnI w a v zs := by
 refine ⟨h.1, ?_⟩
 rcases h.2 with h0 | ⟨g, cap, cur, hv, hg, r⟩
 ·exact .inl h0
 ·exact .inr ⟨g, cap, cur, hv, Nat.le_trans hab hg, r⟩
def OutI (w : World) (R : List Int) (e : Ending) (w' : World) : Prop := ∃ v, e = .returned v ∧ OwnI w' w.heap.size v R ∧ Below w.heap.size w w'
theorem OwnI.grow {W : World} {base : Nat} {v : Value} {zs : List Int} (h : OwnI W base v zs) : ∀ q, v.ownBlock = some q → base ≤ q := fun q hq => (World.ownsRow.lt h q hq).1
theorem OwnI.at_ {w : World} {base n c : Nat} {b : Option Addr} {zs : List Int} (h : OwnI w base (.slice b n c) zs) : jqf w b zs := by
 obtain ⟨b', c', e, hi⟩ := OwnI.ints h; injection e with e1 e2 e3; subst e1; exact hi
theorem OwnI.len_ {w : World} {base n c : Nat} {b : Option Addr} {zs : List Int} (h : OwnI w base (.slice b n c) zs) : n = zs.length := by
 obtain ⟨b', c', e, hi⟩ := OwnI.ints h; injection e with e1 e2 e3
theorem OwnI.apart {w w' : World} {base : Nat} {v : Value} {zs : List Int} {row : Option Nat} (h : OwnI w base v zs) (hg : w.grownBy w' row) (hr : ∀ q, row = some q → q < base) : OwnI w' base v zs :=
  World.ownsRow.kept h hg (by
    cases e : v.ownBlock with
    | none => exact .inl rfl
    | some k =>
      refine .inr (fun c => ?_); have a := hr k c.symm; have b := (World.ownsRow.lt h k e).1
      omega)
theorem below_gv {w a b : World} {row : Option Nat} (h : Below w.heap.size w a) (hG : a.grownBy b row) (hg : ∀ q, row = some q → w.heap.size ≤ q) : Below w.heap.size w b := h.grown hG h.size hg
theorem vals_set (zs : List Int) (j : Nat) (z : Int) : (zs.map (Value.int .i64)).set j (.int .i64 z) = (zs.set j z).map (Value.int .i64) := by rw [List.map_set]
theorem OwnI.of_row {w : World} {base g n : Nat} {f : Nat → Value} {zs : List Int} (h : w.rowIs g 3 n f) (hl : zs.length = n) (hf : ∀ j, j < n → f j = .int .i64 (zs.getD j 0)) (hb : base ≤ g) (hn : n ≤ 1048576) : OwnI w base (.slice (some ⟨g, 0, none⟩) n n) zs := by
 obtain ⟨cs, hh, hs, hc⟩ := h; refine ⟨by simp, .inr ⟨g, n, cs, by rw [hl], hb, hh, by omega, by unfold maxLen; omega, by omega, ?_⟩⟩
 apply List.ext_getElem?
 intro j; rw [List.getElem?_take, List.getElem?_map]
 by_cases e : j < zs.length
 ·rw [if_pos (by omega), Array.getElem?_toList, hc j (by omega), hf j (by omega), List.getD_eq_getElem?_getD, List.getElem?_eq_getElem e]; rfl
 ·rw [if_neg (by omega), List.getElem?_eq_none (by omega)]; rfl
theorem OwnI.made {w W : World} (h : Below w.heap.size w W) (n : Nat) (hn : n ≤ 1048576) : OwnI (W.alloc (.cells (madeCells #[.int .i64 0] n) 3)) w.heap.size (.slice (some ⟨W.heap.size, 0, none⟩) n n) (List.replicate n 0) :=
 OwnI.of_row (World.rowIs_made W (.int .i64 0) n 3) (List.length_replicate ..) (fun j hj => by rw [List.getD_eq_getElem?_getD, List.getElem?_replicate, if_pos hj]; rfl) h.size hn
theorem OwnI.set_ {w : World} {base g n c : Nat} {zs : List Int} (h : OwnI w base (.slice (some ⟨g, 0, none⟩) n c) zs) (j : Nat) (z : Int) : OwnI (w.setCell ⟨g, j, none⟩ (.int .i64 z)) base (.slice (some ⟨g, 0, none⟩) n c) (zs.set j z) := by
 obtain rfl := h.len_; have a := (World.ownsRow.stored h j (.int .i64 z)).1; rw [vals_set] at a; unfold OwnI; rw [List.length_set]; exact a
theorem OwnI.cell {w : World} {base g n c : Nat} {zs : List Int} (h : OwnI w base (.slice (some ⟨g, 0, none⟩) n c) zs) {j : Nat} (hj : j < zs.length) : w.cell? ⟨g, j, none⟩ = some (.int .i64 (zs.getD j 0)) := by
 rcases h.at_ with e | ⟨g', o', e, hc⟩
 ·rw [e] at hj; simp at hj
 ·injection e with e; injection e with e1 e2 e3; subst e1 e2
  have := hc j hj; rw [Nat.zero_add] at this; exact this
theorem OwnI.frozen {w : World} {base g n c : Nat} {zs : List Int} (h : OwnI w base (.slice (some ⟨g, 0, none⟩) n c) zs) (j : Nat) : w.frozen? ⟨g, j, none⟩ = false := by
 obtain rfl := h.len_; exact World.ownsRow.frozenAt h j
theorem OwnI.blk {w : World} {base g n c : Nat} {zs : List Int} (h : OwnI w base (.slice (some ⟨g, 0, none⟩) n c) zs) : base ≤ g ∧ g < w.heap.size := World.ownsRow.lt h g rfl
theorem g_set2 {w wr : World} {g j : Nat} {v : Value} (h : w.grownBy wr (some g)) : w.grownBy (wr.setCell ⟨g, j, none⟩ v) (some g) :=
 ⟨h.os, h.tape, h.output, by simpa [World.setCell] using h.size, fun i hi hne => (Below.heap_setCell wr ⟨g, j, none⟩ v i (by rintro rfl; exact hne rfl)).trans (h.block i hi hne)⟩
theorem g_of {w w' : World} (h : Below w.heap.size w w') (row : Option Nat) : w.grownBy w' row := ⟨h.os, h.tape, h.output, h.size, fun i hi _ => h.block i hi⟩
theorem OwnI.far {w : World} {base : Nat} {v : Value} {zs : List Int} (h : OwnI w base v zs) {g j : Nat} (hp : v.ownBlock ≠ some g) (u : Value) : OwnI (w.setCell ⟨g, j, none⟩ u) base v zs :=
 World.ownsRow.kept h (g_set2 (g_of (Below.refl _ _) _)) (.inr hp)
theorem grown_alloc {w w' : World} {o : Obj} {row : Option Nat} (h : (w.alloc o).grownBy w' row) : w.grownBy w' row :=
 ⟨h.os, h.tape, h.output, Nat.le_trans (by rw [World.size_alloc]; omega) h.size, fun i hi hne => (h.block i (by rw [World.size_alloc]; omega) hne).trans (Below.heap_alloc w o i hi)⟩
theorem OwnI.form_ {w : World} {base n c : Nat} {b : Option Addr} {zs : List Int} (h : OwnI w base (.slice b n c) zs) (hl : 0 < zs.length) : ∃ g, b = some ⟨g, 0, none⟩ ∧ base ≤ g := by
 obtain rfl := h.len_; obtain ⟨g, cap, hv, hg, _⟩ := World.ownsRow.form h hl; injection hv with e1 e2 e3; exact ⟨g, e1, hg⟩
theorem wp_snoc {ops : Array Oper} {rest : List Oper} {o : Oper} {a : Act} {Q : Exit → Act → World → Prop} (hgd : o.guard = none) (s x : Operand)
  (ho : o.op = .call { callee := .builtin .append, args := #[s, x], argTypes := #[59, 59] })
  {W : World} {base : Nat} {v : Value} {zs : List Int} {z : Int} (hs : a.eval s = v) (hown : OwnI W base v zs) {g : Nat} (hx : a.eval x = .slice (some ⟨g, 0, none⟩) 1 1) (hg : W.heap.size = g) (hn : zs.length ≤ 1048576) (hbase : base ≤ W.heap.size)
  (h : ∀ v' w', OwnI w' base v' (zs ++ [z]) → W.grownBy w' v.ownBlock → (v'.ownBlock = v.ownBlock ∨ ∃ q, v'.ownBlock = some q ∧ W.heap.size ≤ q) → wpList Try.prog ops Q rest (a.put o.dst v') w') :
  wpList Try.prog ops Q (o :: rest) a (W.alloc (.cells #[.int .i64 z] 3)) := by
 subst hg; obtain ⟨i0, hi, hz0, hz1, hz2⟩ := info_parts infoInt; refine wpList_append_own_at _ hgd s x 59 ho base 3 i0 (.int .i64 0) 1 8 Try.underlying59 hi hz0 hz1 hz2 rfl (by decide) v zs.length _ hs (World.ownsRow.alloc hown _) ⟨W.heap.size, 0, none⟩ 1 1 [.int .i64 z] hx rfl (cell_one_new _ _ _) (fun x hx => by simp at hx; subst hx; rfl) (by unfold maxLen; omega) (by omega) (by rw [World.size_alloc]; omega) ?_; intro v' w' h1 h2 _ h4; refine h v' w' (OwnI.snoc h1) (grown_alloc h2) ?_
 rcases h4 with h4 | h4
 ·exact .inl h4
 ·exact .inr ⟨_, h4, by rw [World.size_alloc]; omega⟩
section
theorem block_of_add (a : Addr) (n : Nat) : (a.add n).block = a.block := by unfold Addr.add; split <;> rfl
def Reads (w : World) (B size : Nat) (A : Option Addr) (n : Nat) (xs : List Value) : Prop :=
 xs.length = n * size ∧ (0 < n → ∃ ad, A = some ad ∧ ad.block < B ∧ ∀ j u, xs[j]? = some u → w.cell? (ad.add j) = some u)
section
variable {w w' : World} {B B' size n : Nat} {A : Option Addr} {xs : List Value}
theorem Reads.keep (h : Reads w B size A n xs) (hk : ∀ p : Addr, p.block < B → w'.cell? p = w.cell? p) : Reads w' B size A n xs :=
 ⟨h.1, fun hn => by
  obtain ⟨ad, e, hb, hc⟩ := h.2 hn
  exact ⟨ad, e, hb, fun j u hu => (hk _ (by rw [block_of_add]; exact hb)).trans (hc j u hu)⟩⟩
theorem Reads.alloc (h : Reads w B size A n xs) (hB : B ≤ w.heap.size) (o : Obj) : Reads (w.alloc o) B size A n xs := h.keep fun p hp => World.cell?_alloc_lt w o p (by omega)
theorem Reads.of_own {base : Nat} {e : TypeId} {c : Nat} (h : w.ownsRow base e size (.slice A n c) n xs) : Reads w w.heap.size size A n xs := by
 refine ⟨h.1, fun hn => ?_⟩; obtain ⟨g, cap, hv, _, hlt⟩ := h.form hn
 have hA : A = some ⟨g, 0, none⟩ := by injection hv
 subst hA; exact ⟨_, rfl, hlt, h.cells (g := g) rfl⟩
end
section
variable {P : Program} (w : World)
theorem run_append_of_nil (base : Nat) (t ty e : TypeId) (i : TypeInfo) (size : Nat) (ht : P.underlying t = some (.slice e)) (hi : P.info? e = some i)
  (v : Value) (n : Nat) (xs : List Value) (hown : w.ownsRow base e size v n xs) (c : Nat) : (Builtin.append_ #[t, t] ty #[v, .slice none 0 c]).run P w = .ok v w := by
 rcases hown.2 with ⟨rfl, rfl⟩ | ⟨g, cap, cur, rfl, _, _, hnc, _⟩
 ·simp [Builtin.append_, run_underlying ht, sizeOf, typeInfo, hi, Builtin.lenOf, Builtin.firstCells]
 ·simp [Builtin.append_, run_underlying ht, sizeOf, typeInfo, hi, Builtin.lenOf, Builtin.firstCells, hnc, storeCells]
theorem run_append_any (base : Nat) (t ty e : TypeId) (i : TypeInfo) (z : Value) (size bytes : Nat) (ht : P.underlying t = some (.slice e)) (hi : P.info? e = some i) (hz : i.zero = some z)
  (hsize : i.size = size) (hby : i.bytes = bytes) (hzs : z.cells.size = size) (hsz : 0 < size)
  (v : Value) (n : Nat) (xs : List Value) (hown : w.ownsRow base e size v n xs)
  (B : Nat) (A : Option Addr) (m c : Nat) (news : List Value) (hr : Reads w B size A m news) (h1 : ∀ u ∈ news, u.oneCell' = true)
  (h63 : n + m ≤ maxLen) (hbytes : (n + m) * bytes ≤ 140737488355328) (hbase : base ≤ w.heap.size) :
  ∃ v' w', (Builtin.append_ #[t, t] ty #[v, .slice A m c]).run P w = .ok v' w' ∧ w'.ownsRow base e size v' (n + m) (xs ++ news) ∧ w.grownBy w' v.ownBlock ∧
   (v'.ownBlock = v.ownBlock ∨ v'.ownBlock = some w.heap.size) := by
 rcases A with _ | ad
 ·have hm : m = 0 := by
   rcases Nat.eq_zero_or_pos m with h0 | h0
   ·exact h0
   ·obtain ⟨ad, h, _⟩ := hr.2 h0
    cases h
  subst hm; have hn : news = [] := List.eq_nil_of_length_eq_zero (by simpa using hr.1); subst hn; exact ⟨v, w, run_append_of_nil w base t ty e i size ht hi v n xs hown c, by simpa using hown, World.grownBy.refl w _, .inl rfl⟩
 ·have hcells : ∀ j u, news[j]? = some u → w.cell? (ad.add j) = some u := by
   intro j u hu
   rcases Nat.eq_zero_or_pos m with h0 | h0
   ·subst h0
    have hn : news = [] := List.eq_nil_of_length_eq_zero (by simpa using hr.1); subst hn
    simp at hu
   ·obtain ⟨ad', h, _, hc⟩ := hr.2 h0
    injection h with h; subst h; exact hc j u hu
  obtain ⟨v', w', hrun, h2, h3, _, h5⟩ := run_append_own_at (P := P) w base t ty e i z size bytes ht hi hz hsize hby hzs hsz v n xs hown ad m c news hr.1 hcells h1 h63 hbytes hbase; exact ⟨v', w', hrun, h2, h3, h5⟩
theorem wp_append_any {o : Oper} {a : Act} {K : Act → World → Prop} {Q : Exit → Act → World → Prop} (s x : Operand) (t : TypeId)
  (ho : o.op = .call { callee := .builtin .append, args := #[s, x], argTypes := #[t, t] })
  (base : Nat) (e : TypeId) (i : TypeInfo) (z : Value) (size bytes : Nat) (ht : P.underlying t = some (.slice e)) (hi : P.info? e = some i) (hz : i.zero = some z)
  (hsize : i.size = size) (hby : i.bytes = bytes) (hzs : z.cells.size = size) (hsz : 0 < size)
  (v : Value) (n : Nat) (xs : List Value) (hs : a.eval s = v) (hown : w.ownsRow base e size v n xs)
  (B : Nat) (A : Option Addr) (m c : Nat) (news : List Value) (hx : a.eval x = .slice A m c) (hr : Reads w B size A m news) (h1 : ∀ u ∈ news, u.oneCell' = true)
  (h63 : n + m ≤ maxLen) (hbytes : (n + m) * bytes ≤ 140737488355328) (hbase : base ≤ w.heap.size)
  (h : ∀ v' w', w'.ownsRow base e size v' (n + m) (xs ++ news) → w.grownBy w' v.ownBlock → (v'.ownBlock = v.ownBlock ∨ v'.ownBlock = some w.heap.size) → K (a.put o.dst v') w') : o.wp P a w K Q := by
 obtain ⟨v', w', hrun, h2, h3, h4⟩ := run_append_any (P := P) w base t o.type e i z size bytes ht hi hz hsize hby hzs hsz v n xs hown B A m c news hr h1 h63 hbytes hbase; unfold Oper.wp execOp; simp only [ho, resolve, invoke, builtin, Sem.run_bind, Sem.run_pure, Result.andThen_ok, List.map_toArray, List.map_cons, List.map_nil, hs, hx, hrun]; exact h v' w' h2 h3 h4
theorem jx5 {ops : Array Oper} {rest : List Oper} {o : Oper} {a : Act} {Q : Exit → Act → World → Prop} (hgd : o.guard = none) (s x : Operand) (t : TypeId)
  (ho : o.op = .call { callee := .builtin .append, args := #[s, x], argTypes := #[t, t] })
  (base : Nat) (e : TypeId) (i : TypeInfo) (z : Value) (size bytes : Nat) (ht : P.underlying t = some (.slice e)) (hi : P.info? e = some i) (hz : i.zero = some z)
  (hsize : i.size = size) (hby : i.bytes = bytes) (hzs : z.cells.size = size) (hsz : 0 < size)
  (v : Value) (n : Nat) (xs : List Value) (hs : a.eval s = v) (hown : w.ownsRow base e size v n xs)
  (B : Nat) (A : Option Addr) (m c : Nat) (news : List Value) (hx : a.eval x = .slice A m c) (hr : Reads w B size A m news) (h1 : ∀ u ∈ news, u.oneCell' = true)
  (h63 : n + m ≤ maxLen) (hbytes : (n + m) * bytes ≤ 140737488355328) (hbase : base ≤ w.heap.size)
  (h : ∀ v' w', w'.ownsRow base e size v' (n + m) (xs ++ news) → w.grownBy w' v.ownBlock → (v'.ownBlock = v.ownBlock ∨ v'.ownBlock = some w.heap.size) → wpList P ops Q rest (a.put o.dst v') w') : wpList P ops Q (o :: rest) a w :=
 wpList_plain hgd fun _ hK => wp_append_any w s x t ho base e i z size bytes ht hi hz hsize hby hzs hsz v n xs hs hown B A m c news hx hr h1 h63 hbytes hbase fun v' w' h2 h3 h4 => hK _ _ (h v' w' h2 h3 h4)
theorem step_append_any {ops : Array Oper} {o : Oper} {a : Act} {K : Act → World → Prop} {Q : Exit → Act → World → Prop} {E : Prop} (hgd : o.guard = none) (s x : Operand) (t : TypeId)
  (ho : o.op = .call { callee := .builtin .append, args := #[s, x], argTypes := #[t, t] })
  (base : Nat) (e : TypeId) (i : TypeInfo) (z : Value) (size bytes : Nat) (ht : P.underlying t = some (.slice e)) (hi : P.info? e = some i) (hz : i.zero = some z)
  (hsize : i.size = size) (hby : i.bytes = bytes) (hzs : z.cells.size = size) (hsz : 0 < size)
  (v : Value) (n : Nat) (xs : List Value) (hs : a.eval s = v) (hown : w.ownsRow base e size v n xs)
  (B : Nat) (A : Option Addr) (m c : Nat) (news : List Value) (hx : a.eval x = .slice A m c) (hr : Reads w B size A m news) (h1 : ∀ u ∈ news, u.oneCell' = true)
  (h63 : n + m ≤ maxLen) (hbytes : (n + m) * bytes ≤ 140737488355328) (hbase : base ≤ w.heap.size)
  (h : ∀ v' w', w'.ownsRow base e size v' (n + m) (xs ++ news) → w.grownBy w' v.ownBlock → (v'.ownBlock = v.ownBlock ∨ v'.ownBlock = some w.heap.size) → K (a.put o.dst v') w') :
  if Region.wanted o (yielded ops a.tmps) = true then Oper.wp P o a w K Q else E := by
 have hw : Region.wanted o (yielded ops a.tmps) = true := by simp [Region.wanted, hgd]
 rw [if_pos hw]; exact wp_append_any w s x t ho base e i z size bytes ht hi hz hsize hby hzs hsz v n xs hs hown B A m c news hx hr h1 h63 hbytes hbase h
end
end
def jv1 (hs : List Hd) : List Value := (jv5 hs).map (Value.int .i64)
theorem vals_len (hs : List Hd) : (jv1 hs).length = hs.length * 3 := by unfold jv1; rw [List.length_map, flat_len]
theorem vals_append (a b : List Hd) : jv1 (a ++ b) = jv1 a ++ jv1 b := by unfold jv1; rw [flat_append, List.map_append]
theorem vals_one (hs : List Hd) : ∀ u ∈ jv1 hs, u.oneCell' = true := fun u hu => by
 unfold jv1 at hu; obtain ⟨z, _, rfl⟩ := List.mem_map.1 hu
 rfl
theorem vals_get {hs : List Hd} {k : Nat} (h : k < hs.length) : (jv1 hs)[k * 3]? = some (.int .i64 (hs.getD k hd0).1) ∧ (jv1 hs)[k * 3 + 1]? = some (.int .i64 (hs.getD k hd0).2.1) ∧ (jv1 hs)[k * 3 + 2]? = some (.int .i64 (hs.getD k hd0).2.2) := by
 obtain ⟨a, b, c⟩ := flat_get hs k h; have hl := flat_len hs
 have get : ∀ j, j < (jv5 hs).length → (jv1 hs)[j]? = some (.int .i64 ((jv5 hs).getD j 0)) := fun j hj => by
  unfold jv1; rw [List.getElem?_map, List.getElem?_eq_getElem hj, List.getD_eq_getElem?_getD, List.getElem?_eq_getElem hj]; rfl
 rw [get _ (by omega), get _ (by omega), get _ (by omega), a, b, c]; exact ⟨rfl, rfl, rfl⟩
theorem add_off (g o j : Nat) : (⟨g, o, none⟩ : Addr).add j = ⟨g, o + j, none⟩ := by
 unfold Addr.add
 by_cases h : j = 0
 ·subst h; simp
 ·simp [h]
theorem hs_reads {w : World} {a : Option Addr} {hs : List Hd} (h : IsHs w a hs) : Reads w w.heap.size 3 a hs.length (jv1 hs) := by
 refine ⟨vals_len hs, fun hn => ?_⟩
 rcases h with rfl | ⟨g, o, rfl, hc⟩
 ·exact absurd hn (by simp)
 ·refine ⟨⟨g, o, none⟩, rfl, ?_, fun j u hu => ?_⟩
  ·exact World.block_lt_of_cell? w _ (hc 0 hn).1
  ·have hl := vals_len hs
   have hj : j < (jv1 hs).length := by
    rcases Nat.lt_or_ge j (jv1 hs).length with h | h
    ·exact h
    ·rw [List.getElem?_eq_none h] at hu; cases hu
   have hk : j / 3 < hs.length := by omega
   obtain ⟨c0, c1, c2⟩ := hc _ hk; obtain ⟨v0, v1, v2⟩ := vals_get hk
   have hm : j % 3 = 0 ∨ j % 3 = 1 ∨ j % 3 = 2 := by omega
   rw [add_off]
   rcases hm with e | e | e
   ·have ej : j = j / 3 * 3 := by omega
    rw [ej] at hu ⊢; rw [v0] at hu; rw [c0, ← hu]
   ·have ej : j = j / 3 * 3 + 1 := by omega
    rw [ej] at hu ⊢; rw [v1] at hu; rw [← Nat.add_assoc, c1, ← hu]
   ·have ej : j = j / 3 * 3 + 2 := by omega
    rw [ej] at hu ⊢; rw [v2] at hu; rw [← Nat.add_assoc, c2, ← hu]
theorem reads_hs {w : World} {B : Nat} {a : Option Addr} {hs : List Hd} (h : Reads w B 3 a hs.length (jv1 hs)) (hsp : ∀ ad, a = some ad → ad.spot = none) : IsHs w a hs := by
 by_cases hn : hs = []
 ·exact .inl hn
 ·obtain ⟨ad, rfl, _, hc⟩ := h.2 (by cases hs with | nil => exact absurd rfl hn | cons _ _ => simp)
  obtain ⟨g, o, sp⟩ := ad; obtain rfl : sp = none := hsp _ rfl; refine .inr ⟨g, o, rfl, fun i hi => ?_⟩; obtain ⟨v0, v1, v2⟩ := vals_get hi; have e0 := hc _ _ v0; have e1 := hc _ _ v1; have e2 := hc _ _ v2; rw [add_off] at e0 e1 e2; rw [← Nat.add_assoc] at e1 e2; exact ⟨e0, e1, e2⟩
theorem infoH : (Try.prog.info? 91).map (fun i => (i.zero, i.size, i.bytes)) = some (some (.agg #[.int .i64 0, .int .i64 0, .int .i64 0]), 3, 24) := by kernel_rfl
def OwnH (w : World) (base : Nat) (v : Value) (hs : List Hd) : Prop := w.ownsRow base 91 3 v hs.length (jv1 hs)
theorem jxg (w : World) (cs : List Value) (t : TypeId) : ∀ j u, cs[j]? = some u → (w.alloc (.cells cs.toArray t)).cell? ((⟨w.heap.size, 0, none⟩ : Addr).add j) = some u := fun j u hu => by
 rw [add_off, Nat.zero_add, (Blk.new w t cs.toArray).cell j, ← hu]; simp
def Flat (w : World) (g : Nat) (t : TypeId) (zs : List Int) : Prop := ∃ cs : Array Value, w.heap[g]? = some (.cells cs t (0, 0)) ∧ ∀ j, j < zs.length → cs[j]? = some (.int .i64 (zs.getD j 0))
theorem Flat.cell {w : World} {g : Nat} {t : TypeId} {zs : List Int} (h : Flat w g t zs) {j : Nat} (hj : j < zs.length) : w.cell? ⟨g, j, none⟩ = some (.int .i64 (zs.getD j 0)) := by
 obtain ⟨cs, hb, hc⟩ := h; rw [cell_of_row w g j cs t (0, 0) hb]; exact hc j hj
theorem Flat.frozen {w : World} {g : Nat} {t : TypeId} {zs : List Int} (h : Flat w g t zs) (j : Nat) : w.frozen? ⟨g, j, none⟩ = false := by
 obtain ⟨cs, hb, hc⟩ := h
 simp [World.frozen?, hb]
theorem Flat.lt {w : World} {g : Nat} {t : TypeId} {zs : List Int} (h : Flat w g t zs) : g < w.heap.size := by
 obtain ⟨cs, hb, hc⟩ := h; exact Blk.lt hb
theorem Flat.of_block {w w' : World} {g : Nat} {t : TypeId} {zs : List Int} (h : Flat w g t zs) (e : w'.heap[g]? = w.heap[g]?) : Flat w' g t zs := by
 obtain ⟨cs, hb, hc⟩ := h; exact ⟨cs, e.trans hb, hc⟩
theorem Flat.next {w w' : World} {g : Nat} {t : TypeId} {zs : List Int} (h : Flat w g t zs) (hb : Below w.heap.size w w') : Flat w' g t zs := h.of_block (hb.block g h.lt)
theorem getD_setF {zs : List Int} {i j : Nat} {z : Int} (hi : i < zs.length) : (zs.set i z).getD j 0 = if j = i then z else zs.getD j 0 := by
 rw [List.getD_eq_getElem?_getD, List.getD_eq_getElem?_getD, List.getElem?_set]
 by_cases e : i = j
 ·subst e; rw [if_pos rfl, if_pos hi, if_pos rfl]; rfl
 ·rw [if_neg e, if_neg (fun c => e c.symm)]
theorem Flat.set_ {w : World} {g : Nat} {t : TypeId} {zs : List Int} (h : Flat w g t zs) {i : Nat} (hi : i < zs.length) (z : Int) : Flat (w.setCell ⟨g, i, none⟩ (.int .i64 z)) g t (zs.set i z) := by
 obtain ⟨cs, hb, hc⟩ := h; refine ⟨cs.setIfInBounds i (.int .i64 z), Blk.set_ hb i _, fun j hj => ?_⟩; rw [List.length_set] at hj
 have hs : i < cs.size := by
  have := hc i hi
  rcases Nat.lt_or_ge i cs.size with h | h
  ·exact h
  ·rw [Array.getElem?_eq_none h] at this; cases this
 rw [Array.getElem?_setIfInBounds, getD_setF hi]
 by_cases e : i = j
 ·subst e; rw [if_pos rfl, if_pos hs, if_pos rfl]
 ·rw [if_neg e, if_neg (fun c => e c.symm)]; exact hc j hj
theorem Flat.own {w : World} {base : Nat} {e : TypeId} {size n : Nat} {v : Value} {zs : List Int} (h : w.ownsRow base e size v n (zs.map (Value.int .i64))) : (v = .slice none 0 0 ∧ n = 0) ∨ ∃ g cap, v = .slice (some ⟨g, 0, none⟩) n cap ∧ base ≤ g ∧ Flat w g e zs ∧ n ≤ cap := by
 rcases h.2 with h0 | ⟨g, cap, cur, rfl, hg, hb, hnc, _, _, ht⟩
 ·exact .inl h0
 ·refine .inr ⟨g, cap, rfl, hg, ⟨cur, hb, fun j hj => ?_⟩, hnc⟩
  have hl := h.1; rw [List.length_map] at hl
  have : (List.take (n * size) cur.toList)[j]? = some (.int .i64 (zs.getD j 0)) := by
   rw [ht, List.getElem?_map, List.getElem?_eq_getElem hj, List.getD_eq_getElem?_getD, List.getElem?_eq_getElem hj]; rfl
  rw [List.getElem?_take_of_lt (by omega)] at this
  simpa using this
theorem Flat.hs {w : World} {g : Nat} {t : TypeId} {hs : List Hd} (h : Flat w g t (jv5 hs)) : IsHs w (some ⟨g, 0, none⟩) hs := by
 refine .inr ⟨g, 0, rfl, fun i hi => ?_⟩; obtain ⟨a, b, c⟩ := flat_get hs i hi; have hl := flat_len hs; rw [Nat.zero_add]; exact ⟨by rw [h.cell (by omega), a], by rw [h.cell (by omega), b], by rw [h.cell (by omega), c]⟩
def RowF (w : World) (base : Nat) (t : TypeId) (v : Value) (n : Nat) (zs : List Int) : Prop := (v = .slice none 0 0 ∧ n = 0) ∨ ∃ g cap, v = .slice (some ⟨g, 0, none⟩) n cap ∧ base ≤ g ∧ Flat w g t zs ∧ n ≤ cap
theorem RowF.next {w w' : World} {base n : Nat} {t : TypeId} {v : Value} {zs : List Int} (h : RowF w base t v n zs) (hb : Below w.heap.size w w') : RowF w' base t v n zs := by
 rcases h with h | ⟨g, cap, hv, hg, F, hc⟩
 ·exact .inl h
 ·exact .inr ⟨g, cap, hv, hg, F.next hb, hc⟩
theorem RowF.base {w : World} {a b n : Nat} {t : TypeId} {v : Value} {zs : List Int} (h : RowF w b t v n zs) (hab : a ≤ b) : RowF w a t v n zs := by
 rcases h with h | ⟨g, cap, hv, hg, r⟩
 ·exact .inl h
 ·exact .inr ⟨g, cap, hv, Nat.le_trans hab hg, r⟩
theorem RowF.far {w w' : World} {base n : Nat} {t : TypeId} {v : Value} {zs : List Int} {row : Option Nat} (h : RowF w base t v n zs) (hG : w.grownBy w' row) (hr : ∀ q, row = some q → q < base) : RowF w' base t v n zs := by
 rcases h with h | ⟨g, cap, hv, hg, F, hc⟩
 ·exact .inl h
 ·refine .inr ⟨g, cap, hv, hg, F.of_block (hG.block g F.lt ?_), hc⟩
  intro c; have := hr g c.symm
  omega
theorem rowN {w w' : World} {base n size : Nat} {t : TypeId} {v : Value} {xs : List Value} (h : w.ownsRow base t size v n xs) (hb : Below w.heap.size w w') : w'.ownsRow base t size v n xs := by
 refine ⟨h.1, ?_⟩
 rcases h.2 with h0 | ⟨g, cap, cur, hv, hg, hb0, r⟩
 ·exact .inl h0
 ·exact .inr ⟨g, cap, cur, hv, hg, (hb.block g (Blk.lt hb0)).trans hb0, r⟩
theorem rowH {w w' : World} {base n size : Nat} {t : TypeId} {v : Value} {xs : List Value} (h : w.ownsRow base t size v n xs) (hk : ∀ (g : Nat) (cs : Array Value), w.heap[g]? = some (Obj.cells cs t (0, 0)) → w'.heap[g]? = w.heap[g]?) : w'.ownsRow base t size v n xs := by
 refine ⟨h.1, ?_⟩
 rcases h.2 with h0 | ⟨g, cap, cur, hv, hg, hb0, r⟩
 ·exact .inl h0
 ·exact .inr ⟨g, cap, cur, hv, hg, (hk g cur hb0).trans hb0, r⟩
theorem blk_type {w : World} {b g : Nat} {t t' : TypeId} {cs cs' : Array Value} (K : Blk w b t cs) (h : w.heap[g]? = some (Obj.cells cs' t' (0, 0))) (hne : t ≠ t') : g ≠ b := by
 rintro rfl; unfold Blk at K; rw [K] at h; injection h with e; injection e with _ e2; exact hne e2
theorem rowS {w : World} {base n size b : Nat} {t t' : TypeId} {v : Value} {xs : List Value} {cs : Array Value} (h : w.ownsRow base t size v n xs) (K : Blk w b t' cs) (hne : t' ≠ t) (j : Nat) (x : Value) : (w.setCell ⟨b, j, none⟩ x).ownsRow base t size v n xs :=
 rowH h (fun g cs' hg => Below.heap_setCell w ⟨b, j, none⟩ x g (blk_type K hg hne))
theorem rowG {w w' : World} {base n size : Nat} {t : TypeId} {v : Value} {xs : List Value} {O : Obj} (h : w.ownsRow base t size v n xs) (hG : (w.alloc O).grownBy w' (some w.heap.size)) : w'.ownsRow base t size v n xs :=
 rowH h (fun g cs hg => by
  have hlt : g < w.heap.size := Blk.lt hg
  exact (hG.block g (by simp; omega) (fun e => by injection e with e; omega)).trans (Below.heap_alloc w O g hlt))
theorem blkN {w w' : World} {g : Nat} {t : TypeId} {cs : Array Value} {O : Obj} (h : Blk w g t cs) (hG : (w.alloc O).grownBy w' (some w.heap.size)) : Blk w' g t cs :=
 (h.alloc O).grown hG (fun e => by injection e with e; exact absurd h.lt (by omega))
theorem belN {w0 w w' : World} {O : Obj} (h : Below w0.heap.size w0 w) (hG : (w.alloc O).grownBy w' (some w.heap.size)) : Below w0.heap.size w0 w' :=
 (h.alloc h.size O).grown hG (by have := h.size; simp; omega) (fun q e => by injection e with e; have := h.size; omega)
theorem own_form {w : World} {base n size : Nat} {t : TypeId} {v : Value} {xs : List Value} (h : w.ownsRow base t size v n xs) : ∃ b k, v = .slice b n k ∧ n ≤ k := by
 rcases h.2 with ⟨e, h0⟩ | ⟨g, cap, cur, e, _, _, hc, _⟩
 ·exact ⟨none, 0, by rw [e, h0], by omega⟩
 ·exact ⟨_, _, e, hc⟩
theorem jqi {w : World} {base n size : Nat} {t : TypeId} {v : Value} {zs : List Int} (h : w.ownsRow base t size v n (zs.map (Value.int .i64))) : RowF w base t v n zs := Flat.own h
def sets6 (w : World) (b : Nat) (v0 v1 v2 v3 v4 v5 : Value) : World := ((((((w.setCell ⟨b, 0, none⟩ v0).setCell ⟨b, 1, none⟩ v1).setCell ⟨b, 2, none⟩ v2).setCell ⟨b, 3, none⟩ v3).setCell ⟨b, 4, none⟩ v4).setCell ⟨b, 5, none⟩ v5)
theorem sets6_below {w W : World} {b : Nat} {v0 v1 v2 v3 v4 v5 : Value} (h : Below w.heap.size w W) (hb : w.heap.size ≤ b) : Below w.heap.size w (sets6 W b v0 v1 v2 v3 v4 v5) := ((((((h.setCell (p := ⟨b, 0, none⟩) hb v0).setCell (p := ⟨b, 1, none⟩) hb v1).setCell (p := ⟨b, 2, none⟩) hb v2).setCell (p := ⟨b, 3, none⟩) hb v3).setCell (p := ⟨b, 4, none⟩) hb v4).setCell (p := ⟨b, 5, none⟩) hb v5)
theorem jjf {w : World} {b : Nat} {t : TypeId} {u0 u1 u2 u3 u4 u5 v0 v1 v2 v3 v4 v5 : Value} (h : Blk w b t #[u0, u1, u2, u3, u4, u5]) : Blk (sets6 w b v0 v1 v2 v3 v4 v5) b t #[v0, v1, v2, v3, v4, v5] := by
 have k := ((((((h.set_ 0 v0).set_ 1 v1).set_ 2 v2).set_ 3 v3).set_ 4 v4).set_ 5 v5)
 simp only [List.setIfInBounds_toArray, List.set_cons_zero, List.set_cons_succ] at k; exact k
theorem cells6 {w : World} {g : Nat} {t : TypeId} {v0 v1 v2 v3 v4 v5 : Value} (h : Blk w g t #[v0, v1, v2, v3, v4, v5]) : w.cell? ⟨g, 0, none⟩ = some v0 ∧ w.cell? ⟨g, 1, none⟩ = some v1 ∧ w.cell? ⟨g, 2, none⟩ = some v2 ∧ w.cell? ⟨g, 3, none⟩ = some v3 ∧ w.cell? ⟨g, 4, none⟩ = some v4 ∧ w.cell? ⟨g, 5, none⟩ = some v5 := ⟨h.cell 0, h.cell 1, h.cell 2, h.cell 3, h.cell 4, h.cell 5⟩
def jzd (w : World) (b : Nat) (v0 v1 v2 v3 v4 v5 v6 v7 v8 : Value) : World := (((((((((w.setCell ⟨b, 0, none⟩ v0).setCell ⟨b, 1, none⟩ v1).setCell ⟨b, 2, none⟩ v2).setCell ⟨b, 3, none⟩ v3).setCell ⟨b, 4, none⟩ v4).setCell ⟨b, 5, none⟩ v5).setCell ⟨b, 6, none⟩ v6).setCell ⟨b, 7, none⟩ v7).setCell ⟨b, 8, none⟩ v8)
theorem jqb {w W : World} {b : Nat} {v0 v1 v2 v3 v4 v5 v6 v7 v8 : Value} (h : Below w.heap.size w W) (hb : w.heap.size ≤ b) : Below w.heap.size w (jzd W b v0 v1 v2 v3 v4 v5 v6 v7 v8) := (((((((((h.setCell (p := ⟨b, 0, none⟩) hb v0).setCell (p := ⟨b, 1, none⟩) hb v1).setCell (p := ⟨b, 2, none⟩) hb v2).setCell (p := ⟨b, 3, none⟩) hb v3).setCell (p := ⟨b, 4, none⟩) hb v4).setCell (p := ⟨b, 5, none⟩) hb v5).setCell (p := ⟨b, 6, none⟩) hb v6).setCell (p := ⟨b, 7, none⟩) hb v7).setCell (p := ⟨b, 8, none⟩) hb v8)
theorem jq7 {w : World} {b : Nat} {t : TypeId} {u0 u1 u2 u3 u4 u5 u6 u7 u8 v0 v1 v2 v3 v4 v5 v6 v7 v8 : Value} (h : Blk w b t #[u0, u1, u2, u3, u4, u5, u6, u7, u8]) : Blk (jzd w b v0 v1 v2 v3 v4 v5 v6 v7 v8) b t #[v0, v1, v2, v3, v4, v5, v6, v7, v8] := by
 have k := (((((((((h.set_ 0 v0).set_ 1 v1).set_ 2 v2).set_ 3 v3).set_ 4 v4).set_ 5 v5).set_ 6 v6).set_ 7 v7).set_ 8 v8)
 simp only [List.setIfInBounds_toArray, List.set_cons_zero, List.set_cons_succ] at k; exact k
theorem jq4 {w : World} {g : Nat} {t : TypeId} {v0 v1 v2 v3 v4 v5 v6 v7 v8 : Value} (h : Blk w g t #[v0, v1, v2, v3, v4, v5, v6, v7, v8]) : w.cell? ⟨g, 0, none⟩ = some v0 ∧ w.cell? ⟨g, 1, none⟩ = some v1 ∧ w.cell? ⟨g, 2, none⟩ = some v2 ∧ w.cell? ⟨g, 3, none⟩ = some v3 ∧ w.cell? ⟨g, 4, none⟩ = some v4 ∧ w.cell? ⟨g, 5, none⟩ = some v5 ∧ w.cell? ⟨g, 6, none⟩ = some v6 ∧ w.cell? ⟨g, 7, none⟩ = some v7 ∧ w.cell? ⟨g, 8, none⟩ = some v8 := ⟨h.cell 0, h.cell 1, h.cell 2, h.cell 3, h.cell 4, h.cell 5, h.cell 6, h.cell 7, h.cell 8⟩
theorem fS {w y : World} {g b j : Nat} {t : TypeId} {cs : Array Value} {v : Value} (h : Blk w g t cs) (hy : y = w.setCell ⟨b, j, none⟩ v) (hn : g ≠ b) : Blk y g t cs := by subst hy; exact h.far (p := ⟨b, j, none⟩) hn v
theorem fS2 {w y : World} {g b j j2 : Nat} {t : TypeId} {cs : Array Value} {v v2 : Value} (h : Blk w g t cs) (hy : y = (w.setCell ⟨b, j, none⟩ v).setCell ⟨b, j2, none⟩ v2) (hn : g ≠ b) : Blk y g t cs := fS (fS h rfl hn) hy hn
theorem rS {w y : World} {base n size b j : Nat} {t t' : TypeId} {v x : Value} {xs : List Value} {cs : Array Value} (h : w.ownsRow base t size v n xs) (K : Blk w b t' cs) (hy : y = w.setCell ⟨b, j, none⟩ x) (hne : t' ≠ t) : y.ownsRow base t size v n xs := by subst hy; exact rowS h K hne j x
theorem rS2 {w y : World} {base n size b j j2 : Nat} {t t' : TypeId} {v x x2 : Value} {xs : List Value} {cs : Array Value} (h : w.ownsRow base t size v n xs) (K : Blk w b t' cs) (hy : y = (w.setCell ⟨b, j, none⟩ x).setCell ⟨b, j2, none⟩ x2) (hne : t' ≠ t) : y.ownsRow base t size v n xs := rS (rS h K rfl hne) (K.set_ j x) hy hne
theorem bS {w0 w y : World} {b j : Nat} {v : Value} (h : Below w0.heap.size w0 w) (hy : y = w.setCell ⟨b, j, none⟩ v) (hb : w0.heap.size ≤ b) : Below w0.heap.size w0 y := by subst hy; exact h.setCell (p := ⟨b, j, none⟩) hb v
theorem bS2 {w0 w y : World} {b j j2 : Nat} {v v2 : Value} (h : Below w0.heap.size w0 w) (hy : y = (w.setCell ⟨b, j, none⟩ v).setCell ⟨b, j2, none⟩ v2) (hb : w0.heap.size ≤ b) : Below w0.heap.size w0 y := bS (bS h rfl hb) hy hb
theorem S10_0 {w y : World} {b : Nat} {t : TypeId} {u0 u1 u2 u3 u4 u5 u6 u7 u8 u9 v : Value} (h : Blk w b t #[u0, u1, u2, u3, u4, u5, u6, u7, u8, u9]) (hy : y = w.setCell ⟨b, 0, none⟩ v) : Blk y b t #[v, u1, u2, u3, u4, u5, u6, u7, u8, u9] := by subst hy; exact h.set_ 0 v
theorem S10_1 {w y : World} {b : Nat} {t : TypeId} {u0 u1 u2 u3 u4 u5 u6 u7 u8 u9 v : Value} (h : Blk w b t #[u0, u1, u2, u3, u4, u5, u6, u7, u8, u9]) (hy : y = w.setCell ⟨b, 1, none⟩ v) : Blk y b t #[u0, v, u2, u3, u4, u5, u6, u7, u8, u9] := by subst hy; exact h.set_ 1 v
theorem S10_2 {w y : World} {b : Nat} {t : TypeId} {u0 u1 u2 u3 u4 u5 u6 u7 u8 u9 v : Value} (h : Blk w b t #[u0, u1, u2, u3, u4, u5, u6, u7, u8, u9]) (hy : y = w.setCell ⟨b, 2, none⟩ v) : Blk y b t #[u0, u1, v, u3, u4, u5, u6, u7, u8, u9] := by subst hy; exact h.set_ 2 v
theorem S10_3 {w y : World} {b : Nat} {t : TypeId} {u0 u1 u2 u3 u4 u5 u6 u7 u8 u9 v : Value} (h : Blk w b t #[u0, u1, u2, u3, u4, u5, u6, u7, u8, u9]) (hy : y = w.setCell ⟨b, 3, none⟩ v) : Blk y b t #[u0, u1, u2, v, u4, u5, u6, u7, u8, u9] := by subst hy; exact h.set_ 3 v
theorem S10_4 {w y : World} {b : Nat} {t : TypeId} {u0 u1 u2 u3 u4 u5 u6 u7 u8 u9 v : Value} (h : Blk w b t #[u0, u1, u2, u3, u4, u5, u6, u7, u8, u9]) (hy : y = w.setCell ⟨b, 4, none⟩ v) : Blk y b t #[u0, u1, u2, u3, v, u5, u6, u7, u8, u9] := by subst hy; exact h.set_ 4 v
theorem S10_5 {w y : World} {b : Nat} {t : TypeId} {u0 u1 u2 u3 u4 u5 u6 u7 u8 u9 v : Value} (h : Blk w b t #[u0, u1, u2, u3, u4, u5, u6, u7, u8, u9]) (hy : y = w.setCell ⟨b, 5, none⟩ v) : Blk y b t #[u0, u1, u2, u3, u4, v, u6, u7, u8, u9] := by subst hy; exact h.set_ 5 v
theorem S10_7 {w y : World} {b : Nat} {t : TypeId} {u0 u1 u2 u3 u4 u5 u6 u7 u8 u9 v : Value} (h : Blk w b t #[u0, u1, u2, u3, u4, u5, u6, u7, u8, u9]) (hy : y = w.setCell ⟨b, 7, none⟩ v) : Blk y b t #[u0, u1, u2, u3, u4, u5, u6, v, u8, u9] := by subst hy; exact h.set_ 7 v
theorem S10_8 {w y : World} {b : Nat} {t : TypeId} {u0 u1 u2 u3 u4 u5 u6 u7 u8 u9 v : Value} (h : Blk w b t #[u0, u1, u2, u3, u4, u5, u6, u7, u8, u9]) (hy : y = w.setCell ⟨b, 8, none⟩ v) : Blk y b t #[u0, u1, u2, u3, u4, u5, u6, u7, v, u9] := by subst hy; exact h.set_ 8 v
theorem S10_9 {w y : World} {b : Nat} {t : TypeId} {u0 u1 u2 u3 u4 u5 u6 u7 u8 u9 v : Value} (h : Blk w b t #[u0, u1, u2, u3, u4, u5, u6, u7, u8, u9]) (hy : y = w.setCell ⟨b, 9, none⟩ v) : Blk y b t #[u0, u1, u2, u3, u4, u5, u6, u7, u8, v] := by subst hy; exact h.set_ 9 v
theorem S10_3x2 {w y : World} {b : Nat} {t : TypeId} {u0 u1 u2 u3 u4 u5 u6 u7 u8 u9 v v2 : Value} (h : Blk w b t #[u0, u1, u2, u3, u4, u5, u6, u7, u8, u9]) (hy : y = (w.setCell ⟨b, 3, none⟩ v).setCell ⟨b, 4, none⟩ v2) : Blk y b t #[u0, u1, u2, v, v2, u5, u6, u7, u8, u9] := S10_4 (S10_3 h rfl) hy
theorem S9_0 {w y : World} {b : Nat} {t : TypeId} {u0 u1 u2 u3 u4 u5 u6 u7 u8 v : Value} (h : Blk w b t #[u0, u1, u2, u3, u4, u5, u6, u7, u8]) (hy : y = w.setCell ⟨b, 0, none⟩ v) : Blk y b t #[v, u1, u2, u3, u4, u5, u6, u7, u8] := by subst hy; exact h.set_ 0 v
theorem S9_1 {w y : World} {b : Nat} {t : TypeId} {u0 u1 u2 u3 u4 u5 u6 u7 u8 v : Value} (h : Blk w b t #[u0, u1, u2, u3, u4, u5, u6, u7, u8]) (hy : y = w.setCell ⟨b, 1, none⟩ v) : Blk y b t #[u0, v, u2, u3, u4, u5, u6, u7, u8] := by subst hy; exact h.set_ 1 v
theorem S9_2 {w y : World} {b : Nat} {t : TypeId} {u0 u1 u2 u3 u4 u5 u6 u7 u8 v : Value} (h : Blk w b t #[u0, u1, u2, u3, u4, u5, u6, u7, u8]) (hy : y = w.setCell ⟨b, 2, none⟩ v) : Blk y b t #[u0, u1, v, u3, u4, u5, u6, u7, u8] := by subst hy; exact h.set_ 2 v
theorem S9_3 {w y : World} {b : Nat} {t : TypeId} {u0 u1 u2 u3 u4 u5 u6 u7 u8 v : Value} (h : Blk w b t #[u0, u1, u2, u3, u4, u5, u6, u7, u8]) (hy : y = w.setCell ⟨b, 3, none⟩ v) : Blk y b t #[u0, u1, u2, v, u4, u5, u6, u7, u8] := by subst hy; exact h.set_ 3 v
theorem S9_4 {w y : World} {b : Nat} {t : TypeId} {u0 u1 u2 u3 u4 u5 u6 u7 u8 v : Value} (h : Blk w b t #[u0, u1, u2, u3, u4, u5, u6, u7, u8]) (hy : y = w.setCell ⟨b, 4, none⟩ v) : Blk y b t #[u0, u1, u2, u3, v, u5, u6, u7, u8] := by subst hy; exact h.set_ 4 v
theorem S9_5 {w y : World} {b : Nat} {t : TypeId} {u0 u1 u2 u3 u4 u5 u6 u7 u8 v : Value} (h : Blk w b t #[u0, u1, u2, u3, u4, u5, u6, u7, u8]) (hy : y = w.setCell ⟨b, 5, none⟩ v) : Blk y b t #[u0, u1, u2, u3, u4, v, u6, u7, u8] := by subst hy; exact h.set_ 5 v
theorem S9_6 {w y : World} {b : Nat} {t : TypeId} {u0 u1 u2 u3 u4 u5 u6 u7 u8 v : Value} (h : Blk w b t #[u0, u1, u2, u3, u4, u5, u6, u7, u8]) (hy : y = w.setCell ⟨b, 6, none⟩ v) : Blk y b t #[u0, u1, u2, u3, u4, u5, v, u7, u8] := by subst hy; exact h.set_ 6 v
theorem S9_8 {w y : World} {b : Nat} {t : TypeId} {u0 u1 u2 u3 u4 u5 u6 u7 u8 v : Value} (h : Blk w b t #[u0, u1, u2, u3, u4, u5, u6, u7, u8]) (hy : y = w.setCell ⟨b, 8, none⟩ v) : Blk y b t #[u0, u1, u2, u3, u4, u5, u6, u7, v] := by subst hy; exact h.set_ 8 v
theorem X9B {w0 w y : World} {b : Nat} {v0 v1 v2 v3 v4 v5 v6 v7 v8 : Value} (h : Below w0.heap.size w0 w) (hy : y = jzd w b v0 v1 v2 v3 v4 v5 v6 v7 v8) (hb : w0.heap.size ≤ b) : Below w0.heap.size w0 y := by subst hy; exact jqb h hb
def ofDig (d : Nat) : UInt8 := UInt8.ofNat (48 + d)
def decL (n : Nat) : List UInt8 := if n < 10 then [ofDig n] else decL (n / 10) ++ [ofDig (n % 10)]
termination_by n
decreasing_by omega
theorem decL_lt {n : Nat} (h : n < 10) : decL n = [ofDig n] := by unfold decL; rw [if_pos h]
theorem decL_ge {n : Nat} (h : ¬ n < 10) : decL n = decL (n / 10) ++ [ofDig (n % 10)] := by
 conv => lhs; unfold decL
 rw [if_neg h]
def isDig (b : UInt8) : Bool := decide (48 ≤ b.toNat) && decide (b.toNat ≤ 57)
theorem isDig_iff (b : UInt8) : isDig b = true ↔ 48 ≤ b.toNat ∧ b.toNat ≤ 57 := by unfold isDig; simp
def valL (l : List UInt8) : Nat := l.foldl (fun a b => 10 * a + (b.toNat - 48)) 0
theorem valL_snoc (l : List UInt8) (b : UInt8) : valL (l ++ [b]) = 10 * valL l + (b.toNat - 48) := by unfold valL; simp
theorem ofDig_toNat {d : Nat} (h : d < 10) : (ofDig d).toNat = 48 + d := by
 unfold ofDig; simp; omega
theorem isDig_of {d : Nat} (h : d < 10) : isDig (ofDig d) = true := by rw [isDig_iff, ofDig_toNat h]; omega
theorem ofDig_of {b : UInt8} (h : isDig b = true) : ofDig (b.toNat - 48) = b := by
 rw [isDig_iff] at h
 apply UInt8.toNat_inj.1
 rw [ofDig_toNat (by omega)]; omega
theorem dec_facts : ∀ k n : Nat, n ≤ k → valL (decL n) = n ∧ (decL n).all isDig = true ∧ decL n ≠ [] ∧ (1 ≤ n → (decL n).head? ≠ some 48) := by
  intro k
  induction k with
  | zero =>
    intro n h
    have e : n = 0 := by omega
    subst e; rw [decL_lt (by omega)]; exact ⟨rfl, rfl, by simp, fun h => by omega⟩
  | succ k ih =>
    intro n h
    by_cases h10 : n < 10
    · rw [decL_lt h10]
      refine ⟨?_, ?_, by simp, fun h1 e => ?_⟩
      · have := valL_snoc [] (ofDig n)
        rw [List.nil_append] at this; rw [this, ofDig_toNat h10]
        show 10 * 0 + _ = _
        omega
      · simp [isDig_of h10]
      · simp at e
        have := congrArg UInt8.toNat e; rw [ofDig_toNat h10] at this; have e2 : (48 : UInt8).toNat = 48 := rfl
        omega
    · obtain ⟨a, b, c, d⟩ := ih (n / 10) (by omega)
      rw [decL_ge h10]; refine ⟨?_, ?_, by simp, fun _ e => d (by omega) ?_⟩
      · rw [valL_snoc, a, ofDig_toNat (by omega)]; omega
      · rw [List.all_append, b, List.all_cons, isDig_of (Nat.mod_lt _ (by omega))]; rfl
      · cases hd : decL (n / 10) with
        | nil => exact absurd hd c
        | cons x t => rw [hd] at e; exact e
theorem val_dec (n : Nat) : valL (decL n) = n := (dec_facts n n (Nat.le_refl _)).1
theorem dig_dec (n : Nat) : (decL n).all isDig = true := (dec_facts n n (Nat.le_refl _)).2.1
theorem dec_ne (n : Nat) : decL n ≠ [] := (dec_facts n n (Nat.le_refl _)).2.2.1
theorem head_dec {n : Nat} (h : 1 ≤ n) : (decL n).head? ≠ some 48 := (dec_facts n n (Nat.le_refl _)).2.2.2 h
theorem dec_len : ∀ k n : Nat, n < 10 ^ (k + 1) → (decL n).length ≤ k + 1 := by
  intro k
  induction k with
  | zero => intro n h; rw [decL_lt (by simpa using h)]; simp
  | succ k ih =>
    intro n h
    by_cases h10 : n < 10
    · rw [decL_lt h10]; simp
    · rw [decL_ge h10, List.length_append]
      have h2 : n / 10 < 10 ^ (k + 1) := by
        rw [Nat.div_lt_iff_lt_mul (by omega)]; rw [Nat.pow_succ] at h; exact h
      have := ih _ h2
      simp; omega
theorem dec_of : ∀ (k : Nat) (l : List UInt8), l.length = k + 1 → l.all isDig = true → (l.head? ≠ some 48 → 1 ≤ valL l) ∧ ((l.length = 1 ∨ l.head? ≠ some 48) → decL (valL l) = l) := by
  intro k
  induction k with
  | zero =>
    intro l hl hd
    match l, hl with
    | [b], _ =>
      have hb : isDig b = true := by simpa using hd
      have hv : valL [b] = b.toNat - 48 := by have := valL_snoc [] b; rw [List.nil_append] at this; rw [this]; show 10 * 0 + _ = _; omega
      have h2 := (isDig_iff b).1 hb; refine ⟨fun h => ?_, fun _ => ?_⟩
      · rw [hv]
        have h3 : b.toNat ≠ 48 := fun e => h (by
          have : b = 48 := UInt8.toNat_inj.1 (by rw [e]; rfl)
          rw [this]; rfl)
        omega
      · rw [hv, decL_lt (by omega), ofDig_of hb]
  | succ k ih =>
    intro l hl hd
    have hne : l ≠ [] := by intro e; rw [e] at hl; simp at hl
    obtain ⟨l', b, rfl⟩ : ∃ l' b, l = l' ++ [b] := ⟨l.dropLast, l.getLast hne, (List.dropLast_concat_getLast hne).symm⟩
    have hl' : l'.length = k + 1 := by simpa using hl
    rw [List.all_append, Bool.and_eq_true] at hd
    have hb : isDig b = true := by simpa using hd.2
    have h2 := (isDig_iff b).1 hb; obtain ⟨i1, i2⟩ := ih l' hl' hd.1
    have hh : (l' ++ [b]).head? = l'.head? := by
      cases l' with
      | nil => simp at hl'
      | cons x t => rfl
    refine ⟨fun h => ?_, fun h => ?_⟩
    · rw [hh] at h
      rw [valL_snoc]; have := i1 h
      omega
    · have h3 : l'.head? ≠ some 48 := by
        rcases h with h | h
        · rw [hl] at h; omega
        · rwa [hh] at h
      have h4 := i1 h3; rw [valL_snoc, decL_ge (by omega), show (10 * valL l' + (b.toNat - 48)) / 10 = valL l' by omega, i2 (.inr h3), show (10 * valL l' + (b.toNat - 48)) % 10 = b.toNat - 48 by omega, ofDig_of hb]
theorem dec_iff {l : List UInt8} (hne : l ≠ []) (hd : l.all isDig = true) : decL (valL l) = l ↔ (l.length = 1 ∨ l.head? ≠ some 48) := by
 have hp : 0 < l.length := List.length_pos_iff.2 hne; refine ⟨fun h => ?_, (dec_of (l.length - 1) l (by omega) hd).2⟩
 by_cases hv : 1 ≤ valL l
 ·right; have := head_dec hv; rwa [h] at this
 ·left
  have e : valL l = 0 := by omega
  rw [e, decL_lt (by omega)] at h; rw [← h]; rfl
def rdI (lim : Nat) (l : List UInt8) : Int := if l.all isDig = true ∧ l ≠ [] ∧ decL (valL l) = l ∧ valL l < lim then (valL l : Int) else -1
theorem rd_yes {lim : Nat} {l : List UInt8} (h1 : l.all isDig = true) (h2 : l ≠ []) (h3 : decL (valL l) = l) (h4 : valL l < lim) : rdI lim l = (valL l : Int) := by unfold rdI; rw [if_pos ⟨h1, h2, h3, h4⟩]
theorem rd_no {lim : Nat} {l : List UInt8} (h : ¬ (l.all isDig = true ∧ l ≠ [] ∧ decL (valL l) = l ∧ valL l < lim)) : rdI lim l = -1 := by unfold rdI; rw [if_neg h]
theorem rd_dec {lim n : Nat} (h : n < lim) : rdI lim (decL n) = n := by
 rw [rd_yes (dig_dec n) (dec_ne n) (by rw [val_dec]) (by rw [val_dec]; exact h), val_dec]
theorem val_take (l : List UInt8) (k : Nat) (h : k < l.length) : valL (l.take (k + 1)) = 10 * valL (l.take k) + ((l.getD k 0).toNat - 48) := by
 rw [List.take_succ_eq_append_getElem h, valL_snoc, List.getD_eq_getElem?_getD, List.getElem?_eq_getElem h]; rfl
theorem val_mono (l : List UInt8) : ∀ n k, k + n ≤ l.length → valL (l.take k) ≤ valL (l.take (k + n)) := by
  intro n
  induction n with
  | zero => intro k _; exact Nat.le_refl _
  | succ n ih =>
    intro k h; have h1 := ih k (by omega); have h2 := val_take l (k + n) (by omega); rw [show k + (n + 1) = k + n + 1 by omega]
    omega
theorem val_le (l : List UInt8) {k : Nat} (h : k ≤ l.length) : valL (l.take k) ≤ valL l := by
 have := val_mono l (l.length - k) k (by omega)
 rwa [show k + (l.length - k) = l.length by omega, List.take_length] at this
def digTo (l : List UInt8) (k : Nat) : Prop := ∀ j, j < k → 48 ≤ (l.getD j 0).toNat ∧ (l.getD j 0).toNat ≤ 57
theorem dig_all {l : List UInt8} (h : digTo l l.length) : l.all isDig = true := by
 rw [List.all_eq_true]; intro b hb; obtain ⟨i, hi, rfl⟩ := List.getElem_of_mem hb; have := h i hi; rw [List.getD_eq_getElem?_getD, List.getElem?_eq_getElem hi] at this; rw [isDig_iff]; exact this
theorem dig_not {l : List UInt8} {k : Nat} (hk : k < l.length) (h : ¬ (48 ≤ (l.getD k 0).toNat ∧ (l.getD k 0).toNat ≤ 57)) (lim : Nat) : rdI lim l = -1 := by
 apply rd_no
 rintro ⟨h1, _⟩; rw [List.all_eq_true] at h1; have := h1 _ (List.getElem_mem hk); rw [isDig_iff] at this; rw [List.getD_eq_getElem?_getD, List.getElem?_eq_getElem hk] at h; exact h this
theorem val_bd {l : List UInt8} : ∀ k, k ≤ l.length → digTo l k → valL (l.take k) < 10 ^ k := by
  intro k
  induction k with
  | zero => intro _ _; simp [valL]
  | succ k ih =>
    intro hk hd; have h1 := ih (by omega) (fun j hj => hd j (by omega)); have h2 := hd k (by omega); rw [val_take l k (by omega), Nat.pow_succ]
    omega
def txt (l : List UInt8) : ByteArray := ⟨l.toArray⟩
theorem digs_ext (d : Nat) (h : d < 10) : ({ data := #[48, 49, 50, 51, 52, 53, 54, 55, 56, 57] } : ByteArray).extract d (d + 1) = txt [ofDig d] := by
 rcases d with _ | _ | _ | _ | _ | _ | _ | _ | _ | _ | d
 all_goals first | omega | rfl
theorem txt_size (l : List UInt8) : (txt l).size = l.length := by show l.toArray.size = _; simp
theorem txt_list (l : List UInt8) : (txt l).data.toList = l := rfl
theorem txt_app (a b : List UInt8) : txt a ++ txt b = txt (a ++ b) := ByteArray.mk_append_mk a b
theorem txt_of (s : ByteArray) : txt s.data.toList = s := by
 obtain ⟨⟨l⟩⟩ := s; rfl
def DecI (n k : Nat) (l : List UInt8) : Prop := l.length ≤ (decL n).length ∧ ((k < 10 ∧ l = decL n) ∨ (10 ≤ k ∧ decL (k / 10) ++ l = decL n))
theorem decI_start (n : Nat) : DecI n n [ofDig (n % 10)] := by
 refine ⟨List.length_pos_iff.2 (dec_ne n), ?_⟩
 by_cases h : n < 10
 ·left; exact ⟨h, by rw [decL_lt h, Nat.mod_eq_of_lt h]⟩
 ·right; exact ⟨by omega, (decL_ge h).symm⟩
theorem decI_step {n k : Nat} {l : List UInt8} (h : DecI n k l) (hk : 10 ≤ k) : DecI n (k / 10) (ofDig (k / 10 % 10) :: l) := by
 obtain ⟨_, h | ⟨_, h⟩⟩ := h
 ·omega
 ·have e : ∀ x : List UInt8, x ++ ofDig (k / 10 % 10) :: l = (x ++ [ofDig (k / 10 % 10)]) ++ l := fun x => by simp
  by_cases h1 : k / 10 < 10
  ·have e2 : decL n = ofDig (k / 10 % 10) :: l := by rw [← h, decL_lt h1, Nat.mod_eq_of_lt h1]; rfl
   exact ⟨by rw [e2]; exact Nat.le_refl _, .inl ⟨h1, e2.symm⟩⟩
  ·have e2 : decL (k / 10 / 10) ++ ofDig (k / 10 % 10) :: l = decL n := by rw [e, ← decL_ge h1, h]
   exact ⟨by rw [← e2]; simp, .inr ⟨by omega, e2⟩⟩
def bt (s : ByteArray) (k : Nat) : Int := ((s.data.toList.getD k 0).toNat : Int)
theorem jx9 (s : ByteArray) : s.data.toList.length = s.size := by simp
theorem get_bt (s : ByteArray) : ∀ (n : Nat) (h : n < s.size), ((s[n]'h).toNat : Int) = bt s n := fun n h => by
 unfold bt; rw [List.getD_eq_getElem?_getD, List.getElem?_eq_getElem (by rw [jx9]; exact h)]
 rfl
theorem bt_bd (s : ByteArray) (k : Nat) : 0 ≤ bt s k ∧ bt s k ≤ 255 := by
 unfold bt; have := (s.data.toList.getD k 0).toNat_lt
 omega
def idxI (c : Nat) (s : ByteArray) : Int := if s.data.toList.findIdx (fun b => b.toNat == c) < s.size then (s.data.toList.findIdx (fun b => b.toNat == c) : Int) else -1
theorem find_is {c : Nat} {s : ByteArray} {k : Nat} (hk : k < s.size) (h : bt s k = c) (hb : ∀ j, j < k → bt s j ≠ c) : s.data.toList.findIdx (fun b => b.toNat == c) = k := by
 have hk' : k < s.data.toList.length := by rw [jx9]; exact hk
 rw [List.findIdx_eq hk']; refine ⟨?_, fun j hj => ?_⟩
 ·unfold bt at h
  rw [List.getD_eq_getElem?_getD, List.getElem?_eq_getElem hk'] at h
  simp at h ⊢; omega
 ·have := hb j hj
  unfold bt at this; rw [List.getD_eq_getElem?_getD, List.getElem?_eq_getElem (by omega)] at this
  simp at this ⊢; omega
theorem find_none {c : Nat} {s : ByteArray} (hb : ∀ j, j < s.size → bt s j ≠ c) : s.data.toList.findIdx (fun b => b.toNat == c) = s.size := by
 rw [← jx9, List.findIdx_eq_length]; intro b hm; obtain ⟨i, hi, rfl⟩ := List.getElem_of_mem hm; have := hb i (by rw [← jx9]; exact hi); unfold bt at this; rw [List.getD_eq_getElem?_getD, List.getElem?_eq_getElem hi] at this
 simp at this ⊢; omega
theorem idx_is {c : Nat} {s : ByteArray} {k : Nat} (hk : k < s.size) (h : bt s k = c) (hb : ∀ j, j < k → bt s j ≠ c) : idxI c s = k := by
 unfold idxI; rw [find_is hk h hb, if_pos hk]
theorem idx_none {c : Nat} {s : ByteArray} (hb : ∀ j, j < s.size → bt s j ≠ c) : idxI c s = -1 := by
 unfold idxI; rw [find_none hb, if_neg (by omega)]
theorem idx_or (c : Nat) (s : ByteArray) : (∃ k, k < s.size ∧ bt s k = c ∧ (∀ j, j < k → bt s j ≠ c) ∧ idxI c s = k) ∨ ((∀ j, j < s.size → bt s j ≠ c) ∧ idxI c s = -1) := by
  have key : ∀ n, n ≤ s.size → (∃ k, k < n ∧ bt s k = c ∧ ∀ j, j < k → bt s j ≠ c) ∨ ∀ j, j < n → bt s j ≠ c := by
    intro n
    induction n with
    | zero => intro _; right; intro j hj; omega
    | succ n ih =>
      intro hn
      rcases ih (by omega) with ⟨k, hk, h1, h2⟩ | h
      · exact .inl ⟨k, by omega, h1, h2⟩
      · by_cases hc : bt s n = c
        · exact .inl ⟨n, by omega, hc, h⟩
        · right; intro j hj
          by_cases e : j = n
          · subst e; exact hc
          · exact h j (by omega)
  rcases key s.size (Nat.le_refl _) with ⟨k, hk, h1, h2⟩ | h
  · exact .inl ⟨k, hk, h1, h2, idx_is hk h1 h2⟩
  · exact .inr ⟨h, idx_none h⟩
def jj0 (c : Int) (s : ByteArray) : Nat → List ByteArray × Nat
 | 0 => ([], 0)
 | k + 1 => if bt s k = c then ((jj0 c s k).1 ++ [s.extract (jj0 c s k).2 k], k + 1) else jj0 c s k
theorem cutTo_hit {c : Int} {s : ByteArray} {k : Nat} (h : bt s k = c) : jj0 c s (k + 1) = ((jj0 c s k).1 ++ [s.extract (jj0 c s k).2 k], k + 1) := by
 show (if _ then _ else _) = _; rw [if_pos h]
theorem cutTo_miss {c : Int} {s : ByteArray} {k : Nat} (h : ¬ bt s k = c) : jj0 c s (k + 1) = jj0 c s k := by
 show (if _ then _ else _) = _; rw [if_neg h]
theorem cutTo_bd (c : Int) (s : ByteArray) : ∀ k, (jj0 c s k).2 ≤ k ∧ (jj0 c s k).1.length ≤ k := by
  intro k
  induction k with
  | zero => exact ⟨Nat.le_refl _, Nat.le_refl _⟩
  | succ k ih =>
    by_cases h : bt s k = c
    · rw [cutTo_hit h]; simp; omega
    · rw [cutTo_miss h]; omega
def cutS (c : Int) (s : ByteArray) : List ByteArray := (jj0 c s s.size).1 ++ [s.extract (jj0 c s s.size).2 s.size]
theorem cut_quiet {c : Int} {s : ByteArray} : ∀ (n k : Nat), (∀ j, k ≤ j → j < k + n → bt s j ≠ c) → jj0 c s (k + n) = jj0 c s k := by
  intro n
  induction n with
  | zero => intro k _; rfl
  | succ n ih =>
    intro k h; rw [show k + (n + 1) = k + n + 1 by omega, cutTo_miss (h (k + n) (by omega) (by omega)), ih k (fun j h1 h2 => h j h1 (by omega))]
theorem cut_none {c : Int} {s : ByteArray} (h : ∀ j, j < s.size → bt s j ≠ c) : cutS c s = [s.extract 0 s.size] := by
 have := cut_quiet (c := c) (s := s) s.size 0 (fun j _ h2 => h j (by omega)); unfold cutS; rw [Nat.zero_add] at this; rw [this]; rfl
theorem cut_at {c : Int} {s : ByteArray} {k : Nat} (h1 : bt s k = c) (h2 : ∀ j, j < k → bt s j ≠ c) : jj0 c s (k + 1) = ([s.extract 0 k], k + 1) := by
 have := cut_quiet (c := c) (s := s) k 0 (fun j _ h => h2 j (by omega)); rw [Nat.zero_add] at this; rw [cutTo_hit h1, this]; rfl
theorem cut_one {c : Int} {s : ByteArray} {k : Nat} (hk : k < s.size) (h1 : bt s k = c) (h2 : ∀ j, j < k → bt s j ≠ c) (h3 : ∀ j, k < j → j < s.size → bt s j ≠ c) : cutS c s = [s.extract 0 k, s.extract (k + 1) s.size] := by
 have := cut_quiet (c := c) (s := s) (s.size - (k + 1)) (k + 1) (fun j h h' => h3 j (by omega) (by omega)); rw [show k + 1 + (s.size - (k + 1)) = s.size by omega, cut_at h1 h2] at this; unfold cutS; rw [this]; rfl
theorem cut_grows (c : Int) (s : ByteArray) : ∀ n k, (jj0 c s k).1.length ≤ (jj0 c s (k + n)).1.length := by
  intro n
  induction n with
  | zero => intro k; exact Nat.le_refl _
  | succ n ih =>
    intro k; have := ih k; rw [show k + (n + 1) = k + n + 1 by omega]
    by_cases h : bt s (k + n) = c
    · rw [cutTo_hit h]; simp; omega
    · rw [cutTo_miss h]; exact this
theorem cut_more {c : Int} {s : ByteArray} {k j : Nat} (h1 : bt s k = c) (h2 : ∀ j, j < k → bt s j ≠ c) (hj : k < j) (hjs : j < s.size) (h3 : bt s j = c) : 2 < (cutS c s).length := by
 have a := cut_grows c s (j - (k + 1)) (k + 1); rw [show k + 1 + (j - (k + 1)) = j by omega, cut_at h1 h2] at a
 have b : (jj0 c s (j + 1)).1.length = (jj0 c s j).1.length + 1 := by rw [cutTo_hit h3]; simp
 have d := cut_grows c s (s.size - (j + 1)) (j + 1); rw [show j + 1 + (s.size - (j + 1)) = s.size by omega] at d; unfold cutS
 simp at a ⊢; omega
theorem ext_data (s : ByteArray) (a b : Nat) : (s.extract a b).data.toList = (s.data.toList.drop a).take (b - a) := by
 obtain ⟨⟨l⟩⟩ := s; rw [ByteArray.extract_mk]
theorem bt_ext (s : ByteArray) (a b j : Nat) (h : a + j < b) : bt (s.extract a b) j = bt s (a + j) := by
 unfold bt; rw [ext_data, List.getD_eq_getElem?_getD, List.getD_eq_getElem?_getD, List.getElem?_take_of_lt (by omega), List.getElem?_drop]
def rdS (lim : Nat) (s : ByteArray) : Int := rdI lim s.data.toList
theorem rdS_not {lim : Nat} {s : ByteArray} {k : Nat} (hk : k < s.size) (h : bt s k < 48 ∨ 57 < bt s k) : rdS lim s = -1 := by
 unfold rdS; refine dig_not (k := k) (by rw [jx9]; exact hk) ?_ lim; unfold bt at h; omega
theorem rd_lim (l : List UInt8) : rdI 10000000 l = rdI 1000000 l ∨ (1000000 ≤ rdI 10000000 l ∧ rdI 1000000 l = -1) := by
 unfold rdI
 by_cases h : l.all isDig = true ∧ l ≠ [] ∧ decL (valL l) = l
 ·by_cases h1 : valL l < 1000000
  ·left; rw [if_pos ⟨h.1, h.2.1, h.2.2, by omega⟩, if_pos ⟨h.1, h.2.1, h.2.2, h1⟩]
  ·by_cases h2 : valL l < 10000000
   ·right; rw [if_pos ⟨h.1, h.2.1, h.2.2, h2⟩, if_neg (fun c => h1 c.2.2.2)]; omega
   ·left; rw [if_neg (fun c => h2 c.2.2.2), if_neg (fun c => h1 c.2.2.2)]
 ·left; rw [if_neg (fun c => h ⟨c.1, c.2.1, c.2.2.1⟩), if_neg (fun c => h ⟨c.1, c.2.1, c.2.2.1⟩)]
def vt (s : ByteArray) (k : Nat) : Nat := valL (s.data.toList.take k)
theorem vt_zero (s : ByteArray) : vt s 0 = 0 := by unfold vt; simp [valL]
theorem vt_succ {s : ByteArray} {k : Nat} (h : k < s.size) (h0 : 48 ≤ bt s k) : ((vt s (k + 1) : Nat) : Int) = (vt s k : Int) * 10 + (bt s k - 48) := by
 have := val_take s.data.toList k (by rw [jx9]; exact h); unfold vt; unfold bt at h0 ⊢; omega
theorem vt_le {s : ByteArray} {k : Nat} (h : k ≤ s.size) : vt s k ≤ valL s.data.toList := val_le _ (by rw [jx9]; exact h)
theorem vt_bd {s : ByteArray} {k : Nat} (h : k ≤ s.size) (hd : ∀ j, j < k → 48 ≤ bt s j ∧ bt s j ≤ 57) : vt s k < 10 ^ k :=
 val_bd k (by rw [jx9]; exact h) (fun j hj => by have := hd j hj; unfold bt at this; omega)
theorem bt_head {s : ByteArray} (h : 0 < s.size) : s.data.toList.head? = some 48 ↔ bt s 0 = 48 := by
  unfold bt
  have hl : 0 < s.data.toList.length := by rw [jx9]; exact h
  cases hc : s.data.toList with
  | nil => rw [hc] at hl; simp at hl
  | cons x t =>
    show some x = some 48 ↔ ((x.toNat : Nat) : Int) = 48
    constructor
    · intro e; injection e with e; subst e; rfl
    · intro e
      have : x = 48 := UInt8.toNat_inj.1 (by have e48 : (48 : UInt8).toNat = 48 := rfl; omega); rw [this]
theorem all_dig {s : ByteArray} (hd : ∀ j, j < s.size → 48 ≤ bt s j ∧ bt s j ≤ 57) : s.data.toList.all isDig = true :=
 dig_all (fun j hj => by have := hd j (by rw [← jx9]; exact hj); unfold bt at this; omega)
theorem ne_nil {s : ByteArray} (h : 0 < s.size) : s.data.toList ≠ [] := by
 rw [← jx9] at h; exact List.length_pos_iff.1 h
theorem rdS_empty (lim : Nat) {s : ByteArray} (h : s.size = 0) : rdS lim s = -1 :=
 rd_no (fun c => c.2.1 (List.length_eq_zero_iff.1 (by rw [jx9]; exact h)))
theorem rdS_lead (lim : Nat) {s : ByteArray} (h : 1 < s.size) (h0 : bt s 0 = 48) : rdS lim s = -1 := by
 refine rd_no (fun c => ?_); have := (dec_iff c.2.1 c.1).1 c.2.2.1; rw [jx9] at this
 rcases this with h1 | h1
 ·omega
 ·exact h1 ((bt_head (by omega)).2 h0)
theorem rdS_long {s : ByteArray} (h : 7 < s.size) : rdS 10000000 s = -1 := by
 refine rd_no (fun c => ?_); have := dec_len 6 (valL s.data.toList) c.2.2.2; rw [c.2.2.1, jx9] at this
 omega
theorem rdS_big {lim : Nat} {s : ByteArray} {k : Nat} (h : k ≤ s.size) (hv : lim ≤ vt s k) : rdS lim s = -1 := by
 refine rd_no (fun c => ?_); have := vt_le h
 omega
theorem rdS_full {lim : Nat} {s : ByteArray} (h : 0 < s.size) (hd : ∀ j, j < s.size → 48 ≤ bt s j ∧ bt s j ≤ 57) (h0 : s.size = 1 ∨ bt s 0 ≠ 48) (hv : vt s s.size < lim) : rdS lim s = (vt s s.size : Int) := by
 have e : vt s s.size = valL s.data.toList := by unfold vt; rw [← jx9, List.take_length]
 rw [e] at hv ⊢; refine rd_yes (all_dig hd) (ne_nil h) ((dec_iff (ne_nil h) (all_dig hd)).2 ?_) hv; rw [jx9]
 rcases h0 with h0 | h0
 ·exact .inl h0
 ·exact .inr (fun c => h0 ((bt_head h).1 c))
theorem rdS_text {lim : Nat} {s : ByteArray} (h : 0 < s.size) (hd : ∀ j, j < s.size → 48 ≤ bt s j ∧ bt s j ≤ 57) (hv : vt s s.size < lim) :
  rdS lim s = if s.toList == (txt (decL (vt s s.size))).toList then (vt s s.size : Int) else -1 := by
 have e : vt s s.size = valL s.data.toList := by unfold vt; rw [← jx9, List.take_length]
 rw [ByteArray.toList_eq, ByteArray.toList_eq, txt_list]; rw [e] at hv ⊢
 split
 ·next c => exact rd_yes (all_dig hd) (ne_nil h) (beq_iff_eq.1 c).symm hv
 ·next c => exact rd_no (fun d => c (beq_iff_eq.2 d.2.2.1.symm))
def pnum (s : ByteArray) : Int := rdS 1000000 (s.extract 0 (idxI 47 s).toNat)
def pden (s : ByteArray) : Int := rdS 1000000 (s.extract ((idxI 47 s).toNat + 1) s.size)
def pok (s : ByteArray) : Bool := decide (0 ≤ idxI 47 s) && Wsh.vfB (pnum s) (pden s)
theorem vf_lim (a b : ByteArray) : Wsh.vfB (rdS 10000000 a) (rdS 10000000 b) = Wsh.vfB (rdS 1000000 a) (rdS 1000000 b) ∧ (Wsh.vfB (rdS 1000000 a) (rdS 1000000 b) = true → rdS 10000000 a = rdS 1000000 a ∧ rdS 10000000 b = rdS 1000000 b) := by
 have h1 := rd_lim a.data.toList; have h2 := rd_lim b.data.toList; unfold rdS
 rcases h1 with h1 | ⟨h1, h1'⟩
 ·rcases h2 with h2 | ⟨h2, h2'⟩
  ·rw [h1, h2]; exact ⟨rfl, fun _ => ⟨rfl, rfl⟩⟩
  ·refine ⟨?_, fun h => ?_⟩
   ·rw [Bool.eq_iff_iff, Wsh.vfB_iff, Wsh.vfB_iff]; constructor <;> intro h <;> omega
   ·rw [Wsh.vfB_iff] at h; omega
 ·refine ⟨?_, fun h => ?_⟩
  ·rw [Bool.eq_iff_iff, Wsh.vfB_iff, Wsh.vfB_iff]; constructor <;> intro h <;> omega
  ·rw [Wsh.vfB_iff] at h; omega
def frT (n d : Int) : ByteArray := txt (decL n.toNat ++ 47 :: decL d.toNat)
theorem dig_ne {n j : Nat} (h : j < (decL n).length) : ((decL n)[j]).toNat ≠ 47 := by
 have := List.all_eq_true.1 (dig_dec n) _ (List.getElem_mem h); rw [isDig_iff] at this; omega
theorem frT_list (n d : Int) : (frT n d).data.toList = decL n.toNat ++ 47 :: decL d.toNat := rfl
theorem frT_size (n d : Int) : (frT n d).size = (decL n.toNat).length + 1 + (decL d.toNat).length := by
 rw [← jx9, frT_list]; simp; omega
theorem fr_read {n d : Int} (h : Wsh.vfB n d = true) : pok (frT n d) = true ∧ pnum (frT n d) = n ∧ pden (frT n d) = d := by
 have h' := (Wsh.vfB_iff n d).1 h; obtain ⟨h1, h2, h3, h4, _⟩ := h'; have hs := frT_size n d
 have hi : idxI 47 (frT n d) = (decL n.toNat).length := by
  refine idx_is (by omega) ?_ (fun j hj => ?_)
  ·unfold bt; rw [frT_list, List.getD_eq_getElem?_getD, List.getElem?_append_right (Nat.le_refl _)]; simp
  ·unfold bt; rw [frT_list, List.getD_eq_getElem?_getD, List.getElem?_append_left hj, List.getElem?_eq_getElem hj]
   have := dig_ne hj
   simp; omega
 have e1 : (idxI 47 (frT n d)).toNat = (decL n.toNat).length := by rw [hi]; rfl
 have a : pnum (frT n d) = n := by
  unfold pnum rdS; rw [e1, ext_data, frT_list, List.drop_zero, Nat.sub_zero, List.take_left, rd_dec (by omega)]; omega
 have b : pden (frT n d) = d := by
  unfold pden rdS; rw [e1, ext_data, frT_list, List.drop_append, List.drop_eq_nil_of_le (by omega), List.nil_append, show (decL n.toNat).length + 1 - (decL n.toNat).length = 1 by omega]
  show rdI _ (List.take _ (decL d.toNat)) = d
  rw [List.take_of_length_le (by omega), rd_dec (by omega)]; omega
 refine ⟨?_, a, b⟩; unfold pok; rw [a, b, h, hi, decide_eq_true (by omega)]; rfl
theorem jq5 {P : Program} {ops : Array Oper} {rest : List Oper} {op : Oper} {a : Act} {w : World} {Q : Exit → Act → World → Prop} (hgd : op.guard = none) (ty : TypeId) (x y : Operand) (ho : op.op = .store ty x y)
  (b : Nat) (v0 v1 v2 v3 v4 v5 v6 v7 v8 : Value) (hx : a.eval x = .pointer (some ⟨b, 0, none⟩)) (hy : a.eval y = .agg #[v0, v1, v2, v3, v4, v5, v6, v7, v8]) {t : TypeId} {u0 u1 u2 u3 u4 u5 u6 u7 u8 : Value} (K : Blk w b t #[u0, u1, u2, u3, u4, u5, u6, u7, u8])
  (hi : (P.info? ty).map (·.size) = some 9) (h1 : (v0.oneCell' && v1.oneCell' && v2.oneCell' && v3.oneCell' && v4.oneCell' && v5.oneCell' && v6.oneCell' && v7.oneCell' && v8.oneCell') = true)
  (h : wpList P ops Q rest (a.put op.dst undef) (jzd w b v0 v1 v2 v3 v4 v5 v6 v7 v8)) : wpList P ops Q (op :: rest) a w := by
 have h2 : (#[v0, v1, v2, v3, v4, v5, v6, v7, v8] : Array Value).all (·.oneCell') = true := by
  simp only [Bool.and_eq_true] at h1; obtain ⟨⟨⟨⟨⟨⟨⟨⟨a0, a1⟩, a2⟩, a3⟩, a4⟩, a5⟩, a6⟩, a7⟩, a8⟩ := h1
  simp [a0, a1, a2, a3, a4, a5, a6, a7, a8]
 refine wpList_store_mid hgd ty x y ho b 0 #[v0, v1, v2, v3, v4, v5, v6, v7, v8] hx hy (fun j hj => ?_) hi h2 ?_
 ·have hj' : j < 9 := hj
  have hc : ∃ v, (#[u0, u1, u2, u3, u4, u5, u6, u7, u8] : Array Value)[j]? = some v := ⟨_, Array.getElem?_eq_getElem (by simpa using hj')⟩
  rw [Nat.zero_add]; obtain ⟨q0, q1, q2, q3, q4, q5, q6, q7, q8⟩ := jq4 K; refine ⟨?_, K.frozen j⟩
  have hm : j = 0 ∨ j = 1 ∨ j = 2 ∨ j = 3 ∨ j = 4 ∨ j = 5 ∨ j = 6 ∨ j = 7 ∨ j = 8 := by omega
  rcases hm with e | e | e | e | e | e | e | e | e <;> subst e <;> simp [*]
 ·exact h
theorem jj7 {P : Program} {ops : Array Oper} {rest : List Oper} {op : Oper} {a : Act} {w : World} {Q : Exit → Act → World → Prop} (hgd : op.guard = none) (ty : TypeId) (x y : Operand) (ho : op.op = .store ty x y)
  (b : Nat) (v0 v1 v2 v3 v4 v5 : Value) (hx : a.eval x = .pointer (some ⟨b, 0, none⟩)) (hy : a.eval y = .agg #[v0, v1, v2, v3, v4, v5]) {t : TypeId} {u0 u1 u2 u3 u4 u5 : Value} (K : Blk w b t #[u0, u1, u2, u3, u4, u5])
  (hi : (P.info? ty).map (·.size) = some 6) (h1 : (v0.oneCell' && v1.oneCell' && v2.oneCell' && v3.oneCell' && v4.oneCell' && v5.oneCell') = true)
  (h : wpList P ops Q rest (a.put op.dst undef) (sets6 w b v0 v1 v2 v3 v4 v5)) : wpList P ops Q (op :: rest) a w := by
 have h2 : (#[v0, v1, v2, v3, v4, v5] : Array Value).all (·.oneCell') = true := by
  simp only [Bool.and_eq_true] at h1; obtain ⟨⟨⟨⟨⟨a0, a1⟩, a2⟩, a3⟩, a4⟩, a5⟩ := h1
  simp [a0, a1, a2, a3, a4, a5]
 refine wpList_store_mid hgd ty x y ho b 0 #[v0, v1, v2, v3, v4, v5] hx hy (fun j hj => ?_) hi h2 ?_
 ·have hj' : j < 6 := hj
  have hc : ∃ v, (#[u0, u1, u2, u3, u4, u5] : Array Value)[j]? = some v := ⟨_, Array.getElem?_eq_getElem (by simpa using hj')⟩
  rw [Nat.zero_add]; obtain ⟨q0, q1, q2, q3, q4, q5⟩ := cells6 K; refine ⟨?_, K.frozen j⟩
  have hm : j = 0 ∨ j = 1 ∨ j = 2 ∨ j = 3 ∨ j = 4 ∨ j = 5 := by omega
  rcases hm with e | e | e | e | e | e <;> subst e <;> simp [*]
 ·exact h
theorem jja (A : ByteArray) (l : List UInt8) (h : A.data.toList = l) : (A.toList == l) = true := by rw [ByteArray.toList_eq, beq_iff_eq]; exact h
theorem jqd (A : ByteArray) (l : List UInt8) (h : ¬ A.data.toList = l) : (A.toList == l) = false := by rw [ByteArray.toList_eq, beq_eq_false_iff_ne]; exact h
def Rd (w : World) (b : Nat) (P : Int) : Prop := ∃ (a : Option Addr) (len cap k : Nat),
 w.cell? ⟨b, 0, none⟩ = some (.slice a len cap) ∧ w.cell? ⟨b, 1, none⟩ = some (.int .i64 (k : Int)) ∧ (k : Int) ≤ P ∧ w.frozen? ⟨b, 1, none⟩ = false ∧ len ≤ 2000 ∧
 (len = 0 ∨ ∃ ab off, a = some ⟨ab, off, none⟩ ∧ ab < b ∧ ∀ i, i < len → ∃ x : Int, w.cell? ⟨ab, off + i, none⟩ = some (.int .u8 x) ∧ 0 ≤ x ∧ x < 256)
theorem g_alloc {a w : World} {row : Option Nat} (h : a.grownBy w row) (o : Obj) : a.grownBy (w.alloc o) row :=
 ⟨h.os, h.tape, h.output, Nat.le_trans h.size (by simp), fun i hi hne => (Below.heap_alloc w o i (Nat.lt_of_lt_of_le hi h.size)).trans (h.block i hi hne)⟩
theorem g_set {a w : World} {g : Nat} (h : a.grownBy w (some g)) {p : Addr} (hp : p.block = g ∨ a.heap.size ≤ p.block) (u : Value) : a.grownBy (w.setCell p u) (some g) :=
 ⟨h.os, h.tape, h.output, by simpa [World.setCell] using h.size, fun i hi hne => (Below.heap_setCell w p u i (by
  rintro rfl
  rcases hp with hp | hp
  ·exact hne (by rw [hp])
  ·omega)).trans (h.block i hi hne)⟩
theorem jxb {a w : World} (h : Below a.heap.size a w) (row : Option Nat) : a.grownBy w row := ⟨h.os, h.tape, h.output, h.size, fun i hi _ => h.block i hi⟩
theorem g_drewN {a w : World} {row : Option Nat} (h : a.grownBy w row) (n : Nat) : a.grownBy (w.drewN n) row := ⟨h.os, h.tape, h.output, h.size, h.block⟩
theorem jqe {a b c : World} {g : Nat} (h : a.grownBy b (some g)) (k : b.grownBy c (some g)) : a.grownBy c (some g) :=
 ⟨k.os.trans h.os, k.tape.trans h.tape, k.output.trans h.output, Nat.le_trans h.size k.size, fun i hi hne => (k.block i (Nat.lt_of_lt_of_le hi h.size) hne).trans (h.block i hi hne)⟩
theorem g_cell {a w : World} {g : Nat} (h : a.grownBy w (some g)) {b o : Nat} (hb : b < a.heap.size) (hne : b ≠ g) : w.cell? ⟨b, o, none⟩ = a.cell? ⟨b, o, none⟩ :=
 World.cell?_of_block (h.block b hb (fun e => hne (by injection e)))
theorem g_frozen {a w : World} {g : Nat} (h : a.grownBy w (some g)) {b o : Nat} (hb : b < a.heap.size) (hne : b ≠ g) : w.frozen? ⟨b, o, none⟩ = a.frozen? ⟨b, o, none⟩ :=
 World.frozen?_of_block (h.block b hb (fun e => hne (by injection e)))
theorem so {w : World} {a c : Addr} {v u : Value} (h : a ≠ c) (hu : w.cell? c = some u) : (w.setCell a v).cell? c = some u := by
 rw [World.cell?_setCell_other]
 ·exact hu
 ·exact h
theorem ofInt_i64 (a : Nat) (ha : a < 9223372036854775808) : (BitVec.ofInt 64 (a : Int)).toNat = a := by
 rw [BitVec.ofInt_natCast, BitVec.toNat_ofNat]; exact Nat.mod_eq_of_lt (by omega)
theorem i64_xor_nat (a b : Nat) (ha : a < 9223372036854775808) (hb : b < 9223372036854775808) : bits .xor .i64 (a : Int) (b : Int) = ((a ^^^ b : Nat) : Int) := by
 have hx : a ^^^ b < 2 ^ 63 := Nat.xor_lt_two_pow (by omega) (by omega)
 show IntKind.i64.wrap ((BitVec.ofInt 64 (a : Int) ^^^ BitVec.ofInt 64 (b : Int)).toNat : Int) = _
 rw [BitVec.toNat_xor, ofInt_i64 a ha, ofInt_i64 b hb, IntKind.wrap_i64]
 omega
theorem mixv (X n : Int) (h0 : 0 ≤ X) (h1 : X ≤ 1000000000) (hn : 1 ≤ n) : 0 ≤ (bits .xor .i64 X (X / 64)).tmod n ∧ (bits .xor .i64 X (X / 64)).tmod n < n := by
 obtain ⟨a, rfl⟩ := Int.eq_ofNat_of_zero_le h0
 have e : ((a : Int) / 64) = ((a / 64 : Nat) : Int) := by omega
 rw [e, i64_xor_nat a (a / 64) (by omega) (by omega)]; rw [Int.tmod_eq_emod_of_nonneg (by omega)]; exact ⟨Int.emod_nonneg _ (by omega), Int.emod_lt_of_pos _ (by omega)⟩
theorem pick_low (b len cap k : Nat) (a : Option Addr) (n : Int) (w : World) (_h0 : w.cell? ⟨b, 0, none⟩ = some (.slice a len cap)) (h1 : w.cell? ⟨b, 1, none⟩ = some (.int .i64 (k : Int))) (hf : w.frozen? ⟨b, 1, none⟩ = false) (hk : (k : Int) ≤ 100000) (hn : n < 1) :
  Calls Try.prog 58 #[.pointer (some ⟨b, 0, none⟩), .int .i64 n] w fun e w' => e = .returned (.int .i64 0) ∧ w.setCell ⟨b, 1, none⟩ (.int .i64 ((k : Int) + 1)) = w' := by
 go_enter Try.func58, Try.ntmps58
 go_wp2
 go_ret; exact ⟨rfl, rfl⟩
theorem pick_none (b cap k : Nat) (a : Option Addr) (n : Int) (w : World) (h0 : w.cell? ⟨b, 0, none⟩ = some (.slice a 0 cap)) (h1 : w.cell? ⟨b, 1, none⟩ = some (.int .i64 (k : Int))) (hf : w.frozen? ⟨b, 1, none⟩ = false) (hk : (k : Int) ≤ 100000) (hn : 1 ≤ n) :
  Calls Try.prog 58 #[.pointer (some ⟨b, 0, none⟩), .int .i64 n] w fun e w' => e = .returned (.int .i64 0) ∧ w.setCell ⟨b, 1, none⟩ (.int .i64 ((k : Int) + 1)) = w' := by
 have e1 : (⟨b, 1, none⟩ : Addr) ≠ ⟨b, 0, none⟩ := by simp
 have c0 := so (v := .int .i64 ((k : Int) + 1)) e1 h0; go_enter Try.func58, Try.ntmps58
 go_wp2
 go_ret; exact ⟨rfl, rfl⟩
theorem pick_byte (b len cap k ab off : Nat) (x n : Int) (w : World) (h0 : w.cell? ⟨b, 0, none⟩ = some (.slice (some ⟨ab, off, none⟩) len cap)) (h1 : w.cell? ⟨b, 1, none⟩ = some (.int .i64 (k : Int))) (hf : w.frozen? ⟨b, 1, none⟩ = false) (hl : len ≤ 2000) (hn : 1 ≤ n) (hlt : k < len)
  (hne : ab ≠ b) (hx : w.cell? ⟨ab, off + k, none⟩ = some (.int .u8 x)) (hx0 : 0 ≤ x) (hx1 : x < 256) :
  Calls Try.prog 58 #[.pointer (some ⟨b, 0, none⟩), .int .i64 n] w fun e w' => e = .returned (.int .i64 (x % n)) ∧ w.setCell ⟨b, 1, none⟩ (.int .i64 ((k : Int) + 1)) = w' := by
 have e1 : (⟨b, 1, none⟩ : Addr) ≠ ⟨b, 0, none⟩ := by simp
 have e2 : (⟨b, 1, none⟩ : Addr) ≠ ⟨ab, off + k, none⟩ := by intro h; injection h with h; exact hne h.symm
 have c0 := so (v := .int .i64 ((k : Int) + 1)) e1 h0; have c2 := so (v := .int .i64 ((k : Int) + 1)) e2 hx
 have hl0 : ((len : Int) == 0) = false := by simp; omega
 clear e2; go_enter Try.func58, Try.ntmps58
 go_wp2
 go_ret; exact ⟨rfl, rfl⟩
theorem pick_mix (b len cap k ab off : Nat) (x y n : Int) (w : World) (h0 : w.cell? ⟨b, 0, none⟩ = some (.slice (some ⟨ab, off, none⟩) len cap)) (h1 : w.cell? ⟨b, 1, none⟩ = some (.int .i64 (k : Int))) (hf : w.frozen? ⟨b, 1, none⟩ = false) (hl : len ≤ 2000) (hl1 : 1 ≤ len) (hk : k ≤ 100000) (hn : 1 ≤ n) (hlt : ¬ k < len)
  (hne : ab ≠ b) (hx : w.cell? ⟨ab, off + k % len, none⟩ = some (.int .u8 x)) (hx0 : 0 ≤ x) (hx1 : x < 256) (hy : w.cell? ⟨ab, off + (k * 7 + 3) % len, none⟩ = some (.int .u8 y)) (hy0 : 0 ≤ y) (hy1 : y < 256) :
  Calls Try.prog 58 #[.pointer (some ⟨b, 0, none⟩), .int .i64 n] w fun e w' => (∃ v : Int, e = .returned (.int .i64 v) ∧ 0 ≤ v ∧ v < n) ∧ ∃ m, (w.setCell ⟨b, 1, none⟩ (.int .i64 ((k : Int) + 1))).drewN m = w' := by
 have e1 : (⟨b, 1, none⟩ : Addr) ≠ ⟨b, 0, none⟩ := by simp
 have e2 : (⟨b, 1, none⟩ : Addr) ≠ ⟨ab, off + k % len, none⟩ := by intro h; injection h with h; exact hne h.symm
 have e3 : (⟨b, 1, none⟩ : Addr) ≠ ⟨ab, off + (k * 7 + 3) % len, none⟩ := by intro h; injection h with h; exact hne h.symm
 have c0 := so (v := .int .i64 ((k : Int) + 1)) e1 h0; have c2 := so (v := .int .i64 ((k : Int) + 1)) e2 hx; have c3 := so (v := .int .i64 ((k : Int) + 1)) e3 hy
 have hl0 : ((len : Int) == 0) = false := by simp; omega
 have hk' : ¬ (k : Int) < (len : Int) := by omega
 have m1 : (k : Int) % (len : Int) < (len : Int) := Int.emod_lt_of_pos _ (by omega); have m2 : 0 ≤ (k : Int) % (len : Int) := Int.emod_nonneg _ (by omega); have m3 : ((k : Int) * 7 + 3) % (len : Int) < (len : Int) := Int.emod_lt_of_pos _ (by omega); have m4 : 0 ≤ ((k : Int) * 7 + 3) % (len : Int) := Int.emod_nonneg _ (by omega); have q1 : 0 ≤ (k : Int) / (len : Int) := Int.ediv_nonneg (by omega) (by omega); have q2 : (k : Int) / (len : Int) ≤ 100000 := Int.le_trans (Int.ediv_le_self _ (by omega)) (by omega); clear e2 e3; go_enter Try.func58, Try.ntmps58; go_wp2_with fail
 go_quiet (fail)
 go_wp2
 go_ret; exact ⟨⟨_, rfl, mixv _ n (by omega) (by omega) hn⟩, _, rfl⟩
def Picked (w : World) (b : Nat) (P n : Int) (e : Ending) (w' : World) : Prop := ∃ v : Nat, e = .returned (.int .i64 (v : Int)) ∧ ((v : Int) < n ∨ v = 0) ∧ Rd w' b P ∧ w.grownBy w' (some b)
theorem picked {w : World} {b : Nat} {P n v : Int} {w' : World} (h0 : 0 ≤ v) (h1 : v < n ∨ v = 0) (h2 : Rd w' b P) (h3 : w.grownBy w' (some b)) : Picked w b P n (.returned (.int .i64 v)) w' :=
 ⟨v.toNat, by rw [Int.toNat_of_nonneg h0], by omega, h2, h3⟩
theorem rd_step {w : World} {b : Nat} {P : Int} {a : Option Addr} {len cap k : Nat} (m : Nat) (h0 : w.cell? ⟨b, 0, none⟩ = some (.slice a len cap)) (h1 : w.cell? ⟨b, 1, none⟩ = some (.int .i64 (k : Int))) (hk : (k : Int) ≤ P) (hf : w.frozen? ⟨b, 1, none⟩ = false) (hl : len ≤ 2000)
  (hr : len = 0 ∨ ∃ ab off, a = some ⟨ab, off, none⟩ ∧ ab < b ∧ ∀ i, i < len → ∃ x : Int, w.cell? ⟨ab, off + i, none⟩ = some (.int .u8 x) ∧ 0 ≤ x ∧ x < 256) :
  Rd ((w.setCell ⟨b, 1, none⟩ (.int .i64 ((k : Int) + 1))).drewN m) b (P + 1) ∧ w.grownBy ((w.setCell ⟨b, 1, none⟩ (.int .i64 ((k : Int) + 1))).drewN m) (some b) := by
 have hg : w.grownBy ((w.setCell ⟨b, 1, none⟩ (.int .i64 ((k : Int) + 1))).drewN m) (some b) := g_drewN (g_set (jxb (Below.refl _ _) _) (.inl rfl) _) m; refine ⟨⟨a, len, cap, k + 1, ?_, ?_, by omega, ?_, hl, ?_⟩, hg⟩
 ·show (w.setCell ⟨b, 1, none⟩ (.int .i64 ((k : Int) + 1))).cell? _ = _
  exact so (by simp) h0
 ·show (w.setCell ⟨b, 1, none⟩ (.int .i64 ((k : Int) + 1))).cell? _ = _
  rw [World.cell?_setCell_same' _ _ _ (by rw [h1]; rfl)]; simp
 ·show (w.setCell ⟨b, 1, none⟩ (.int .i64 ((k : Int) + 1))).frozen? _ = _
  simp [go_sem, hf]
 ·rcases hr with hr | ⟨ab, off, ha, hlt, hx⟩
  ·exact .inl hr
  ·refine .inr ⟨ab, off, ha, hlt, fun i hi => ?_⟩
   obtain ⟨x, hc, h2⟩ := hx i hi; refine ⟨x, ?_, h2⟩
   show (w.setCell ⟨b, 1, none⟩ (.int .i64 ((k : Int) + 1))).cell? _ = _
   exact so (by intro h; injection h with h; omega) hc
theorem jx2 (b : Nat) (P n : Int) (w : World) (h : Rd w b P) (hP : P ≤ 100000) :
  Calls Try.prog 58 #[.pointer (some ⟨b, 0, none⟩), .int .i64 n] w (Picked w b (P + 1) n) := by
 obtain ⟨a, len, cap, k, h0, h1, hk, hf, hl, hr⟩ := h
 by_cases hn : n < 1
 ·refine (pick_low b len cap k a n w h0 h1 hf (by omega) hn).mono ?_
  rintro e w' ⟨rfl, rfl⟩; exact picked (by omega) (.inr rfl) (rd_step 0 h0 h1 hk hf hl hr).1 (rd_step 0 h0 h1 hk hf hl hr).2
 ·by_cases hz : len = 0
  ·subst hz
   refine (pick_none b cap k a n w h0 h1 hf (by omega) (by omega)).mono ?_; rintro e w' ⟨rfl, rfl⟩; exact picked (by omega) (.inr rfl) (rd_step 0 h0 h1 hk hf hl hr).1 (rd_step 0 h0 h1 hk hf hl hr).2
  ·have hr' := hr
   rcases hr' with hr' | ⟨ab, off, rfl, hlt, hx⟩
   ·exact absurd hr' hz
   ·by_cases hkl : k < len
    ·obtain ⟨x, hc, x0, x1⟩ := hx k hkl
     refine (pick_byte b len cap k ab off x n w h0 h1 hf hl (by omega) hkl (by omega) hc x0 x1).mono ?_; rintro e w' ⟨rfl, rfl⟩; exact picked (Int.emod_nonneg _ (by omega)) (.inl (Int.emod_lt_of_pos _ (by omega))) (rd_step 0 h0 h1 hk hf hl hr).1 (rd_step 0 h0 h1 hk hf hl hr).2
    ·obtain ⟨x, hc, x0, x1⟩ := hx (k % len) (Nat.mod_lt _ (by omega))
     obtain ⟨y, hd, y0, y1⟩ := hx ((k * 7 + 3) % len) (Nat.mod_lt _ (by omega)); refine (pick_mix b len cap k ab off x y n w h0 h1 hf hl (by omega) (by omega) (by omega) hkl (by omega) hc x0 x1 hd y0 y1).mono ?_; rintro e w' ⟨⟨v, rfl, v0, v1⟩, m, rfl⟩; exact picked v0 (.inl v1) (rd_step m h0 h1 hk hf hl hr).1 (rd_step m h0 h1 hk hf hl hr).2
def Oned (w : World) (b : Nat) (P lo hi : Int) (e : Ending) (w' : World) : Prop := ∃ v : Int, e = .returned (.int .i64 v) ∧ lo ≤ v ∧ v ≤ hi ∧ Rd w' b P ∧ w.grownBy w' (some b)
theorem one_any (b g n cap : Nat) (P lo hi : Int) (w : World) (h : Rd w b P) (hP : P ≤ 100000) (hgb : g ≠ b) (hgs : g < w.heap.size) (hn : 1 ≤ n) (hn' : n ≤ 1000)
  (hc : ∀ i, i < n → ∃ z : Int, w.cell? ⟨g, i, none⟩ = some (.int .i64 z) ∧ lo ≤ z ∧ z ≤ hi) :
  Calls Try.prog 54 #[.pointer (some ⟨b, 0, none⟩), .slice (some ⟨g, 0, none⟩) n cap] w (Oned w b (P + 1) lo hi) := by
 go_enter Try.func54, Try.ntmps54; go_wp2_with fail; refine (jx2 b P n _ h hP).mono ?_; rintro e w' ⟨v, rfl, hv, hR, hG⟩
 have hvn : v < n := by omega
 have hvi : (v : Int) < (n : Int) := by omega
 obtain ⟨z, hz, z0, z1⟩ := hc v hvn; have hz' := (g_cell (o := v) hG hgs hgb).trans hz; clear hz hc hv
 go_wp2
 go_ret; exact ⟨z, rfl, z0, z1, hR, hG⟩
def Made (w : World) (e : Ending) (w' : World) : Prop := e = .returned (.pointer (some ⟨w.heap.size, 0, none⟩)) ∧ Rd w' w.heap.size 0 ∧ Below w.heap.size w w' ∧ w.heap.size < w'.heap.size
theorem byte_bd {z : Int} (h : (Lit.int .u8 z).wf = true) : 0 ≤ z ∧ z < 256 := by
 have := bounds_u8 h
 omega
theorem rd_new (w : World) (a : Option Addr) (len cap : Nat) (t : TypeId) (hl : len ≤ 2000)
  (hr : len = 0 ∨ ∃ ab off, a = some ⟨ab, off, none⟩ ∧ ab < w.heap.size ∧ ∀ i, i < len → ∃ x : Int, w.cell? ⟨ab, off + i, none⟩ = some (.int .u8 x) ∧ 0 ≤ x ∧ x < 256) :
  Made w (.returned (.pointer (some ⟨w.heap.size, 0, none⟩))) (w.alloc (.cells #[.slice a len cap, .int .i64 0] t)) := by
 have hb : Below w.heap.size w (w.alloc (.cells #[.slice a len cap, .int .i64 0] t)) := (Below.refl _ _).alloc (Nat.le_refl _) _; refine ⟨rfl, ⟨a, len, cap, 0, by simp [go_sem], by simp [go_sem], by simp, by simp [go_sem], hl, ?_⟩, hb, by simp⟩
 rcases hr with hr | ⟨ab, off, ha, hlt, hx⟩
 ·exact .inl hr
 ·refine .inr ⟨ab, off, ha, hlt, fun i hi => ?_⟩
  obtain ⟨x, hc, h2⟩ := hx i hi; exact ⟨x, (hb.cell (p := ⟨ab, off + i, none⟩) hlt).trans hc, h2⟩
theorem row_bytes {w : World} {x : Addr} {len cap : Nat} {zs : List Int} (hl : len ≤ cap) (hz : zs.length = cap) (hcell : ∀ i, i < zs.length → w.cell? (x.add i) = some (.int .u8 (zs.getD i 0))) (hwz : ∀ n ∈ zs, (Lit.int .u8 n).wf = true) :
  len = 0 ∨ ∃ ab off, some x = some (⟨ab, off, none⟩ : Addr) ∧ ab < w.heap.size ∧ ∀ i, i < len → ∃ y : Int, w.cell? ⟨ab, off + i, none⟩ = some (.int .u8 y) ∧ 0 ≤ y ∧ y < 256 := by
 by_cases h0 : len = 0
 ·exact .inl h0
 ·obtain ⟨b, off, spot⟩ := x
  have hc := hcell 0 (by omega)
  have hspot : spot = none := by simpa [Addr.add] using World.cell?_spot hc
  subst hspot; have hlt : b < w.heap.size := World.block_lt_of_cell? w _ hc; refine .inr ⟨b, off, rfl, hlt, fun i hi => ?_⟩; have hci := hcell i (by omega)
  have hci' : w.cell? ⟨b, off + i, none⟩ = some (.int .u8 (zs.getD i 0)) := by
   by_cases hi0 : i = 0
   ·subst hi0; simpa [Addr.add] using hci
   ·simpa [Addr.add, hi0] using hci
  exact ⟨zs.getD i 0, hci', byte_bd (hwz _ (by rw [List.getD_eq_getElem?_getD, List.getElem?_eq_getElem (by omega)]; simp))⟩
theorem newReader_any (a : Option Addr) (len cap : Nat) (zs : List Int) (w : World) (h : IsRow .u8 w a len cap zs) :
  Calls Try.prog 52 #[.slice a len cap] w (Made w) := by
 rcases h with ⟨rfl, rfl, rfl, rfl⟩ | ⟨x, rfl, hl, hm, hz, hcell, hwz⟩
 ·go_enter Try.func52, Try.ntmps52
  go_wp2
  go_ret; exact rd_new w none 0 0 _ (by omega) (.inl rfl)
 ·have hr := row_bytes hl hz hcell hwz
  clear hcell hwz; unfold maxLen at hm
  by_cases h2 : (2000 : Int) < (len : Int)
  ·have hr2 : 2000 = 0 ∨ ∃ ab off, some x = some (⟨ab, off, none⟩ : Addr) ∧ ab < w.heap.size ∧ ∀ i, i < 2000 → ∃ y : Int, w.cell? ⟨ab, off + i, none⟩ = some (.int .u8 y) ∧ 0 ≤ y ∧ y < 256 := by
    rcases hr with hr | ⟨ab, off, ha, hb, hx⟩
    ·omega
    ·exact .inr ⟨ab, off, ha, hb, fun i hi => hx i (by omega)⟩
   have HR := Lib.hid hr2; clear hr hr2; go_enter Try.func52, Try.ntmps52
   go_wp2
   go_ret; exact rd_new w (some x) 2000 cap _ (by omega) HR.out
  ·have HR := Lib.hid hr
   clear hr; go_enter Try.func52, Try.ntmps52
   go_wp2
   go_ret; exact rd_new w (some x) len cap _ (by omega) HR.out
def Cell2 (w : World) (g : Nat) (x y : Value) : Prop := w.cell? ⟨g, 0, none⟩ = some x ∧ w.cell? ⟨g, 1, none⟩ = some y ∧ w.frozen? ⟨g, 0, none⟩ = false ∧ w.frozen? ⟨g, 1, none⟩ = false ∧ g < w.heap.size
theorem c2_new (w : World) (x y : Value) (t : TypeId) : Cell2 (w.alloc (.cells #[x, y] t)) w.heap.size x y := by
 refine ⟨?_, ?_, ?_, ?_, ?_⟩ <;> simp [go_sem]
theorem c2_below {w w' : World} {g : Nat} {x y : Value} (h : Cell2 w g x y) (hB : Below w.heap.size w w') : Cell2 w' g x y := by
 obtain ⟨h0, h1, h2, h3, h4⟩ := h; exact ⟨(hB.cell (p := ⟨g, 0, none⟩) h4).trans h0, (hB.cell (p := ⟨g, 1, none⟩) h4).trans h1, (hB.frozen (p := ⟨g, 0, none⟩) h4).trans h2, (hB.frozen (p := ⟨g, 1, none⟩) h4).trans h3, Nat.lt_of_lt_of_le h4 hB.size⟩
theorem c2_alloc {w : World} {g : Nat} {x y : Value} (h : Cell2 w g x y) (o : Obj) : Cell2 (w.alloc o) g x y := c2_below h ((Below.refl _ _).alloc (Nat.le_refl _) _)
theorem c2_grown {w w' : World} {g b : Nat} {x y : Value} (h : Cell2 w g x y) (hG : w.grownBy w' (some b)) (hne : g ≠ b) : Cell2 w' g x y := by
 obtain ⟨h0, h1, h2, h3, h4⟩ := h; exact ⟨(g_cell hG h4 hne).trans h0, (g_cell hG h4 hne).trans h1, (g_frozen hG h4 hne).trans h2, (g_frozen hG h4 hne).trans h3, Nat.lt_of_lt_of_le h4 hG.size⟩
theorem jz3 {w w' : World} {b B : Nat} {P : Int} (h : Rd w b P) (hb : b < B) (hB : Below B w w') : Rd w' b P := by
 obtain ⟨a, len, cap, k, h0, h1, hk, hf, hl, hr⟩ := h; refine ⟨a, len, cap, k, (hB.cell (p := ⟨b, 0, none⟩) hb).trans h0, (hB.cell (p := ⟨b, 1, none⟩) hb).trans h1, hk, (hB.frozen (p := ⟨b, 1, none⟩) hb).trans hf, hl, ?_⟩
 rcases hr with hr | ⟨ab, off, ha, hlt, hx⟩
 ·exact .inl hr
 ·refine .inr ⟨ab, off, ha, hlt, fun i hi => ?_⟩
  obtain ⟨x, hc, h2⟩ := hx i hi; exact ⟨x, (hB.cell (p := ⟨ab, off + i, none⟩) (Nat.lt_trans hlt hb)).trans hc, h2⟩
theorem rd_end {w w4 wf : World} {b : Nat} {P P' : Int} (hb : b < w.heap.size) (hR : Rd w4 b P') (hP : P' = P) (hG : w.grownBy w4 (some b)) (hB : Below w.heap.size w4 wf) : Rd wf b P ∧ w.grownBy wf (some b) :=
 ⟨hP ▸ jz3 hR hb hB, ⟨hB.os.trans hG.os, hB.tape.trans hG.tape, hB.output.trans hG.output, Nat.le_trans hG.size hB.size, fun i hi hne => (hB.block i hi).trans (hG.block i hi hne)⟩⟩
theorem jxa {w : World} {b : Nat} {P P' : Int} (h : Rd w b P) (hP : P ≤ P') : Rd w b P' := by
 obtain ⟨a, len, cap, k, h0, h1, hk, hr⟩ := h; exact ⟨a, len, cap, k, h0, h1, by omega, hr⟩
theorem rd_alloc {w : World} {b : Nat} {P : Int} (h : Rd w b P) (hb : b < w.heap.size) (o : Obj) : Rd (w.alloc o) b P := jz3 h hb ((Below.refl _ _).alloc (Nat.le_refl _) _)
theorem g_new {w w' : World} {b : Nat} {o : Obj} (h : (w.alloc o).grownBy w' (some b)) : w.grownBy w' (some b) := jqe (World.grownBy_alloc w o _) h
theorem lit_cells (w : World) (zs : List Int) (t : TypeId) (lo hi : Int) (hz : ∀ z ∈ zs, lo ≤ z ∧ z ≤ hi) :
  ∀ i, i < zs.length → ∃ z : Int, (w.alloc (.cells (zs.map (Value.int .i64)).toArray t)).cell? ⟨w.heap.size, i, none⟩ = some (.int .i64 z) ∧ lo ≤ z ∧ z ≤ hi := by
 intro i hi'; refine ⟨zs[i], ?_, hz _ (List.getElem_mem hi')⟩
 simp [World.cell?_alloc_new, hi']
theorem jv4 (b n : Nat) (P lo hi : Int) (zs : List Int) (t : TypeId) (w : World) (h : Rd w b P) (hP : P ≤ 100000) (hb : b < w.heap.size) (hl : zs.length = n) (hn : 1 ≤ n) (hn' : n ≤ 1000) (hz : ∀ z ∈ zs, lo ≤ z ∧ z ≤ hi) :
  Calls Try.prog 54 #[.pointer (some ⟨b, 0, none⟩), .slice (some ⟨w.heap.size, 0, none⟩) n n] (w.alloc (.cells (zs.map (Value.int .i64)).toArray t)) (Oned w b (P + 1) lo hi) := by
 refine (one_any b w.heap.size n n P lo hi _ (rd_alloc h hb _) hP (by omega) (by simp) hn hn' (by rw [← hl]; exact lit_cells w zs t lo hi hz)).mono ?_; rintro e w' ⟨v, rfl, v0, v1, hR, hG⟩; exact ⟨v, rfl, v0, v1, hR, g_new hG⟩
theorem row_below {k : IntKind} {w w' : World} {a : Option Addr} {len cap : Nat} {zs : List Int} (h : IsRow k w a len cap zs) (hB : Below w.heap.size w w') : IsRow k w' a len cap zs := by
 rcases h with h | ⟨x, ha, hl, hm, hz, hcell, hwz⟩
 ·exact .inl h
 ·refine .inr ⟨x, ha, hl, hm, hz, fun i hi => ?_, hwz⟩
  have hc := hcell i hi; exact (hB.cell (World.block_lt_of_cell? w _ hc)).trans hc
def FracOf (w : World) (b : Nat) (P L K : Int) (e : Ending) (w' : World) : Prop := ∃ x y : Int, e = .returned (.agg #[.int .i64 x, .int .i64 y]) ∧ L ≤ x ∧ x ≤ K ∧ L ≤ y ∧ y ≤ K ∧ Rd w' b P ∧ w.grownBy w' (some b)
theorem someFrac_any (b : Nat) (P : Int) (w : World) (h : Rd w b P) (hP : P ≤ 90000) (hb : b < w.heap.size) :
  Calls Try.prog 108 #[.pointer (some ⟨b, 0, none⟩)] w (FracOf w b (P + 3) 0 1000000) := by
 go_enter Try.func108, Try.ntmps108; go_wp2_with fail; refine (jx2 b P 60 _ (rd_alloc h hb _) (by omega)).mono ?_; rintro e w1 ⟨v, rfl, hv, hR1, hG1⟩; have k1 := c2_grown (c2_new w (.int .i64 0) (.int .i64 0) _) hG1 (by omega); have hG1 := g_new hG1; have hb1 := Nat.lt_of_lt_of_le hb hG1.size
 have hv60 : (v : Int) < 60 := by omega
 clear hv; go_wp2_with fail; refine (jv4 b 10 (P + 1) 1 97 [2, 3, 4, 6, 8, 12, 5, 1, 97, 1 + (v : Int)] _ w1 hR1 (by omega) hb1 rfl (by omega) (by omega) (by simp; omega)).mono ?_; rintro e w2 ⟨d, rfl, d0, d1, hR2, hG2⟩; have k2 := c2_grown k1 hG2 (by omega); have hb2 := Nat.lt_of_lt_of_le hb1 hG2.size; go_wp2_with fail; refine (jx2 b (P + 1 + 1) (d + 1) _ hR2 (by omega)).mono ?_; rintro e w3 ⟨u, rfl, hu, hR3, hG3⟩; have k3 := c2_grown k2 hG3 (by omega); have hb3 := Nat.lt_of_lt_of_le hb2 hG3.size
 have hud : (u : Int) ≤ d := by omega
 clear hu; go_wp2_with fail; refine (sred u d _ (by omega) (by omega) (by omega) (by omega)).mono ?_; rintro e w4 ⟨rfl, hB4⟩; obtain ⟨c0, c1, f0, f1, hz⟩ := c2_below k3 hB4; have hR4 := jz3 hR3 hb3 hB4; have hG4 : w.grownBy w4 (some b) := jqe (jqe (jqe hG1 hG2) hG3) (jxb hB4 _); obtain ⟨⟨q1, q2⟩, q3, q4⟩ := Wsh.red_bd (u := (u : Int)) (d := d) (Wsh.redB u d) (by omega) hud d0 (by omega); clear hR1 hR2 hR3 hG1 hG2 hG3 hB4 k1 k2 k3; go_wp2_with fail; refine bodyPost_ret (v := .agg #[.int .i64 (Wsh.qn (Wsh.redB u d) (Wsh.rn u d)), .int .i64 (Wsh.qn (Wsh.redB u d) (Wsh.rd u d))]) (by simp [results, Try.results108, go_sem, c0, c1, hz]) rfl ⟨_, _, rfl, by omega, by omega, by omega, by omega, rd_end hb hR4 (by omega) hG4 (by go_grown)⟩
theorem own_ints0 {w : World} {base g cp k : Nat} {zs : List Int} (h : w.ownsRow base 3 1 (.slice (some ⟨g, 0, none⟩) k cp) k (zs.map (Value.int .i64))) : jqf w (some ⟨g, 0, none⟩) zs := by
 refine .inr ⟨g, 0, rfl, fun i hi => ?_⟩; have := h.cells (g := g) rfl i (.int .i64 (zs.getD i 0)) (by rw [List.getElem?_map, List.getD_eq_getElem?_getD, List.getElem?_eq_getElem hi]; rfl)
 rwa [add_off] at this
theorem jj9 {w w' : World} {a : Option Addr} {hs : List Hd} {b base : Nat} (h : IsHs w a hs) (hb : ∀ ad, a = some ad → base ≤ ad.block) (hlt : b < base) (hG : w.grownBy w' (some b)) : IsHs w' a hs := by
 rcases h with h | ⟨g, o, ha, hc⟩
 ·exact .inl h
 ·refine .inr ⟨g, o, ha, fun i hi => ?_⟩
  have hg := hb _ ha
  have hne : g ≠ b := by
   have : base ≤ g := hg
   omega
  obtain ⟨c0, c1, c2⟩ := hc i hi; exact ⟨(g_cell hG (World.block_lt_of_cell? w _ c0) hne).trans c0, (g_cell hG (World.block_lt_of_cell? w _ c1) hne).trans c1, (g_cell hG (World.block_lt_of_cell? w _ c2) hne).trans c2⟩
def OwnerOf (w : World) (b : Nat) (P : Int) (e : Ending) (w' : World) : Prop := ∃ o : Int, e = .returned (.int .i64 o) ∧ Rd w' b (P + 3) ∧ w.grownBy w' (some b)
theorem anOwner (b : Nat) (P : Int) (a : Option Addr) (cap base : Nat) (hs : List Hd) (w : World) (h : Rd w b P) (hP : P ≤ 70000) (hb : b < w.heap.size) (hi : IsHs w a hs) (hl : hs.length ≤ 1048576) (ha : ∀ ad, a = some ad → base ≤ ad.block) (hbb : b < base) :
  Calls Try.prog 106 #[.pointer (some ⟨b, 0, none⟩), .slice a hs.length cap] w (OwnerOf w b P) := by
 have last : ∀ W, Rd W b (P + 1) → b < W.heap.size → w.grownBy W (some b) → True := fun _ _ _ _ => trivial
 by_cases h0 : hs.length = 0
 ·have e0 : decide ((0 : Int) < (hs.length : Int)) = false := decide_eq_false (by omega)
  go_enter Try.func106, Try.ntmps106; go_wp2_with fail; refine (jv4 b 7 _ 0 1000 [1, 2, 5, 30, 999, 0, 1000] _ w h (by omega) hb rfl (by omega) (by omega) (by simp)).mono ?_; rintro e w3 ⟨d, rfl, d0, d1, hR3, hG3⟩; have HF := Lib.hid (And.intro (jxa (P' := P + 3) hR3 (by omega)) hG3); clear hR3 hG3 h; go_wp2_with fail; go_ret; exact ⟨d, rfl, HF.out.1, HF.out.2⟩
 ·have e0 : decide ((0 : Int) < (hs.length : Int)) = true := decide_eq_true (by omega)
  go_enter Try.func106, Try.ntmps106; go_wp2_with fail; refine (jx2 b _ 4 _ h (by omega)).mono ?_; rintro e w2 ⟨p, rfl, hp, hR2, hG2⟩; have hb2 := Nat.lt_of_lt_of_le hb hG2.size; clear hp
  by_cases p0 : p = 0
  ·have e1 : decide ((0 : Int) < (p : Int)) = false := decide_eq_false (by omega)
   have e2 : decide (0 < p) = false := decide_eq_false (by omega); clear p0; go_wp2_with fail; refine (jv4 b 7 _ 0 1000 [1, 2, 5, 30, 999, 0, 1000] _ w2 hR2 (by omega) hb2 rfl (by omega) (by omega) (by simp)).mono ?_; rintro e w3 ⟨d, rfl, d0, d1, hR3, hG3⟩; have HF := Lib.hid (And.intro (jxa (P' := P + 3) hR3 (by omega)) (jqe hG2 hG3)); clear hR3 hG3 h hR2 hG2; go_wp2_with fail; go_ret; exact ⟨d, rfl, HF.out.1, HF.out.2⟩
  ·have e1 : decide ((0 : Int) < (p : Int)) = true := decide_eq_true (by omega)
   have e2 : decide (0 < p) = true := decide_eq_true (by omega); clear p0; go_wp2_with fail; refine (jx2 b _ (hs.length : Int) _ hR2 (by omega)).mono ?_; rintro e w3 ⟨u, rfl, hu, hR3, hG3⟩
   have hul : u < hs.length := by omega
   have i3 := jj9 (jj9 hi ha hbb hG2) ha hbb hG3; have HF := Lib.hid (And.intro (jxa (P' := P + 3) hR3 (by omega)) (jqe hG2 hG3))
   rcases i3 with rfl | ⟨g, o, rfl, hc⟩
   ·simp at hul
   obtain ⟨c0, _, _⟩ := hc u hul; generalize (hs.getD u hd0).1 = x at c0
   have u0 : (0 : Int) ≤ (u : Int) := by omega
   have u1 : (u : Int) < (hs.length : Int) := by omega
   clear hR3 hG3 h hR2 hG2 hc hu hi; go_wp2_with fail; go_ret; exact ⟨x, rfl, HF.out.1, HF.out.2⟩

def ShareV (w : World) (hs : List Hd) (o : Int) (e : Ending) (w' : World) : Prop := e = .returned (.agg #[.int .i64 (shR hs o).1, .int .i64 (shR hs o).2]) ∧ Below w.heap.size w w'
theorem shR_hit {hs : List Hd} {o : Int} {k : Nat} (hk : k < hs.length) (h : ∀ j, j < k → (hs.getD j hd0).1 ≠ o) {n d : Int} (he : hs.getD k hd0 = (o, n, d)) : shR hs o = (n, d) := by
 rw [shR_at hk h (by rw [he]), he]
theorem ishare (a : Option Addr) (cap : Nat) (hs : List Hd) (o : Int) (w : World) (h : IsHs w a hs) (hn : hs.length ≤ 1048576) :
  Calls Try.prog 68 #[.slice a hs.length cap, .int .i64 o] w (ShareV w hs o) := by
 rcases h with rfl | ⟨g, off, rfl, hc⟩
 ·go_enter Try.func68, Try.ntmps68
  go_wp2_with fail; refine wp_loop_rounds 1 ?_; rw [rounds_succ]; go_wp2_with fail; refine (inoShare _).mono ?_; rintro e w1 ⟨rfl, hb⟩; obtain ⟨t0, t1, t2, t3, t4⟩ := jx1 ((Blk.new w 58 #[.int .i64 0, .int .i64 0]).next hb); have hB := jq2 ((Below.refl w.heap.size w).alloc (Nat.le_refl _) _) hb; clear hb; go_wp2_with fail; exact bodyPost_ret (v := .agg #[.int .i64 0, .int .i64 1]) (by simp [results, Try.results68, go_sem, t0, t1]) rfl ⟨rfl, (hB.setCell (by simp) _).setCell (by simp) _⟩
 ·have HC := Lib.hid hc
  clear hc; go_enter Try.func68, Try.ntmps68; go_wp2_with fail
  go_loopw [9] (fun i wr => ∃ k : Nat, k ≤ hs.length ∧ i = .int .i64 k ∧ Hid (∀ j, j < k → (hs.getD j hd0).1 ≠ o) ∧ Blk wr w.heap.size 58 #[.int .i64 0, .int .i64 0] ∧ Below w.heap.size w wr) (fun i _ => hs.length - (intOf i).toNat)
  case atStart => exact ⟨0, Nat.zero_le _, rfl, fun j hj => by omega, Blk.new _ _ _, by go_grown⟩
  case round =>
   obtain ⟨k, hk, rfl, HK, hS, hB⟩ := hrel
   by_cases hlt : k < hs.length
   ·obtain ⟨c0, c1, c2⟩ := jjg HC.out hB hlt
    have hy : (hs.getD k hd0).1 ≠ o → ∀ j, j < k + 1 → (hs.getD j hd0).1 ≠ o := fun e j hj => by
     by_cases ej : j = k
     ·subst ej; exact e
     ·exact HK.out j (by omega)
    have hh2 : ∀ n d : Int, hs.getD k hd0 = (o, n, d) → shR hs o = (n, d) := fun n d e => shR_hit hlt HK.out e
    generalize hs.getD k hd0 = hh at c0 c1 c2 hy hh2; obtain ⟨x, n, d⟩ := hh; dsimp only at c0 c1 c2 hy; obtain ⟨t0, t1, t2, t3, t4⟩ := jx1 hS; have HY := Lib.hid hy; have HH := Lib.hid hh2; have HS := Lib.hid hS; have HB := Lib.hid hB; clear hy hh2 hS hB
    by_cases hx : x = o
    ·have e : (x == o) = true := by simpa using hx
     have HR : Hid (shR hs o = (n, d)) := HH.out n d (by rw [hx]); clear hx; go_wp2_with fail; exact bodyPost_ret (v := .agg #[.int .i64 n, .int .i64 d]) (by simp [results, Try.results68, go_sem, t0, t1, t4]) rfl ⟨by rw [HR.out], (((HB.out.setCell (by simp) _).setCell (by simp) _).alloc (by simpa using HB.out.size) _)⟩
    ·have e : (x == o) = false := by simpa using hx
     go_wp2_with fail
     go_roundw
     case rel => exact ⟨k + 1, by omega, by go_num, HY.out hx, HS.out.alloc _, HB.out.alloc HB.out.size _⟩
     case measure => simp [intOf]; omega
   ·have HN : Hid (shR hs o = (0, 1)) := shR_none (fun j hj => HK.out j (by omega))
    obtain ⟨t0, t1, t2, t3, t4⟩ := jx1 hS; go_wp2_with fail; refine (inoShare _).mono ?_; rintro e w1 ⟨rfl, hb⟩; obtain ⟨t0, t1, t2, t3, t4⟩ := jx1 (hS.next hb); have hB1 := jq2 hB hb; clear hb hS; go_wp2_with fail; exact bodyPost_ret (v := .agg #[.int .i64 0, .int .i64 1]) (by simp [results, Try.results68, go_sem, t0, t1]) rfl ⟨by rw [HN.out], (hB1.setCell (by simp) _).setCell (by simp) _⟩
theorem sshare (a : Option Addr) (cap : Nat) (hs : List Hd) (o : Int) (w : World) (h : IsHs w a hs) (hn : hs.length ≤ 1048576) :
  Calls Try.prog 107 #[.slice a hs.length cap, .int .i64 o] w (ShareV w hs o) := by
 rcases h with rfl | ⟨g, off, rfl, hc⟩
 ·go_enter Try.func107, Try.ntmps107
  go_wp2_with fail; refine wp_loop_rounds 1 ?_; rw [rounds_succ]; go_wp2_with fail; exact bodyPost_ret (v := .agg #[.int .i64 0, .int .i64 1]) (by simp [results, Try.results107, go_sem]) rfl ⟨rfl, by go_grown⟩
 ·have HC := Lib.hid hc
  clear hc; go_enter Try.func107, Try.ntmps107; go_wp2_with fail
  go_loopw [5] (fun i wr => ∃ k : Nat, k ≤ hs.length ∧ i = .int .i64 k ∧ Hid (∀ j, j < k → (hs.getD j hd0).1 ≠ o) ∧ Blk wr w.heap.size 58 #[.int .i64 0, .int .i64 0] ∧ Below w.heap.size w wr) (fun i _ => hs.length - (intOf i).toNat)
  case atStart => exact ⟨0, Nat.zero_le _, rfl, fun j hj => by omega, Blk.new _ _ _, by go_grown⟩
  case round =>
   obtain ⟨k, hk, rfl, HK, hS, hB⟩ := hrel
   by_cases hlt : k < hs.length
   ·obtain ⟨c0, c1, c2⟩ := jjg HC.out hB hlt
    have hy : (hs.getD k hd0).1 ≠ o → ∀ j, j < k + 1 → (hs.getD j hd0).1 ≠ o := fun e j hj => by
     by_cases ej : j = k
     ·subst ej; exact e
     ·exact HK.out j (by omega)
    have hh2 : ∀ n d : Int, hs.getD k hd0 = (o, n, d) → shR hs o = (n, d) := fun n d e => shR_hit hlt HK.out e
    generalize hs.getD k hd0 = hh at c0 c1 c2 hy hh2; obtain ⟨x, n, d⟩ := hh; dsimp only at c0 c1 c2 hy; obtain ⟨t0, t1, t2, t3, t4⟩ := jx1 hS; have HY := Lib.hid hy; have HH := Lib.hid hh2; have HS := Lib.hid hS; have HB := Lib.hid hB; clear hy hh2 hS hB
    by_cases hx : x = o
    ·have e : (x == o) = true := by simpa using hx
     have HR : Hid (shR hs o = (n, d)) := HH.out n d (by rw [hx]); clear hx; go_wp2_with fail; exact bodyPost_ret (v := .agg #[.int .i64 n, .int .i64 d]) (by simp [results, Try.results107, go_sem, t0, t1]) rfl ⟨by rw [HR.out], ((HB.out.setCell (by simp) _).setCell (by simp) _)⟩
    ·have e : (x == o) = false := by simpa using hx
     go_wp2_with fail
     go_roundw
     case rel => exact ⟨k + 1, by omega, by go_num, HY.out hx, HS.out, HB.out⟩
     case measure => simp [intOf]; omega
   ·have HN : Hid (shR hs o = (0, 1)) := shR_none (fun j hj => HK.out j (by omega))
    obtain ⟨t0, t1, t2, t3, t4⟩ := jx1 hS; go_wp2_with fail; exact bodyPost_ret (v := .agg #[.int .i64 0, .int .i64 1]) (by simp [results, Try.results107, go_sem, t0, t1]) rfl ⟨by rw [HN.out], (hB.setCell (by simp) _).setCell (by simp) _⟩
end Go.Proofs.Ytaehemmjemhgpaa
