/- Contracts and facts of functions of this program, in build order. Conditions: those stated in each. -/
import Derived.Test.YtaehemmjemhgpaaChecked
import Derived.WalkKit
import Derived.Below
import Derived.Lib.Hide
import Derived.Outline
import Derived.Deep.LoopGhost
import Derived.Handy
import Derived.Deep.QuietTactic
import Derived.BigQuiet
import Derived.Laws.AppendOwn
import Derived.OwnWalk
import Derived.OpenShut
import Derived.Deep.OwnRows
import Derived.Laws.OwnMore
import Derived.Maps.AppendAt
import Derived.Deep.AppendLies
import Derived.Deep.Draws
import Derived.RegionTactic
import Derived.Laws.Concat
import Derived.Laws.Strings2
import Derived.Deep.MidRow
import Derived.Laws.BitsAllLaws
import Derived.Laws.BitsLemmas
import Derived.WalkLawsBesides
import Derived.Deep.RegionHeld3
import Derived.Deep.DeepCutAuto
set_option maxRecDepth 100000
set_option maxHeartbeats 16000000
namespace Go.Proofs.Ytaehemmjemhgpaa
open Go.RowKit
set_option linter.unusedSimpArgs false
set_option linter.unusedVariables false
theorem ret_int {k : IntKind} {a b : Int} (h : a = b) : Ending.returned (.int k a) = .returned (.int k b) := by rw [h]
theorem bcell {W w1 : World} (hb : Below W.heap.size W w1) : (∀ b o, b < W.heap.size → w1.cell? ⟨b, o, none⟩ = W.cell? ⟨b, o, none⟩) ∧ (∀ b o, b < W.heap.size → w1.frozen? ⟨b, o, none⟩ = W.frozen? ⟨b, o, none⟩) :=
  ⟨fun b o h => hb.cell (p := ⟨b, o, none⟩) h, fun b o h => hb.frozen (p := ⟨b, o, none⟩) h⟩
theorem bel_tr {w a b : World} (h1 : Below w.heap.size w a) (h2 : Below a.heap.size a b) : Below w.heap.size w b := h1.trans (h2.mono h1.size)
theorem ret_bool {a b : Bool} (h : a = b) : Ending.returned (.bool a) = .returned (.bool b) := by rw [h]
/-- spec.inRange -/
theorem inRange_yes (n l h : Int) (w : World) (a : l ≤ n) (b : n ≤ h) :
    Calls Try.prog 112 #[.int .i64 n, .int .i64 l, .int .i64 h] w fun e w' => e = .returned (.bool true) ∧ w = w' := by
  go_enter Try.func112, Try.ntmps112
  go_wp2
  go_ret
  exact ⟨rfl, rfl⟩
theorem inRange_no (n l h : Int) (w : World) (a : n < l ∨ h < n) :
    Calls Try.prog 112 #[.int .i64 n, .int .i64 l, .int .i64 h] w fun e w' => e = .returned (.bool false) ∧ w = w' := by
  by_cases b : n < l
  · go_enter Try.func112, Try.ntmps112
    go_wp2
    go_ret
    exact ⟨rfl, rfl⟩
  · have c : h < n := by omega
    have hd : decide (n ≤ h) = false := by simp; omega
    clear a
    go_enter Try.func112, Try.ntmps112
    go_wp2
    go_ret
    exact ⟨rfl, rfl⟩
/-- what is told of a slice of integers that came in -/
def IsRow (k : IntKind) (w : World) (a : Option Addr) (len cap : Nat) (zs : List Int) : Prop :=
  (a = none ∧ len = 0 ∧ cap = 0 ∧ zs = []) ∨
  ∃ x, a = some x ∧ len ≤ cap ∧ cap ≤ maxLen ∧ zs.length = cap ∧ (∀ i, i < zs.length → w.cell? (x.add i) = some (.int k (zs.getD i 0))) ∧ ∀ n ∈ zs, (Lit.int k n).wf = true
/-- the numbers zs, read through a slice at address a -/
def IsInts (w : World) (a : Option Addr) (zs : List Int) : Prop := zs = [] ∨ ∃ g o, a = some ⟨g, o, none⟩ ∧ ∀ i, i < zs.length → w.cell? ⟨g, o + i, none⟩ = some (.int .i64 (zs.getD i 0))
theorem take_sum (zs : List Int) (k : Nat) (h : k < zs.length) : (zs.take (k + 1)).sum = (zs.take k).sum + zs.getD k 0 := by
  rw [List.take_succ_eq_append_getElem h, List.sum_append, List.getD_eq_getElem?_getD, List.getElem?_eq_getElem h]
  simp
theorem getD_mem {zs : List Int} {k : Nat} (h : k < zs.length) : zs.getD k 0 ∈ zs := by
  rw [List.getD_eq_getElem?_getD, List.getElem?_eq_getElem h]; simp
theorem sum_bd (zs : List Int) (h : ∀ z ∈ zs, -1000000 ≤ z ∧ z ≤ 1000000) : ∀ k, k ≤ zs.length → -1000000 * (k : Int) ≤ (zs.take k).sum ∧ (zs.take k).sum ≤ 1000000 * (k : Int) := by
  intro k
  induction k with
  | zero => intro _; simp
  | succ k ih =>
    intro hk
    have h1 := ih (by omega)
    have h2 := h _ (getD_mem (k := k) (by omega))
    rw [take_sum zs k (by omega)]
    omega
/-- spec.total -/
theorem stotal (a : Option Addr) (cap : Nat) (zs : List Int) (w : World) (h : IsInts w a zs) (hn : zs.length ≤ 1048576) (hz : ∀ z ∈ zs, -1000000 ≤ z ∧ z ≤ 1000000) :
    Calls Try.prog 158 #[.slice a zs.length cap] w fun e w' => e = .returned (.int .i64 zs.sum) ∧ w = w' := by
  rcases h with rfl | ⟨g, o, rfl, hc⟩
  · go_enter Try.func158, Try.ntmps158
    go_wp2
    go_rounds 1
    go_ret
    exact ⟨rfl, rfl⟩
  · have HB := Lib.hid (sum_bd zs hz)
    have HC := Lib.hid hc
    have HZ := Lib.hid hz
    clear hc hz
    go_enter Try.func158, Try.ntmps158
    go_wp2
    go_loop [3, 4] (fun s i => ∃ k : Nat, k ≤ zs.length ∧ i = .int .i64 k ∧ s = .int .i64 (zs.take k).sum) (fun _ i => zs.length - (intOf i).toNat)
    case atStart => exact ⟨0, Nat.zero_le _, rfl, rfl⟩
    case round =>
      obtain ⟨k, hk, rfl, rfl⟩ := hrel
      obtain ⟨b0, b1⟩ := HB.out k hk
      by_cases hlt : k < zs.length
      · have hc := HC.out k hlt
        have ht := take_sum zs k hlt
        obtain ⟨z0, z1⟩ := HZ.out _ (getD_mem hlt)
        generalize zs.getD k 0 = z at hc ht z0 z1
        have HT := Lib.hid ht
        clear ht
        go_wp2
        go_round
        case rel => exact ⟨k + 1, by omega, by go_num, by rw [HT.out]⟩
        case measure => simp [intOf]; omega
      · go_wp2
        go_ret
        exact ⟨ret_int (by rw [List.take_of_length_le (by omega)]), rfl⟩
theorem below_drewN {B : Nat} {a w : World} (h : Below B a w) (n : Nat) : Below B a (w.drewN n) := ⟨h.os, h.tape, h.output, h.size, h.block⟩
theorem infoInt : (Try.prog.info? 3).map (fun i => (i.zero, i.size, i.bytes)) = some (some (.int .i64 0), 1, 8) := by kernel_rfl
/-- block g is the row of the numbers zs -/
def Row (w : World) (g : Nat) (zs : List Int) : Prop := w.rowIs g 3 zs.length (fun i => .int .i64 (zs.getD i 0))
theorem ints_below {w w' : World} {a : Option Addr} {zs : List Int} (h : IsInts w a zs) (hB : Below w.heap.size w w') : IsInts w' a zs := by
  rcases h with h | ⟨g, o, ha, hc⟩
  · exact .inl h
  · exact .inr ⟨g, o, ha, fun i hi => (hB.cell (p := ⟨g, o + i, none⟩) (World.block_lt_of_cell? w _ (hc i hi))).trans (hc i hi)⟩
section
namespace Wsh
/-- valid fraction, as a Bool -/
def vfB (n d : Int) : Bool := decide (1 ≤ d) && decide (d ≤ 10000) && decide (0 ≤ n) && decide (n ≤ d) && decide (Int.gcd n d = 1)
theorem vfB_iff (n d : Int) : vfB n d = true ↔ (1 ≤ d ∧ d ≤ 10000 ∧ 0 ≤ n ∧ n ≤ d ∧ Int.gcd n d = 1) := by
  unfold vfB; simp [and_assoc]
def rn (n d : Int) : Int := n / (Int.gcd n d : Int)
def rd (n d : Int) : Int := d / (Int.gcd n d : Int)
def redB (n d : Int) : Bool := decide (0 ≤ n) && decide (n ≤ d) && decide (rd n d ≤ 10000)
theorem gcd_step (a b : Int) (ha : 0 ≤ a) (hb : 0 < b) : Int.gcd b (a % b) = Int.gcd a b := by
  rw [Int.gcd_comm a b]
  obtain ⟨n, rfl⟩ := Int.eq_ofNat_of_zero_le ha
  obtain ⟨m, rfl⟩ := Int.eq_ofNat_of_zero_le (Int.le_of_lt hb)
  rw [← Int.natCast_emod]
  simp only [Int.gcd_natCast_natCast]
  rw [Nat.gcd_comm m n, Nat.gcd_comm m (n % m), ← Nat.gcd_rec, Nat.gcd_comm]
theorem gcd_pos (n d : Int) (hd : 0 < d) : 0 < (Int.gcd n d : Int) := by
  have : Int.gcd n d ≠ 0 := by
    intro h
    have := Int.gcd_eq_zero_iff.1 h
    omega
  omega
theorem rn_mul (n d : Int) : rn n d * (Int.gcd n d : Int) = n := Int.ediv_mul_cancel (Int.gcd_dvd_left ..)
theorem rd_mul (n d : Int) : rd n d * (Int.gcd n d : Int) = d := Int.ediv_mul_cancel (Int.gcd_dvd_right ..)
theorem rd_pos (n d : Int) (hd : 0 < d) : 0 < rd n d := by
  have h := rd_mul n d
  have hg := gcd_pos n d hd
  apply Int.pos_of_mul_pos_left _ hg
  rw [h]; exact hd
theorem gcd_red (n d : Int) (hd : 0 < d) : Int.gcd (rn n d) (rd n d) = 1 := by
  unfold rn rd
  exact Int.gcd_ediv_gcd_ediv_gcd (by have := gcd_pos n d hd; omega)
theorem red_valid (n d : Int) (hd : 0 < d) (h : redB n d = true) : vfB (rn n d) (rd n d) = true := by
  unfold redB at h
  simp only [Bool.and_eq_true, decide_eq_true_eq] at h
  obtain ⟨⟨h1, h2⟩, h3⟩ := h
  have hg := gcd_pos n d hd
  have hp := rd_pos n d hd
  rw [vfB_iff]
  refine ⟨by omega, h3, ?_, ?_, gcd_red n d hd⟩
  · exact Int.ediv_nonneg h1 (by omega)
  · exact Int.ediv_le_ediv hg h2
/-- a number is its own reduced fraction if it is valid -/
theorem red_self (n d : Int) (h : vfB n d = true) : rn n d = n ∧ rd n d = d ∧ redB n d = true := by
  rw [vfB_iff] at h
  obtain ⟨h1, h2, h3, h4, h5⟩ := h
  have e1 : rn n d = n := by unfold rn; rw [h5]; simp
  have e2 : rd n d = d := by unfold rd; rw [h5]; simp
  refine ⟨e1, e2, ?_⟩
  unfold redB
  rw [e2]
  simp [h2, h3, h4]
theorem mul_bd {x y : Int} (hx : 0 ≤ x) (hx' : x ≤ 10000) (hy : 0 ≤ y) (hy' : y ≤ 10000) : 0 ≤ x * y ∧ x * y ≤ 100000000 :=
  ⟨Int.mul_nonneg hx hy, Int.le_trans (Int.mul_le_mul hx' hy' hy (by omega)) (by decide)⟩
theorem mul_pos1 {x y : Int} (hx : 1 ≤ x) (hy : 1 ≤ y) : 1 ≤ x * y := Int.mul_pos (by omega) (by omega)
theorem parts (n f d : Int) (hd : 0 < d) : n * f / d + n * (d - f) / d ≤ n ∧ n - 1 ≤ n * f / d + n * (d - f) / d ∧ (n * f / d + n * (d - f) / d = n ↔ n * f % d = 0) := by
  have e : n * (d - f) = n * d - n * f := Int.mul_sub ..
  rw [e]
  generalize n * f = x
  have h1 := Int.mul_ediv_add_emod x d
  have h2 := Int.mul_ediv_add_emod (n * d - x) d
  have b1 := Int.emod_nonneg x (show d ≠ 0 by omega)
  have b2 := Int.emod_lt_of_pos x hd
  have c1 := Int.emod_nonneg (n * d - x) (show d ≠ 0 by omega)
  have c2 := Int.emod_lt_of_pos (n * d - x) hd
  generalize x / d = q at *
  generalize (n * d - x) / d = p at *
  generalize x % d = r at *
  generalize (n * d - x) % d = s at *
  have h3 : d * (n - q - p) = r + s := by grind
  have l1 : 0 ≤ n - q - p := by
    apply Int.nonneg_of_mul_nonneg_right (b := n - q - p) (a := d) _ hd
    omega
  have l2 : n - q - p < 2 := by
    apply Int.lt_of_mul_lt_mul_left (a := d) _ (by omega)
    omega
  refine ⟨by omega, by omega, ?_, ?_⟩
  · intro h
    have : n - q - p = 0 := by omega
    rw [this] at h3
    omega
  · intro h
    have : n - q - p = 0 := by
      by_cases hz : n - q - p = 1
      · rw [hz] at h3; omega
      · omega
    omega
/-- what is returned of a reduced fraction: the number if there is one, else 0 -/
def qn (b : Bool) (x : Int) : Int := if b then x else 0
theorem qn_true (x : Int) : qn true x = x := rfl
theorem qn_false (x : Int) : qn false x = 0 := rfl
theorem redB_no {n d : Int} (h : ¬ (0 ≤ n ∧ n ≤ d)) : redB n d = false := by
  unfold redB; rw [Bool.eq_false_iff]; intro k; simp at k; omega
theorem redB_den {n d : Int} (h : 0 ≤ n ∧ n ≤ d) : redB n d = decide (rd n d ≤ 10000) := by
  unfold redB; simp [h.1, h.2]
theorem rd_le (n d : Int) (hd : 0 < d) : rd n d ≤ d := Int.ediv_le_self _ (by omega)
theorem rn_le (n d : Int) (hn : 0 ≤ n) : 0 ≤ rn n d ∧ rn n d ≤ n := ⟨Int.ediv_nonneg hn (by omega), Int.ediv_le_self _ hn⟩
theorem rn_bd (n d : Int) (hn : 0 ≤ n) (hnd : n ≤ d) (hd : 0 < d) : 0 ≤ rn n d ∧ rn n d ≤ rd n d :=
  ⟨(rn_le n d hn).1, Int.ediv_le_ediv (gcd_pos n d hd) hnd⟩
/-- the reduced fraction is valid exactly if redB says so -/
theorem vfB_red (n d : Int) (hn : 0 ≤ n) (hd : 0 < d) : vfB (rn n d) (rd n d) = redB n d := by
  cases h : redB n d with
  | true => exact red_valid n d hd h
  | false =>
    rw [Bool.eq_false_iff]
    intro k
    have kk := (vfB_iff _ _).1 k
    have hg := gcd_pos n d hd
    have h1 := rn_mul n d
    have h2 := rd_mul n d
    have : n ≤ d := by
      have h3 := Int.mul_le_mul_of_nonneg_right kk.2.2.2.1 (Int.le_of_lt hg)
      rw [h1, h2] at h3
      exact h3
    rw [redB_den ⟨hn, this⟩] at h
    simp at h
    omega
/-- -1, 0 or 1 -/
def cmpI (x y : Int) : Int := if x < y then -1 else if y < x then 1 else 0
theorem cmpI_lt {x y : Int} (h : x < y) : cmpI x y = -1 := by unfold cmpI; rw [if_pos h]
theorem cmpI_gt {x y : Int} (h : y < x) : cmpI x y = 1 := by unfold cmpI; rw [if_neg (by omega), if_pos h]
theorem cmpI_eq {x y : Int} (h : x = y) : cmpI x y = 0 := by unfold cmpI; rw [if_neg (by omega), if_neg (by omega)]
theorem cmpI_nlt {x y : Int} (h : ¬ x < y) : (cmpI x y < 0) = False := by
  rw [eq_iff_iff, iff_false]
  unfold cmpI
  rw [if_neg h]
  split <;> omega
def cmpF (an ad bn bd : Int) : Int := if vfB an ad && vfB bn bd then cmpI (an * bd) (bn * ad) else 0
theorem cmpF_no1 {an ad : Int} (bn bd : Int) (h : vfB an ad = false) : cmpF an ad bn bd = 0 := by unfold cmpF; rw [h]; rfl
theorem cmpF_no2 {bn bd : Int} (an ad : Int) (h : vfB bn bd = false) : cmpF an ad bn bd = 0 := by unfold cmpF; rw [h, Bool.and_false]; rfl
theorem cmpF_yes {an ad bn bd : Int} (ha : vfB an ad = true) (hb : vfB bn bd = true) : cmpF an ad bn bd = cmpI (an * bd) (bn * ad) := by unfold cmpF; rw [ha, hb]; rfl
theorem qn_bd {x K : Int} (b : Bool) (h0 : 0 ≤ x) (h1 : x ≤ K) : 0 ≤ qn b x ∧ qn b x ≤ K := by
  unfold qn; split <;> omega
theorem red_bd {u d : Int} (b : Bool) (hu : 0 ≤ u) (hud : u ≤ d) (hd : 1 ≤ d) (hd' : d ≤ 1000000) : (0 ≤ qn b (rn u d) ∧ qn b (rn u d) ≤ 1000000) ∧ (0 ≤ qn b (rd u d) ∧ qn b (rd u d) ≤ 1000000) := by
  have h1 := rn_le u d hu
  have h2 := rd_le u d (by omega)
  have h3 := rd_pos u d (by omega)
  exact ⟨qn_bd b (by omega) (by omega), qn_bd b (by omega) (by omega)⟩
end Wsh
end
/-- spec.gcd -/
theorem sgcd (a b : Int) (w : World) (ha : 0 ≤ a) (ha' : a ≤ 1000000000) (hb : 0 ≤ b) (hb' : b ≤ 1000000000) :
    Calls Try.prog 159 #[.int .i64 a, .int .i64 b] w fun e w' => e = .returned (.int .i64 (Int.gcd a b)) ∧ w = w' := by
  go_enter Try.func159, Try.ntmps159
  go_wp2
  go_loop [0, 1, 5] (fun x y z => ∃ n m : Int, 0 ≤ n ∧ n ≤ 1000000000 ∧ 0 ≤ m ∧ m ≤ 1000000000 ∧ x = .int .i64 n ∧ y = .int .i64 m ∧ Hid (Int.gcd n m = Int.gcd a b)) (fun _ y _ => (intOf y).toNat)
  case atStart => exact ⟨a, b, ha, ha', hb, hb', rfl, rfl, rfl⟩
  case round =>
    obtain ⟨n, m, hn, hn', hm, hm', rfl, rfl, hg⟩ := hrel
    by_cases h0 : m = 0
    · have hz : (m != 0) = false := by simp [h0]
      have H := Lib.hid h0
      clear h0
      go_wp2
      go_ret
      have h1 := H.out
      exact ⟨ret_int (by have := hg.out; rw [h1] at this; simp at this; omega), rfl⟩
    · have hz : (m != 0) = true := by simp [h0]
      have hm1 : 1 ≤ m := by omega
      have hr0 := Int.emod_nonneg n h0
      have hr1 := Int.emod_lt_of_pos n (show 0 < m by omega)
      clear h0
      go_wp2
      go_round
      case rel => exact ⟨m, n % m, by omega, by omega, hr0, by omega, rfl, rfl, by rw [Wsh.gcd_step n m hn (by omega)]; exact hg.out⟩
      case measure => simp [intOf]; omega
/-- impl.commonDivisor -/
theorem igcd (a b : Int) (w : World) (ha : 0 ≤ a) (ha' : a ≤ 1000000000) (hb : 0 ≤ b) (hb' : b ≤ 1000000000) :
    Calls Try.prog 167 #[.int .i64 a, .int .i64 b] w fun e w' => e = .returned (.int .i64 (Int.gcd a b)) ∧ w = w' := by
  go_enter Try.func167, Try.ntmps167
  go_wp2
  go_loop [0, 1] (fun x y => ∃ n m : Int, 0 ≤ n ∧ n ≤ 1000000000 ∧ 0 ≤ m ∧ m ≤ 1000000000 ∧ x = .int .i64 n ∧ y = .int .i64 m ∧ Hid (Int.gcd n m = Int.gcd a b)) (fun x _ => (intOf x).toNat)
  case atStart => exact ⟨a, b, ha, ha', hb, hb', rfl, rfl, rfl⟩
  case round =>
    obtain ⟨n, m, hn, hn', hm, hm', rfl, rfl, hg⟩ := hrel
    by_cases h0 : 0 < n
    · have hr0 := Int.emod_nonneg m (show n ≠ 0 by omega)
      have hr1 := Int.emod_lt_of_pos m h0
      go_wp2
      go_round
      case rel => exact ⟨m % n, n, hr0, by omega, by omega, by omega, rfl, rfl, by rw [Int.gcd_comm, Wsh.gcd_step m n hm h0, Int.gcd_comm]; exact hg.out⟩
      case measure => simp [intOf]; omega
    · go_wp2
      go_ret
      exact ⟨ret_int (by have h1 : n = 0 := by omega
                         have := hg.out; rw [h1] at this; simp at this; omega), rfl⟩
theorem vf_no {n d : Int} (h : ¬ (1 ≤ d ∧ d ≤ 10000 ∧ 0 ≤ n ∧ n ≤ d)) : Wsh.vfB n d = false := by
  rw [Bool.eq_false_iff]; intro k; rw [Wsh.vfB_iff] at k; exact h ⟨k.1, k.2.1, k.2.2.1, k.2.2.2.1⟩
theorem vf_gcd {n d : Int} (h : 1 ≤ d ∧ d ≤ 10000 ∧ 0 ≤ n ∧ n ≤ d) : ((Int.gcd n d : Int) == 1) = Wsh.vfB n d := by
  rw [Bool.eq_iff_iff, Wsh.vfB_iff]; simp; omega
/-- impl.ValidFrac -/
theorem iValid (n d : Int) (w : World) :
    Calls Try.prog 120 #[.agg #[.int .i64 n, .int .i64 d]] w fun e w' => e = .returned (.bool (Wsh.vfB n d)) ∧ Below w.heap.size w w' := by
  by_cases h1 : d < 1
  · go_enter Try.func120, Try.ntmps120
    go_wp2
    go_ret
    exact ⟨ret_bool (vf_no (by omega)).symm, by go_grown⟩
  · by_cases h2 : 10000 < d
    · go_enter Try.func120, Try.ntmps120
      go_wp2
      go_ret
      exact ⟨ret_bool (vf_no (by omega)).symm, by go_grown⟩
    · by_cases h3 : n < 0
      · go_enter Try.func120, Try.ntmps120
        go_wp2
        go_ret
        exact ⟨ret_bool (vf_no (by omega)).symm, by go_grown⟩
      · by_cases h4 : d < n
        · go_enter Try.func120, Try.ntmps120
          go_wp2
          go_ret
          exact ⟨ret_bool (vf_no (by omega)).symm, by go_grown⟩
        · have hv := vf_gcd (n := n) (d := d) (by omega)
          have HV := Lib.hid hv
          clear hv
          go_enter Try.func120, Try.ntmps120
          go_wp2_with fail
          refine (igcd n d _ (by omega) (by omega) (by omega) (by omega)).mono ?_
          rintro e w' ⟨rfl, rfl⟩
          go_wp2_with fail
          go_ret
          exact ⟨ret_bool HV.out, by go_grown⟩
/-- spec.validFrac -/
theorem svalid (n d : Int) (w : World) :
    Calls Try.prog 109 #[.agg #[.int .i64 n, .int .i64 d]] w fun e w' => e = .returned (.bool (Wsh.vfB n d)) ∧ Below w.heap.size w w' := by
  by_cases h1 : d < 1 ∨ 10000 < d
  · go_enter Try.func109, Try.ntmps109
    go_wp2_with fail
    refine (inRange_no d 1 10000 _ h1).mono ?_
    rintro e w' ⟨rfl, rfl⟩
    go_wp2_with fail
    go_ret
    exact ⟨ret_bool (vf_no (by omega)).symm, by go_grown⟩
  · by_cases h2 : n < 0 ∨ d < n
    · go_enter Try.func109, Try.ntmps109
      go_wp2_with fail
      refine (inRange_yes d 1 10000 _ (by omega) (by omega)).mono ?_
      rintro e w' ⟨rfl, rfl⟩
      go_wp2_with fail
      refine (inRange_no n 0 d _ h2).mono ?_
      rintro e w' ⟨rfl, rfl⟩
      go_wp2_with fail
      go_ret
      exact ⟨ret_bool (vf_no (by omega)).symm, by go_grown⟩
    · have hv := vf_gcd (n := n) (d := d) (by omega)
      have HV := Lib.hid hv
      clear hv
      go_enter Try.func109, Try.ntmps109
      go_wp2_with fail
      refine (inRange_yes d 1 10000 _ (by omega) (by omega)).mono ?_
      rintro e w' ⟨rfl, rfl⟩
      go_wp2_with fail
      refine (inRange_yes n 0 d _ (by omega) (by omega)).mono ?_
      rintro e w' ⟨rfl, rfl⟩
      go_wp2_with fail
      refine (sgcd n d _ (by omega) (by omega) (by omega) (by omega)).mono ?_
      rintro e w' ⟨rfl, rfl⟩
      go_wp2_with fail
      go_ret
      exact ⟨ret_bool HV.out, by go_grown⟩
/-- a fraction and whether there is one, as returned -/
abbrev frV (b : Bool) (x y : Int) : Value := .tuple #[.agg #[.int .i64 (Wsh.qn b x), .int .i64 (Wsh.qn b y)], .bool b]
theorem ret_frV {b : Bool} {n d x y x' y' : Int} (hb : Wsh.redB n d = b) (hx : x' = Wsh.qn b x) (hy : y' = Wsh.qn b y) :
    Ending.returned (.tuple #[.agg #[.int .i64 x', .int .i64 y'], .bool b]) = .returned (frV (Wsh.redB n d) x y) := by rw [hb, hx, hy]
theorem swal {n d : Int} {b : Bool} (h : Wsh.redB n d = b) (hn : 0 ≤ n) (hd : 0 < d) : Wsh.vfB (n / (Int.gcd n d : Int)) (d / (Int.gcd n d : Int)) = b := by
  have := Wsh.vfB_red n d hn hd
  unfold Wsh.rn Wsh.rd at this
  rw [this]; exact h
/-- spec.reduce -/
theorem sred (n d : Int) (w : World) (hn : 0 ≤ n) (hn' : n ≤ 1000000000) (hd : 1 ≤ d) (hd' : d ≤ 100000000) :
    Calls Try.prog 110 #[.int .i64 n, .int .i64 d] w fun e w' => e = .returned (frV (Wsh.redB n d) (Wsh.rn n d) (Wsh.rd n d)) ∧ Below w.heap.size w w' := by
  have hg := Wsh.gcd_pos n d (by omega)
  obtain ⟨b0, b1⟩ := Wsh.rn_le n d (by omega)
  have b2 := Wsh.rd_le n d (by omega)
  have b3 := Wsh.rd_pos n d (by omega)
  unfold Wsh.rn at b0 b1
  unfold Wsh.rd at b2 b3
  have hg0 : ((Int.gcd n d : Int) == 0) = false := by simp; omega
  cases hr : Wsh.redB n d with
  | false =>
    have hv := swal hr hn (by omega)
    clear hr
    go_enter Try.func110, Try.ntmps110
    go_wp2_with fail
    refine (sgcd n d _ (by omega) (by omega) (by omega) (by omega)).mono ?_
    rintro e w' ⟨rfl, rfl⟩
    go_wp2_with fail
    go_region
    all_goals
      go_wp2_with fail
      refine (svalid _ _ _).mono ?_
      rintro e w1 ⟨rfl, hb⟩
      obtain ⟨hc, hf⟩ := bcell hb
      have hB : Below w.heap.size w w1 := bel_tr (by go_grown) hb
      have c0 := hc w.heap.size 0 (by simp; omega)
      have c1 := hc w.heap.size 1 (by simp; omega)
      have c2 := hc (w.heap.size + 1) 0 (by simp)
      have c3 := hc (w.heap.size + 1) 1 (by simp)
      have f0 := hf w.heap.size 0 (by simp; omega)
      have f1 := hf w.heap.size 1 (by simp; omega)
      simp [go_sem] at c0 c1 c2 c3 f0 f1
      clear hc hf hb
      go_wp2_with fail
      refine bodyPost_ret (v := .tuple #[.agg #[.int .i64 0, .int .i64 0], .bool false]) (by simp [results, Try.results110, go_sem, c0, c1]) rfl ⟨rfl, by go_grown⟩
  | true =>
    have hv := swal hr hn (by omega)
    clear hr
    go_enter Try.func110, Try.ntmps110
    go_wp2_with fail
    refine (sgcd n d _ (by omega) (by omega) (by omega) (by omega)).mono ?_
    rintro e w' ⟨rfl, rfl⟩
    go_wp2_with fail
    go_region
    all_goals
      go_wp2_with fail
      refine (svalid _ _ _).mono ?_
      rintro e w1 ⟨rfl, hb⟩
      obtain ⟨hc, hf⟩ := bcell hb
      have hB : Below w.heap.size w w1 := bel_tr (by go_grown) hb
      have c0 := hc w.heap.size 0 (by simp; omega)
      have c1 := hc w.heap.size 1 (by simp; omega)
      have c2 := hc (w.heap.size + 1) 0 (by simp)
      have c3 := hc (w.heap.size + 1) 1 (by simp)
      have f0 := hf w.heap.size 0 (by simp; omega)
      have f1 := hf w.heap.size 1 (by simp; omega)
      simp [go_sem] at c0 c1 c2 c3 f0 f1
      clear hc hf hb
      go_wp2_with fail
      refine bodyPost_ret (v := .tuple #[.agg #[.int .i64 (n / (Int.gcd n d : Int)), .int .i64 (d / (Int.gcd n d : Int))], .bool true]) (by simp [results, Try.results110, go_sem, c0, c1]) rfl ⟨rfl, by go_grown⟩
/-- impl.reduced -/
theorem ired (n d : Int) (w : World) (hd : 1 ≤ d) (hd' : d ≤ 100000000) :
    Calls Try.prog 121 #[.int .i64 n, .int .i64 d] w fun e w' => e = .returned (frV (Wsh.redB n d) (Wsh.rn n d) (Wsh.rd n d)) ∧ Below w.heap.size w w' := by
  by_cases h1 : n < 0
  · go_enter Try.func121, Try.ntmps121
    go_wp2
    go_returns
    exact ⟨ret_frV (Wsh.redB_no (by omega)) rfl rfl, by go_grown⟩
  · by_cases h2 : d < n
    · go_enter Try.func121, Try.ntmps121
      go_wp2
      go_returns
      exact ⟨ret_frV (Wsh.redB_no (by omega)) rfl rfl, by go_grown⟩
    · have hg := Wsh.gcd_pos n d (by omega)
      have hq := Wsh.redB_den (n := n) (d := d) (by omega)
      have HQ := Lib.hid hq
      clear hq
      obtain ⟨b0, b1⟩ := Wsh.rn_bd n d (by omega) (by omega) (by omega)
      have b2 := Wsh.rd_le n d (by omega)
      have b3 := Wsh.rd_pos n d (by omega)
      unfold Wsh.rn at b0 b1
      unfold Wsh.rd at b1 b2 b3
      have hg0 : ((Int.gcd n d : Int) == 0) = false := by simp; omega
      by_cases h3 : 10000 < d / (Int.gcd n d : Int)
      · go_enter Try.func121, Try.ntmps121
        go_wp2_with fail
        refine (igcd n d _ (by omega) (by omega) (by omega) (by omega)).mono ?_
        rintro e w' ⟨rfl, rfl⟩
        go_wp2_with fail
        go_region
        all_goals
          go_wp2
          go_returns
          exact ⟨ret_frV (by rw [HQ.out]; unfold Wsh.rd; simp; omega) rfl rfl, by go_grown⟩
      · go_enter Try.func121, Try.ntmps121
        go_wp2_with fail
        refine (igcd n d _ (by omega) (by omega) (by omega) (by omega)).mono ?_
        rintro e w' ⟨rfl, rfl⟩
        go_wp2_with fail
        go_region
        all_goals
          go_wp2
          go_returns
          exact ⟨ret_frV (by rw [HQ.out]; unfold Wsh.rd; simp; omega) rfl rfl, by go_grown⟩
theorem fr_no1 {va vb r : Bool} {x y : Int} (h : va = false) : Ending.returned (.tuple #[.agg #[.int .i64 0, .int .i64 0], .bool false]) = .returned (frV (va && vb && r) x y) := by rw [h]; rfl
theorem fr_no2 {va vb r : Bool} {x y : Int} (h : vb = false) : Ending.returned (.tuple #[.agg #[.int .i64 0, .int .i64 0], .bool false]) = .returned (frV (va && vb && r) x y) := by rw [h]; cases va <;> rfl
theorem fr_yes {va vb r : Bool} {x y : Int} (ha : va = true) (hb : vb = true) : Ending.returned (frV r x y) = .returned (frV (va && vb && r) x y) := by rw [ha, hb]; rfl
theorem bounds {an ad bn bd : Int} (ha : Wsh.vfB an ad = true) (hb : Wsh.vfB bn bd = true) :
    (0 ≤ an * bd ∧ an * bd ≤ 100000000) ∧ (0 ≤ bn * ad ∧ bn * ad ≤ 100000000) ∧ (1 ≤ ad * bd ∧ ad * bd ≤ 100000000) ∧ (0 ≤ an * bn ∧ an * bn ≤ 100000000) := by
  have ka := (Wsh.vfB_iff _ _).1 ha
  have kb := (Wsh.vfB_iff _ _).1 hb
  exact ⟨Wsh.mul_bd (by omega) (by omega) (by omega) (by omega), Wsh.mul_bd (by omega) (by omega) (by omega) (by omega), ⟨Wsh.mul_pos1 (by omega) (by omega), (Wsh.mul_bd (by omega) (by omega) (by omega) (by omega)).2⟩, Wsh.mul_bd (by omega) (by omega) (by omega) (by omega)⟩
/-- impl.AddFrac -/
theorem iAdd (an ad bn bd : Int) (w : World) :
    Calls Try.prog 63 #[.agg #[.int .i64 an, .int .i64 ad], .agg #[.int .i64 bn, .int .i64 bd]] w fun e w' => e = .returned (frV (Wsh.vfB an ad && Wsh.vfB bn bd && Wsh.redB (an * bd + bn * ad) (ad * bd)) (Wsh.rn (an * bd + bn * ad) (ad * bd)) (Wsh.rd (an * bd + bn * ad) (ad * bd))) ∧ Below w.heap.size w w' := by
  cases ha : Wsh.vfB an ad with
  | false =>
    go_enter Try.func63, Try.ntmps63
    go_wp2_with fail
    refine (iValid an ad _).mono ?_
    rintro e w1 ⟨rfl, hb⟩
    have hB : Below w.heap.size w w1 := bel_tr (by go_grown) hb
    obtain ⟨hc, hf⟩ := bcell hb
    have c0 := hc (w.heap.size) 0 (by simp <;> omega)
    have c1 := hc (w.heap.size) 1 (by simp <;> omega)
    have c2 := hc (w.heap.size + 1) 0 (by simp <;> omega)
    have c3 := hc (w.heap.size + 1) 1 (by simp <;> omega)
    have c4 := hc (w.heap.size + 2) 0 (by simp <;> omega)
    have c5 := hc (w.heap.size + 2) 1 (by simp <;> omega)
    have f0 := hf (w.heap.size + 2) 0 (by simp <;> omega)
    have f1 := hf (w.heap.size + 2) 1 (by simp <;> omega)
    simp [go_sem] at c0 c1 c2 c3 c4 c5 f0 f1
    clear hc hf hb
    go_wp2_with fail
    refine bodyPost_ret (v := .tuple #[.agg #[.int .i64 0, .int .i64 0], .bool false]) (by simp [results, Try.results63, go_sem, c4, c5]) rfl ⟨fr_no1 rfl, by go_grown⟩
  | true =>
    cases hb0 : Wsh.vfB bn bd with
    | false =>
      go_enter Try.func63, Try.ntmps63
      go_wp2_with fail
      refine (iValid an ad _).mono ?_
      rintro e w1 ⟨rfl, hb⟩
      have hB : Below w.heap.size w w1 := bel_tr (by go_grown) hb
      have hz := hb.size
      simp at hz
      obtain ⟨hc, hf⟩ := bcell hb
      have c0 := hc (w.heap.size) 0 (by simp <;> omega)
      have c1 := hc (w.heap.size) 1 (by simp <;> omega)
      have c2 := hc (w.heap.size + 1) 0 (by simp <;> omega)
      have c3 := hc (w.heap.size + 1) 1 (by simp <;> omega)
      have c4 := hc (w.heap.size + 2) 0 (by simp <;> omega)
      have c5 := hc (w.heap.size + 2) 1 (by simp <;> omega)
      have f0 := hf (w.heap.size + 2) 0 (by simp <;> omega)
      have f1 := hf (w.heap.size + 2) 1 (by simp <;> omega)
      simp [go_sem] at c0 c1 c2 c3 c4 c5 f0 f1
      clear hc hf hb
      go_wp2_with fail
      refine (iValid bn bd _).mono ?_
      rintro e w2 ⟨rfl, hb⟩
      have hB2 : Below w.heap.size w w2 := bel_tr hB hb
      obtain ⟨hc, hf⟩ := bcell hb
      have d0 := (hc (w.heap.size) 0 (by omega)).trans c0
      have d1 := (hc (w.heap.size) 1 (by omega)).trans c1
      have d2 := (hc (w.heap.size + 1) 0 (by omega)).trans c2
      have d3 := (hc (w.heap.size + 1) 1 (by omega)).trans c3
      have d4 := (hc (w.heap.size + 2) 0 (by omega)).trans c4
      have d5 := (hc (w.heap.size + 2) 1 (by omega)).trans c5
      have g0 := (hf (w.heap.size + 2) 0 (by omega)).trans f0
      have g1 := (hf (w.heap.size + 2) 1 (by omega)).trans f1
      clear hc hf hb
      go_wp2_with fail
      refine bodyPost_ret (v := .tuple #[.agg #[.int .i64 0, .int .i64 0], .bool false]) (by simp [results, Try.results63, go_sem, d4, d5]) rfl ⟨fr_no2 rfl, by go_grown⟩
    | true =>
      obtain ⟨⟨p1, p2⟩, ⟨p3, p4⟩, ⟨p5, p6⟩, p7, p8⟩ := bounds ha hb0
      go_enter Try.func63, Try.ntmps63
      go_wp2_with fail
      refine (iValid an ad _).mono ?_
      rintro e w1 ⟨rfl, hb⟩
      have hB : Below w.heap.size w w1 := bel_tr (by go_grown) hb
      have hz := hb.size
      simp at hz
      obtain ⟨hc, hf⟩ := bcell hb
      have c0 := hc (w.heap.size) 0 (by simp <;> omega)
      have c1 := hc (w.heap.size) 1 (by simp <;> omega)
      have c2 := hc (w.heap.size + 1) 0 (by simp <;> omega)
      have c3 := hc (w.heap.size + 1) 1 (by simp <;> omega)
      have c4 := hc (w.heap.size + 2) 0 (by simp <;> omega)
      have c5 := hc (w.heap.size + 2) 1 (by simp <;> omega)
      have f0 := hf (w.heap.size + 2) 0 (by simp <;> omega)
      have f1 := hf (w.heap.size + 2) 1 (by simp <;> omega)
      simp [go_sem] at c0 c1 c2 c3 c4 c5 f0 f1
      clear hc hf hb
      go_wp2_with fail
      refine (iValid bn bd _).mono ?_
      rintro e w2 ⟨rfl, hb⟩
      have hB2 : Below w.heap.size w w2 := bel_tr hB hb
      have hz2 := hb.size
      obtain ⟨hc, hf⟩ := bcell hb
      have d0 := (hc (w.heap.size) 0 (by omega)).trans c0
      have d1 := (hc (w.heap.size) 1 (by omega)).trans c1
      have d2 := (hc (w.heap.size + 1) 0 (by omega)).trans c2
      have d3 := (hc (w.heap.size + 1) 1 (by omega)).trans c3
      have d4 := (hc (w.heap.size + 2) 0 (by omega)).trans c4
      have d5 := (hc (w.heap.size + 2) 1 (by omega)).trans c5
      have g0 := (hf (w.heap.size + 2) 0 (by omega)).trans f0
      have g1 := (hf (w.heap.size + 2) 1 (by omega)).trans f1
      clear hc hf hb
      clear c0 c1 c2 c3 c4 c5 f0 f1
      go_wp2_with fail
      refine (ired (an * bd + bn * ad) (ad * bd) _ (by omega) (by omega)).mono ?_
      rintro e w3 ⟨rfl, hb⟩
      have hB3 : Below w.heap.size w w3 := bel_tr hB2 hb
      obtain ⟨hc, hf⟩ := bcell hb
      have c4 := (hc (w.heap.size + 2) 0 (by omega)).trans d4
      have c5 := (hc (w.heap.size + 2) 1 (by omega)).trans d5
      have f0 := (hf (w.heap.size + 2) 0 (by omega)).trans g0
      have f1 := (hf (w.heap.size + 2) 1 (by omega)).trans g1
      clear hc hf hb
      clear d0 d1 d2 d3 d4 d5 g0 g1
      go_wp2_with fail
      refine bodyPost_ret (v := .tuple #[.agg #[.int .i64 (Wsh.qn (Wsh.redB (an * bd + bn * ad) (ad * bd)) (Wsh.rn (an * bd + bn * ad) (ad * bd))), .int .i64 (Wsh.qn (Wsh.redB (an * bd + bn * ad) (ad * bd)) (Wsh.rd (an * bd + bn * ad) (ad * bd)))], .bool (Wsh.redB (an * bd + bn * ad) (ad * bd))]) (by simp [results, Try.results63, go_sem, c4, c5]) rfl ⟨fr_yes rfl rfl, by go_grown⟩
/-- impl.SubFrac -/
theorem iSub (an ad bn bd : Int) (w : World) :
    Calls Try.prog 176 #[.agg #[.int .i64 an, .int .i64 ad], .agg #[.int .i64 bn, .int .i64 bd]] w fun e w' => e = .returned (frV (Wsh.vfB an ad && Wsh.vfB bn bd && Wsh.redB (an * bd - bn * ad) (ad * bd)) (Wsh.rn (an * bd - bn * ad) (ad * bd)) (Wsh.rd (an * bd - bn * ad) (ad * bd))) ∧ Below w.heap.size w w' := by
  cases ha : Wsh.vfB an ad with
  | false =>
    go_enter Try.func176, Try.ntmps176
    go_wp2_with fail
    refine (iValid an ad _).mono ?_
    rintro e w1 ⟨rfl, hb⟩
    have hB : Below w.heap.size w w1 := bel_tr (by go_grown) hb
    obtain ⟨hc, hf⟩ := bcell hb
    have c0 := hc (w.heap.size) 0 (by simp <;> omega)
    have c1 := hc (w.heap.size) 1 (by simp <;> omega)
    have c2 := hc (w.heap.size + 1) 0 (by simp <;> omega)
    have c3 := hc (w.heap.size + 1) 1 (by simp <;> omega)
    have c4 := hc (w.heap.size + 2) 0 (by simp <;> omega)
    have c5 := hc (w.heap.size + 2) 1 (by simp <;> omega)
    have f0 := hf (w.heap.size + 2) 0 (by simp <;> omega)
    have f1 := hf (w.heap.size + 2) 1 (by simp <;> omega)
    simp [go_sem] at c0 c1 c2 c3 c4 c5 f0 f1
    clear hc hf hb
    go_wp2_with fail
    refine bodyPost_ret (v := .tuple #[.agg #[.int .i64 0, .int .i64 0], .bool false]) (by simp [results, Try.results176, go_sem, c4, c5]) rfl ⟨fr_no1 rfl, by go_grown⟩
  | true =>
    cases hb0 : Wsh.vfB bn bd with
    | false =>
      go_enter Try.func176, Try.ntmps176
      go_wp2_with fail
      refine (iValid an ad _).mono ?_
      rintro e w1 ⟨rfl, hb⟩
      have hB : Below w.heap.size w w1 := bel_tr (by go_grown) hb
      have hz := hb.size
      simp at hz
      obtain ⟨hc, hf⟩ := bcell hb
      have c0 := hc (w.heap.size) 0 (by simp <;> omega)
      have c1 := hc (w.heap.size) 1 (by simp <;> omega)
      have c2 := hc (w.heap.size + 1) 0 (by simp <;> omega)
      have c3 := hc (w.heap.size + 1) 1 (by simp <;> omega)
      have c4 := hc (w.heap.size + 2) 0 (by simp <;> omega)
      have c5 := hc (w.heap.size + 2) 1 (by simp <;> omega)
      have f0 := hf (w.heap.size + 2) 0 (by simp <;> omega)
      have f1 := hf (w.heap.size + 2) 1 (by simp <;> omega)
      simp [go_sem] at c0 c1 c2 c3 c4 c5 f0 f1
      clear hc hf hb
      go_wp2_with fail
      refine (iValid bn bd _).mono ?_
      rintro e w2 ⟨rfl, hb⟩
      have hB2 : Below w.heap.size w w2 := bel_tr hB hb
      obtain ⟨hc, hf⟩ := bcell hb
      have d0 := (hc (w.heap.size) 0 (by omega)).trans c0
      have d1 := (hc (w.heap.size) 1 (by omega)).trans c1
      have d2 := (hc (w.heap.size + 1) 0 (by omega)).trans c2
      have d3 := (hc (w.heap.size + 1) 1 (by omega)).trans c3
      have d4 := (hc (w.heap.size + 2) 0 (by omega)).trans c4
      have d5 := (hc (w.heap.size + 2) 1 (by omega)).trans c5
      have g0 := (hf (w.heap.size + 2) 0 (by omega)).trans f0
      have g1 := (hf (w.heap.size + 2) 1 (by omega)).trans f1
      clear hc hf hb
      go_wp2_with fail
      refine bodyPost_ret (v := .tuple #[.agg #[.int .i64 0, .int .i64 0], .bool false]) (by simp [results, Try.results176, go_sem, d4, d5]) rfl ⟨fr_no2 rfl, by go_grown⟩
    | true =>
      obtain ⟨⟨p1, p2⟩, ⟨p3, p4⟩, ⟨p5, p6⟩, p7, p8⟩ := bounds ha hb0
      go_enter Try.func176, Try.ntmps176
      go_wp2_with fail
      refine (iValid an ad _).mono ?_
      rintro e w1 ⟨rfl, hb⟩
      have hB : Below w.heap.size w w1 := bel_tr (by go_grown) hb
      have hz := hb.size
      simp at hz
      obtain ⟨hc, hf⟩ := bcell hb
      have c0 := hc (w.heap.size) 0 (by simp <;> omega)
      have c1 := hc (w.heap.size) 1 (by simp <;> omega)
      have c2 := hc (w.heap.size + 1) 0 (by simp <;> omega)
      have c3 := hc (w.heap.size + 1) 1 (by simp <;> omega)
      have c4 := hc (w.heap.size + 2) 0 (by simp <;> omega)
      have c5 := hc (w.heap.size + 2) 1 (by simp <;> omega)
      have f0 := hf (w.heap.size + 2) 0 (by simp <;> omega)
      have f1 := hf (w.heap.size + 2) 1 (by simp <;> omega)
      simp [go_sem] at c0 c1 c2 c3 c4 c5 f0 f1
      clear hc hf hb
      go_wp2_with fail
      refine (iValid bn bd _).mono ?_
      rintro e w2 ⟨rfl, hb⟩
      have hB2 : Below w.heap.size w w2 := bel_tr hB hb
      have hz2 := hb.size
      obtain ⟨hc, hf⟩ := bcell hb
      have d0 := (hc (w.heap.size) 0 (by omega)).trans c0
      have d1 := (hc (w.heap.size) 1 (by omega)).trans c1
      have d2 := (hc (w.heap.size + 1) 0 (by omega)).trans c2
      have d3 := (hc (w.heap.size + 1) 1 (by omega)).trans c3
      have d4 := (hc (w.heap.size + 2) 0 (by omega)).trans c4
      have d5 := (hc (w.heap.size + 2) 1 (by omega)).trans c5
      have g0 := (hf (w.heap.size + 2) 0 (by omega)).trans f0
      have g1 := (hf (w.heap.size + 2) 1 (by omega)).trans f1
      clear hc hf hb
      clear c0 c1 c2 c3 c4 c5 f0 f1
      go_wp2_with fail
      refine (ired (an * bd - bn * ad) (ad * bd) _ (by omega) (by omega)).mono ?_
      rintro e w3 ⟨rfl, hb⟩
      have hB3 : Below w.heap.size w w3 := bel_tr hB2 hb
      obtain ⟨hc, hf⟩ := bcell hb
      have c4 := (hc (w.heap.size + 2) 0 (by omega)).trans d4
      have c5 := (hc (w.heap.size + 2) 1 (by omega)).trans d5
      have f0 := (hf (w.heap.size + 2) 0 (by omega)).trans g0
      have f1 := (hf (w.heap.size + 2) 1 (by omega)).trans g1
      clear hc hf hb
      clear d0 d1 d2 d3 d4 d5 g0 g1
      go_wp2_with fail
      refine bodyPost_ret (v := .tuple #[.agg #[.int .i64 (Wsh.qn (Wsh.redB (an * bd - bn * ad) (ad * bd)) (Wsh.rn (an * bd - bn * ad) (ad * bd))), .int .i64 (Wsh.qn (Wsh.redB (an * bd - bn * ad) (ad * bd)) (Wsh.rd (an * bd - bn * ad) (ad * bd)))], .bool (Wsh.redB (an * bd - bn * ad) (ad * bd))]) (by simp [results, Try.results176, go_sem, c4, c5]) rfl ⟨fr_yes rfl rfl, by go_grown⟩
/-- spec.compareFrac -/
theorem scompare (an ad bn bd : Int) (w : World) (ha : Wsh.vfB an ad = true) (hb : Wsh.vfB bn bd = true) :
    Calls Try.prog 125 #[.agg #[.int .i64 an, .int .i64 ad], .agg #[.int .i64 bn, .int .i64 bd]] w fun e w' => e = .returned (.int .i64 (Wsh.cmpI (an * bd) (bn * ad))) ∧ Below w.heap.size w w' := by
  obtain ⟨⟨p1, p2⟩, ⟨p3, p4⟩, ⟨p5, p6⟩, p7, p8⟩ := bounds ha hb
  clear ha hb
  by_cases h1 : an * bd < bn * ad
  · go_enter Try.func125, Try.ntmps125
    go_wp2
    go_ret
    exact ⟨ret_int (Wsh.cmpI_lt h1).symm, by go_grown⟩
  · by_cases h2 : bn * ad < an * bd
    · go_enter Try.func125, Try.ntmps125
      go_wp2
      go_ret
      exact ⟨ret_int (Wsh.cmpI_gt h2).symm, by go_grown⟩
    · go_enter Try.func125, Try.ntmps125
      go_wp2
      go_ret
      exact ⟨ret_int (Wsh.cmpI_eq (by omega)).symm, by go_grown⟩
/-- spec.addFrac -/
theorem sadd (an ad bn bd : Int) (w : World) (ha : Wsh.vfB an ad = true) (hb : Wsh.vfB bn bd = true) :
    Calls Try.prog 124 #[.agg #[.int .i64 an, .int .i64 ad], .agg #[.int .i64 bn, .int .i64 bd]] w fun e w' => e = .returned (frV (Wsh.redB (an * bd + bn * ad) (ad * bd)) (Wsh.rn (an * bd + bn * ad) (ad * bd)) (Wsh.rd (an * bd + bn * ad) (ad * bd))) ∧ Below w.heap.size w w' := by
  obtain ⟨⟨p1, p2⟩, ⟨p3, p4⟩, ⟨p5, p6⟩, p7, p8⟩ := bounds ha hb
  clear ha hb
  go_enter Try.func124, Try.ntmps124
  go_wp2_with fail
  refine (sred (an * bd + bn * ad) (ad * bd) _ (by omega) (by omega) (by omega) (by omega)).mono ?_
  rintro e w1 ⟨rfl, hb⟩
  have hB : Below w.heap.size w w1 := bel_tr (by go_grown) hb
  obtain ⟨hc, hf⟩ := bcell hb
  have c0 := hc (w.heap.size + 2) 0 (by simp <;> omega)
  have c1 := hc (w.heap.size + 2) 1 (by simp <;> omega)
  have f0 := hf (w.heap.size + 2) 0 (by simp <;> omega)
  have f1 := hf (w.heap.size + 2) 1 (by simp <;> omega)
  simp [go_sem] at c0 c1 f0 f1
  clear hc hf hb
  go_wp2_with fail
  refine bodyPost_ret (v := .tuple #[.agg #[.int .i64 (Wsh.qn (Wsh.redB (an * bd + bn * ad) (ad * bd)) (Wsh.rn (an * bd + bn * ad) (ad * bd))), .int .i64 (Wsh.qn (Wsh.redB (an * bd + bn * ad) (ad * bd)) (Wsh.rd (an * bd + bn * ad) (ad * bd)))], .bool (Wsh.redB (an * bd + bn * ad) (ad * bd))]) (by simp [results, Try.results124, go_sem, c0, c1]) rfl ⟨rfl, by go_grown⟩
/-- spec.subFrac -/
theorem ssub (an ad bn bd : Int) (w : World) (ha : Wsh.vfB an ad = true) (hb : Wsh.vfB bn bd = true) :
    Calls Try.prog 160 #[.agg #[.int .i64 an, .int .i64 ad], .agg #[.int .i64 bn, .int .i64 bd]] w fun e w' => e = .returned (frV (Wsh.redB (an * bd - bn * ad) (ad * bd)) (Wsh.rn (an * bd - bn * ad) (ad * bd)) (Wsh.rd (an * bd - bn * ad) (ad * bd))) ∧ Below w.heap.size w w' := by
  obtain ⟨⟨p1, p2⟩, ⟨p3, p4⟩, ⟨p5, p6⟩, p7, p8⟩ := bounds ha hb
  by_cases h1 : an * bd < bn * ad
  · have hm : Wsh.cmpI (an * bd) (bn * ad) < 0 := by rw [Wsh.cmpI_lt h1]; decide
    go_enter Try.func160, Try.ntmps160
    go_wp2_with fail
    refine (scompare an ad bn bd _ ha hb).mono ?_
    rintro e w1 ⟨rfl, hb⟩
    have hB : Below w.heap.size w w1 := bel_tr (by go_grown) hb
    obtain ⟨hc, hf⟩ := bcell hb
    have c0 := hc (w.heap.size + 2) 0 (by simp <;> omega)
    have c1 := hc (w.heap.size + 2) 1 (by simp <;> omega)
    have f0 := hf (w.heap.size + 2) 0 (by simp <;> omega)
    have f1 := hf (w.heap.size + 2) 1 (by simp <;> omega)
    simp [go_sem] at c0 c1 f0 f1
    clear hc hf hb
    go_wp2_with fail
    refine bodyPost_ret (v := .tuple #[.agg #[.int .i64 0, .int .i64 0], .bool false]) (by simp [results, Try.results160, go_sem, c0, c1]) rfl ⟨ret_frV (Wsh.redB_no (by omega)) rfl rfl, by go_grown⟩
  · have hm : ¬ Wsh.cmpI (an * bd) (bn * ad) < 0 := by rw [Wsh.cmpI_nlt h1]; simp
    go_enter Try.func160, Try.ntmps160
    go_wp2_with fail
    refine (scompare an ad bn bd _ ha hb).mono ?_
    rintro e w1 ⟨rfl, hb⟩
    have hB : Below w.heap.size w w1 := bel_tr (by go_grown) hb
    have hz := hb.size
    simp at hz
    obtain ⟨hc, hf⟩ := bcell hb
    have c0 := hc (w.heap.size) 0 (by simp <;> omega)
    have c1 := hc (w.heap.size) 1 (by simp <;> omega)
    have c2 := hc (w.heap.size + 1) 0 (by simp <;> omega)
    have c3 := hc (w.heap.size + 1) 1 (by simp <;> omega)
    have c4 := hc (w.heap.size + 2) 0 (by simp <;> omega)
    have c5 := hc (w.heap.size + 2) 1 (by simp <;> omega)
    have f0 := hf (w.heap.size + 2) 0 (by simp <;> omega)
    have f1 := hf (w.heap.size + 2) 1 (by simp <;> omega)
    simp [go_sem] at c0 c1 c2 c3 c4 c5 f0 f1
    clear hc hf hb
    go_wp2_with fail
    refine (sred (an * bd - bn * ad) (ad * bd) _ (by omega) (by omega) (by omega) (by omega)).mono ?_
    rintro e w2 ⟨rfl, hb⟩
    have hB2 : Below w.heap.size w w2 := bel_tr hB hb
    obtain ⟨hc, hf⟩ := bcell hb
    have d4 := (hc (w.heap.size + 2) 0 (by omega)).trans c4
    have d5 := (hc (w.heap.size + 2) 1 (by omega)).trans c5
    have g0 := (hf (w.heap.size + 2) 0 (by omega)).trans f0
    have g1 := (hf (w.heap.size + 2) 1 (by omega)).trans f1
    clear hc hf hb
    clear c0 c1 c2 c3 c4 c5 f0 f1
    go_wp2_with fail
    refine bodyPost_ret (v := .tuple #[.agg #[.int .i64 (Wsh.qn (Wsh.redB (an * bd - bn * ad) (ad * bd)) (Wsh.rn (an * bd - bn * ad) (ad * bd))), .int .i64 (Wsh.qn (Wsh.redB (an * bd - bn * ad) (ad * bd)) (Wsh.rd (an * bd - bn * ad) (ad * bd)))], .bool (Wsh.redB (an * bd - bn * ad) (ad * bd))]) (by simp [results, Try.results160, go_sem, d4, d5]) rfl ⟨rfl, by go_grown⟩
/-- impl.CompareFrac -/
theorem iCompare (an ad bn bd : Int) (w : World) :
    Calls Try.prog 67 #[.agg #[.int .i64 an, .int .i64 ad], .agg #[.int .i64 bn, .int .i64 bd]] w fun e w' => e = .returned (.int .i64 (Wsh.cmpF an ad bn bd)) ∧ Below w.heap.size w w' := by
  cases ha : Wsh.vfB an ad with
  | false =>
    have hq := Wsh.cmpF_no1 bn bd ha
    have HQ := Lib.hid hq
    clear hq
    go_enter Try.func67, Try.ntmps67
    go_wp2_with fail
    refine (iValid an ad _).mono ?_
    rintro e w1 ⟨rfl, hb⟩
    have hB : Below w.heap.size w w1 := bel_tr (by go_grown) hb
    go_wp2_with fail
    go_ret
    exact ⟨ret_int HQ.out.symm, hB⟩
  | true =>
    cases hb0 : Wsh.vfB bn bd with
    | false =>
      have hq := Wsh.cmpF_no2 an ad hb0
      have HQ := Lib.hid hq
      clear hq
      go_enter Try.func67, Try.ntmps67
      go_wp2_with fail
      refine (iValid an ad _).mono ?_
      rintro e w1 ⟨rfl, hb⟩
      have hB : Below w.heap.size w w1 := bel_tr (by go_grown) hb
      have hz := hb.size
      simp at hz
      obtain ⟨hc, hf⟩ := bcell hb
      have c0 := hc (w.heap.size) 0 (by simp <;> omega)
      have c1 := hc (w.heap.size) 1 (by simp <;> omega)
      have c2 := hc (w.heap.size + 1) 0 (by simp <;> omega)
      have c3 := hc (w.heap.size + 1) 1 (by simp <;> omega)
      simp [go_sem] at c0 c1 c2 c3
      clear hc hf hb
      go_wp2_with fail
      refine (iValid bn bd _).mono ?_
      rintro e w2 ⟨rfl, hb⟩
      have hB2 : Below w.heap.size w w2 := bel_tr hB hb
      clear hb
      go_wp2_with fail
      go_ret
      exact ⟨ret_int HQ.out.symm, hB2⟩
    | true =>
      obtain ⟨⟨p1, p2⟩, ⟨p3, p4⟩, ⟨p5, p6⟩, p7, p8⟩ := bounds ha hb0
      have hq := Wsh.cmpF_yes ha hb0
      have HQ := Lib.hid hq
      clear hq
      by_cases h1 : an * bd < bn * ad
      · go_enter Try.func67, Try.ntmps67
        go_wp2_with fail
        refine (iValid an ad _).mono ?_
        rintro e w1 ⟨rfl, hb⟩
        have hB : Below w.heap.size w w1 := bel_tr (by go_grown) hb
        have hz := hb.size
        simp at hz
        obtain ⟨hc, hf⟩ := bcell hb
        have c0 := hc (w.heap.size) 0 (by simp <;> omega)
        have c1 := hc (w.heap.size) 1 (by simp <;> omega)
        have c2 := hc (w.heap.size + 1) 0 (by simp <;> omega)
        have c3 := hc (w.heap.size + 1) 1 (by simp <;> omega)
        simp [go_sem] at c0 c1 c2 c3
        clear hc hf hb
        go_wp2_with fail
        refine (iValid bn bd _).mono ?_
        rintro e w2 ⟨rfl, hb⟩
        have hB2 : Below w.heap.size w w2 := bel_tr hB hb
        have hz2 := hb.size
        obtain ⟨hc, hf⟩ := bcell hb
        have d0 := (hc w.heap.size 0 (by omega)).trans c0
        have d1 := (hc w.heap.size 1 (by omega)).trans c1
        have d2 := (hc (w.heap.size + 1) 0 (by omega)).trans c2
        have d3 := (hc (w.heap.size + 1) 1 (by omega)).trans c3
        clear hc hf hb c0 c1 c2 c3
        go_wp2_with fail
        go_ret
        exact ⟨ret_int (by rw [HQ.out]; exact (Wsh.cmpI_lt h1).symm), hB2⟩
      · by_cases h2 : bn * ad < an * bd
        · go_enter Try.func67, Try.ntmps67
          go_wp2_with fail
          refine (iValid an ad _).mono ?_
          rintro e w1 ⟨rfl, hb⟩
          have hB : Below w.heap.size w w1 := bel_tr (by go_grown) hb
          have hz := hb.size
          simp at hz
          obtain ⟨hc, hf⟩ := bcell hb
          have c0 := hc (w.heap.size) 0 (by simp <;> omega)
          have c1 := hc (w.heap.size) 1 (by simp <;> omega)
          have c2 := hc (w.heap.size + 1) 0 (by simp <;> omega)
          have c3 := hc (w.heap.size + 1) 1 (by simp <;> omega)
          simp [go_sem] at c0 c1 c2 c3
          clear hc hf hb
          go_wp2_with fail
          refine (iValid bn bd _).mono ?_
          rintro e w2 ⟨rfl, hb⟩
          have hB2 : Below w.heap.size w w2 := bel_tr hB hb
          have hz2 := hb.size
          obtain ⟨hc, hf⟩ := bcell hb
          have d0 := (hc w.heap.size 0 (by omega)).trans c0
          have d1 := (hc w.heap.size 1 (by omega)).trans c1
          have d2 := (hc (w.heap.size + 1) 0 (by omega)).trans c2
          have d3 := (hc (w.heap.size + 1) 1 (by omega)).trans c3
          clear hc hf hb c0 c1 c2 c3
          go_wp2_with fail
          go_ret
          exact ⟨ret_int (by rw [HQ.out]; exact (Wsh.cmpI_gt h2).symm), hB2⟩
        · go_enter Try.func67, Try.ntmps67
          go_wp2_with fail
          refine (iValid an ad _).mono ?_
          rintro e w1 ⟨rfl, hb⟩
          have hB : Below w.heap.size w w1 := bel_tr (by go_grown) hb
          have hz := hb.size
          simp at hz
          obtain ⟨hc, hf⟩ := bcell hb
          have c0 := hc (w.heap.size) 0 (by simp <;> omega)
          have c1 := hc (w.heap.size) 1 (by simp <;> omega)
          have c2 := hc (w.heap.size + 1) 0 (by simp <;> omega)
          have c3 := hc (w.heap.size + 1) 1 (by simp <;> omega)
          simp [go_sem] at c0 c1 c2 c3
          clear hc hf hb
          go_wp2_with fail
          refine (iValid bn bd _).mono ?_
          rintro e w2 ⟨rfl, hb⟩
          have hB2 : Below w.heap.size w w2 := bel_tr hB hb
          have hz2 := hb.size
          obtain ⟨hc, hf⟩ := bcell hb
          have d0 := (hc w.heap.size 0 (by omega)).trans c0
          have d1 := (hc w.heap.size 1 (by omega)).trans c1
          have d2 := (hc (w.heap.size + 1) 0 (by omega)).trans c2
          have d3 := (hc (w.heap.size + 1) 1 (by omega)).trans c3
          clear hc hf hb c0 c1 c2 c3
          go_wp2_with fail
          go_ret
          exact ⟨ret_int (by rw [HQ.out]; exact (Wsh.cmpI_eq (by omega)).symm), hB2⟩
abbrev Led := List (Int × Rat)
/-- the share of an owner, 0 if there is none -/
def shareL : Led → Int → Rat
  | [], _ => 0
  | h :: t, o => if h.1 = o then h.2 else shareL t o
def Asc (L : Led) : Prop := L.Pairwise (fun a b => a.1 < b.1)
/-- shares are greater than 0 -/
def Pos (L : Led) : Prop := ∀ h ∈ L, 0 < h.2
/-- what the first holdings give when a share is set, and whether it has been placed -/
def setP (o : Int) (q : Rat) : Bool → Led → Led × Bool
  | d, [] => ([], d)
  | d, h :: t => ((if !d && decide (o ≤ h.1) then [(o, q)] else []) ++ (if h.1 ≠ o then [h] else []) ++ (setP o q (d || decide (o ≤ h.1)) t).1, (setP o q (d || decide (o ≤ h.1)) t).2)
/-- another share for an owner -/
def setL (L : Led) (o : Int) (q : Rat) : Led := (setP o q (decide (q = 0)) L).1 ++ (if (setP o q (decide (q = 0)) L).2 then [] else [(o, q)])
theorem setP_append (o : Int) (q : Rat) : ∀ (A B : Led) (d : Bool), setP o q d (A ++ B) = ((setP o q d A).1 ++ (setP o q (setP o q d A).2 B).1, (setP o q (setP o q d A).2 B).2) := by
  intro A
  induction A with
  | nil => intro B d; simp [setP]
  | cons h t ih => intro B d; simp only [List.cons_append, setP, ih, List.append_assoc]
/-- once it is placed, the holding of the owner is left out -/
theorem setP_done (o : Int) (q : Rat) : ∀ L : Led, setP o q true L = (L.filter (fun h => decide (h.1 ≠ o)), true) := by
  intro L
  induction L with
  | nil => rfl
  | cons h t ih =>
    simp only [setP, Bool.true_or, Bool.not_true, Bool.false_and, ih]
    by_cases e : h.1 = o
    · simp [e]
    · simp [e]
theorem share_mem {L : Led} {o : Int} (h : shareL L o ≠ 0) : ∃ x ∈ L, x.1 = o ∧ x.2 = shareL L o := by
  induction L with
  | nil => exact absurd rfl h
  | cons x t ih =>
    by_cases e : x.1 = o
    · exact ⟨x, by simp, e, by show x.2 = (if x.1 = o then x.2 else shareL t o); rw [if_pos e]⟩
    · have e2 : shareL (x :: t) o = shareL t o := by show (if x.1 = o then x.2 else shareL t o) = _; rw [if_neg e]
      rw [e2] at h ⊢
      obtain ⟨y, hy, h1, h2⟩ := ih h
      exact ⟨y, by simp [hy], h1, h2⟩
theorem share_filter (L : Led) (o p : Int) : shareL (L.filter (fun h => decide (h.1 ≠ o))) p = if p = o then 0 else shareL L p := by
  induction L with
  | nil => show (0 : Rat) = _; split <;> rfl
  | cons h t ih =>
    by_cases e : h.1 = o
    · rw [List.filter_cons_of_neg (by simp [e]), ih]
      split
      · rfl
      · next n => show _ = (if h.1 = p then h.2 else shareL t p); rw [if_neg (by omega)]
    · rw [List.filter_cons_of_pos (by simp [e])]
      show (if h.1 = p then h.2 else shareL _ p) = _
      rw [ih]
      by_cases ep : h.1 = p
      · rw [if_pos ep, if_neg (by omega)]; show _ = (if h.1 = p then h.2 else shareL t p); rw [if_pos ep]
      · rw [if_neg ep]
        split
        · rfl
        · show _ = (if h.1 = p then h.2 else shareL t p); rw [if_neg ep]
/-- as a list: the share is placed ahead of the first greater owner -/
theorem setL_zero (L : Led) (o : Int) : setL L o 0 = L.filter (fun h => decide (h.1 ≠ o)) := by
  unfold setL
  rw [show decide ((0 : Rat) = 0) = true from by decide, setP_done]; simp
def insL (o : Int) (q : Rat) : Led → Led
  | [] => [(o, q)]
  | h :: t => if o ≤ h.1 then (o, q) :: (h :: t).filter (fun h => decide (h.1 ≠ o)) else h :: insL o q t
theorem setL_ins {q : Rat} (hq : q ≠ 0) (L : Led) (o : Int) : setL L o q = insL o q L := by
  unfold setL
  rw [decide_eq_false hq]
  induction L with
  | nil => rfl
  | cons h t ih =>
    show _ = if o ≤ h.1 then _ else _
    by_cases e : o ≤ h.1
    · rw [if_pos e]
      simp only [setP, Bool.not_false, Bool.true_and, decide_eq_true e, Bool.false_or, setP_done]
      by_cases e2 : h.1 = o
      · simp [e2]
      · simp [e2]
    · rw [if_neg e]
      simp only [setP, Bool.not_false, Bool.true_and, decide_eq_false e, Bool.false_or]
      rw [← ih]
      have : h.1 ≠ o := by omega
      simp [this]
theorem ins_share {L : Led} (ha : Asc L) (o : Int) (q : Rat) (p : Int) : shareL (insL o q L) p = if p = o then q else shareL L p := by
  induction L with
  | nil =>
    show (if o = p then q else 0) = (if p = o then q else 0)
    by_cases e : p = o
    · rw [if_pos e, if_pos e.symm]
    · rw [if_neg e, if_neg (fun c => e c.symm)]
  | cons h t ih =>
    have h1 := List.pairwise_cons.1 ha
    show shareL (if o ≤ h.1 then _ else _) p = _
    by_cases e : o ≤ h.1
    · rw [if_pos e]
      show (if o = p then q else shareL _ p) = _
      rw [share_filter]
      by_cases ep : p = o
      · rw [if_pos ep.symm, if_pos ep]
      · rw [if_neg (fun c => ep c.symm), if_neg ep, if_neg ep]
    · rw [if_neg e]
      show (if h.1 = p then h.2 else shareL (insL o q t) p) = _
      rw [ih h1.2]
      by_cases ep : h.1 = p
      · rw [if_pos ep, if_neg (by omega)]; show _ = (if h.1 = p then h.2 else shareL t p); rw [if_pos ep]
      · rw [if_neg ep]
        split
        · rfl
        · show _ = (if h.1 = p then h.2 else shareL t p); rw [if_neg ep]
theorem share_set {L : Led} (ha : Asc L) (o : Int) (q : Rat) (p : Int) : shareL (setL L o q) p = if p = o then q else shareL L p := by
  by_cases hq : q = 0
  · subst hq; rw [setL_zero, share_filter]
  · rw [setL_ins hq, ins_share ha]
theorem asc_filter {L : Led} (ha : Asc L) (f : Int × Rat → Bool) : Asc (L.filter f) := List.Pairwise.filter f ha
theorem ins_mem {o : Int} {q : Rat} : ∀ {L : Led} {x : Int × Rat}, x ∈ insL o q L → x = (o, q) ∨ x ∈ L := by
  intro L
  induction L with
  | nil => intro x hx; left; simpa [insL] using hx
  | cons h t ih =>
    intro x hx
    unfold insL at hx
    split at hx
    · rcases List.mem_cons.1 hx with hx | hx
      · exact .inl hx
      · exact .inr (List.mem_filter.1 hx).1
    · rcases List.mem_cons.1 hx with hx | hx
      · exact .inr (by simp [hx])
      · rcases ih hx with h | h
        · exact .inl h
        · exact .inr (by simp [h])
theorem asc_ins {L : Led} (ha : Asc L) (o : Int) (q : Rat) : Asc (insL o q L) := by
  induction L with
  | nil => exact List.pairwise_singleton _ _
  | cons h t ih =>
    have h1 := List.pairwise_cons.1 ha
    unfold insL
    split
    · next e =>
      refine List.pairwise_cons.2 ⟨fun x hx => ?_, asc_filter ha _⟩
      have hm := List.mem_filter.1 hx
      have hne : x.1 ≠ o := by simpa using hm.2
      have hle : h.1 ≤ x.1 := by
        rcases List.mem_cons.1 hm.1 with rfl | hx
        · exact Int.le_refl _
        · exact Int.le_of_lt (h1.1 x hx)
      show o < x.1
      omega
    · next e =>
      refine List.pairwise_cons.2 ⟨fun x hx => ?_, ih h1.2⟩
      rcases ins_mem hx with rfl | hx
      · show h.1 < o; omega
      · exact h1.1 x hx
theorem asc_set {L : Led} (ha : Asc L) (o : Int) (q : Rat) : Asc (setL L o q) := by
  by_cases hq : q = 0
  · subst hq; rw [setL_zero]; exact asc_filter ha _
  · rw [setL_ins hq]; exact asc_ins ha o q
/-- a rational number that is a valid fraction -/
def frB (q : Rat) : Bool := decide (0 ≤ q.num) && decide (q.num ≤ (q.den : Int)) && decide ((q.den : Int) ≤ 10000)
theorem frB_iff (q : Rat) : frB q = true ↔ 0 ≤ q.num ∧ q.num ≤ (q.den : Int) ∧ (q.den : Int) ≤ 10000 := by unfold frB; simp [and_assoc]
theorem den_pos (q : Rat) : 1 ≤ (q.den : Int) := by have := q.den_pos; omega
theorem q_mk (q : Rat) : Rat.divInt q.num q.den = q := Rat.num_divInt_den q
theorem rn_q {n d : Int} (h : 0 < d) : Wsh.rn n d = (Rat.divInt n d).num := by
  rw [Rat.num_divInt, Int.sign_eq_one_of_pos h, Int.one_mul, Int.gcd_comm]; rfl
theorem rd_q {n d : Int} (h : 0 < d) : Wsh.rd n d = ((Rat.divInt n d).den : Int) := by
  rw [Rat.den_divInt, if_neg (by omega)]
  unfold Wsh.rd
  rw [Int.gcd_comm]
  have : (d.natAbs : Int) = d := Int.natAbs_of_nonneg (by omega)
  rw [Int.natCast_ediv, this]
theorem redB_q {n d : Int} (h : 0 < d) : Wsh.redB n d = frB (Rat.divInt n d) := by
  have g := Wsh.gcd_pos n d h
  have e1 := Wsh.rn_mul n d
  have e2 := Wsh.rd_mul n d
  unfold frB Wsh.redB
  rw [← rn_q h, ← rd_q h]
  have a1 : 0 ≤ n ↔ 0 ≤ Wsh.rn n d := by
    constructor
    · intro hn; exact (Wsh.rn_le n d hn).1
    · intro hn; rw [← e1]; exact Int.mul_nonneg hn (by omega)
  have a2 : n ≤ d ↔ Wsh.rn n d ≤ Wsh.rd n d := by
    constructor
    · intro hn
      have : Wsh.rn n d * (Int.gcd n d : Int) ≤ Wsh.rd n d * (Int.gcd n d : Int) := by rw [e1, e2]; exact hn
      exact Int.le_of_mul_le_mul_right this g
    · intro hn
      have := Int.mul_le_mul_of_nonneg_right hn (Int.le_of_lt g)
      rw [e1, e2] at this; exact this
  rw [decide_eq_decide.2 a1, decide_eq_decide.2 a2]
theorem vf_q {n d : Int} (h : Wsh.vfB n d = true) : (Rat.divInt n d).num = n ∧ ((Rat.divInt n d).den : Int) = d ∧ frB (Rat.divInt n d) = true := by
  have hd := ((Wsh.vfB_iff n d).1 h).1
  obtain ⟨a, b, c⟩ := Wsh.red_self n d h
  rw [rn_q (by omega)] at a
  rw [rd_q (by omega)] at b
  rw [redB_q (by omega)] at c
  exact ⟨a, b, c⟩
theorem gcd_q (q : Rat) : Int.gcd q.num q.den = 1 := by
  have := q.reduced
  unfold Int.gcd
  simpa [Nat.Coprime] using this
theorem q_vf {q : Rat} (h : frB q = true) : Wsh.vfB q.num q.den = true := by
  rw [frB_iff] at h
  rw [Wsh.vfB_iff]
  exact ⟨den_pos q, h.2.2, h.1, h.2.1, gcd_q q⟩
theorem mul_dpos (p q : Rat) : 0 < (p.den : Int) * (q.den : Int) := Int.mul_pos (by have := den_pos p; omega) (by have := den_pos q; omega)
theorem add_q (p q : Rat) : Rat.divInt (p.num * q.den + q.num * p.den) (p.den * q.den) = p + q := by
  conv => rhs; rw [← q_mk p, ← q_mk q]
  rw [Rat.divInt_add_divInt _ _ (by have := den_pos p; omega) (by have := den_pos q; omega)]
theorem sub_q (p q : Rat) : Rat.divInt (p.num * q.den - q.num * p.den) (p.den * q.den) = p - q := by
  conv => rhs; rw [← q_mk p, ← q_mk q]
  rw [Rat.divInt_sub_divInt _ _ (by have := den_pos p; omega) (by have := den_pos q; omega)]
/-- a sum of fractions as the program makes it -/
theorem add_red (p q : Rat) : Wsh.redB (p.num * q.den + q.num * p.den) (p.den * q.den) = frB (p + q) ∧ Wsh.rn (p.num * q.den + q.num * p.den) (p.den * q.den) = (p + q).num ∧ Wsh.rd (p.num * q.den + q.num * p.den) (p.den * q.den) = ((p + q).den : Int) := by
  rw [redB_q (mul_dpos p q), rn_q (mul_dpos p q), rd_q (mul_dpos p q), add_q]; exact ⟨rfl, rfl, rfl⟩
theorem sub_red (p q : Rat) : Wsh.redB (p.num * q.den - q.num * p.den) (p.den * q.den) = frB (p - q) ∧ Wsh.rn (p.num * q.den - q.num * p.den) (p.den * q.den) = (p - q).num ∧ Wsh.rd (p.num * q.den - q.num * p.den) (p.den * q.den) = ((p - q).den : Int) := by
  rw [redB_q (mul_dpos p q), rn_q (mul_dpos p q), rd_q (mul_dpos p q), sub_q]; exact ⟨rfl, rfl, rfl⟩
theorem frB_nonneg {q : Rat} (h : frB q = true) : 0 ≤ q := Rat.num_nonneg.1 ((frB_iff q).1 h).1
theorem num_zero (q : Rat) : q.num = 0 ↔ q = 0 := Rat.num_eq_zero
theorem lt_q (p q : Rat) : p < q ↔ p.num * q.den < q.num * p.den := Rat.lt_iff p q
/-- the sum of all shares -/
def totL : Led → Rat
  | [] => 0
  | h :: t => h.2 + totL t
theorem tot_append (A B : Led) : totL (A ++ B) = totL A + totL B := by
  induction A with
  | nil => show totL B = 0 + totL B; grind
  | cons h t ih => show h.2 + totL (t ++ B) = h.2 + totL t + totL B; rw [ih]; grind
/-- a valid ledger -/
structure VL (L : Led) : Prop where
  len : L.length ≤ 12
  own : ∀ h ∈ L, 1 ≤ h.1 ∧ h.1 ≤ 999
  fr : ∀ h ∈ L, frB h.2 = true
  pos : Pos L
  asc : Asc L
  sums : ∀ k, k ≤ L.length → frB (totL (L.take k)) = true
  one : totL L = 1
def vlB (L : Led) : Bool := decide (L.length ≤ 12) && L.all (fun h => decide (1 ≤ h.1) && decide (h.1 ≤ 999)) && L.all (fun h => frB h.2) && L.all (fun h => decide (0 < h.2)) && decide (L.Pairwise (fun a b => a.1 < b.1)) && (List.range (L.length + 1)).all (fun k => frB (totL (L.take k))) && decide (totL L = 1)
theorem vl_iff (L : Led) : vlB L = true ↔ VL L := by
  unfold vlB
  simp only [Bool.and_eq_true, decide_eq_true_eq, List.all_eq_true, List.mem_range]
  constructor
  · rintro ⟨⟨⟨⟨⟨⟨a, b⟩, c⟩, d⟩, e⟩, f⟩, g⟩
    exact ⟨a, b, c, d, e, fun k hk => f k (by omega), g⟩
  · intro h
    exact ⟨⟨⟨⟨⟨⟨h.len, h.own⟩, h.fr⟩, h.pos⟩, h.asc⟩, fun k hk => h.sums k (by omega)⟩, h.one⟩
theorem frB_zero : frB 0 = true := by decide
theorem share_fr {L : Led} (hv : VL L) (o : Int) : frB (shareL L o) = true := by
  by_cases h : shareL L o = 0
  · rw [h]; exact frB_zero
  · obtain ⟨x, hx, _, h2⟩ := share_mem h
    rw [← h2]; exact hv.fr x hx
/-- the ledger after a part was sold -/
def soldL (L : Led) (f t : Int) (p : Rat) : Led := setL (setL L f (shareL L f - p)) t (shareL L t + p)
/-- whether it can be sold: p is a fraction -/
def sellB (L : Led) (f t : Int) (p : Rat) : Bool :=
  frB (shareL L f - p) && frB (shareL L t + p) && decide (p ≠ 0) && decide (f ≠ t) && decide (1 ≤ t) && decide (t ≤ 999) && vlB (soldL L f t p)
theorem sell_iff (L : Led) (f t : Int) (p : Rat) : sellB L f t p = true ↔ frB (shareL L f - p) = true ∧ frB (shareL L t + p) = true ∧ p ≠ 0 ∧ f ≠ t ∧ 1 ≤ t ∧ t ≤ 999 ∧ VL (soldL L f t p) := by
  unfold sellB; simp [vl_iff, and_assoc]
/-- the ledger after each heir got p -/
def giveL (p : Rat) : Led → List Int → Led
  | L, [] => L
  | L, h :: t => giveL p (setL L h (shareL L h + p)) t
theorem give_snoc (p : Rat) : ∀ (hs : List Int) (L : Led) (h : Int), giveL p L (hs ++ [h]) = setL (giveL p L hs) h (shareL (giveL p L hs) h + p) := by
  intro hs
  induction hs with
  | nil => intro L h; rfl
  | cons x t ih => intro L h; exact ih _ h
theorem give_asc (p : Rat) : ∀ (hs : List Int) (L : Led), Asc L → Asc (giveL p L hs) := by
  intro hs
  induction hs with
  | nil => intro L h; exact h
  | cons x t ih => intro L h; exact ih _ (asc_set h _ _)
abbrev Hd := Int × Int × Int
abbrev hd0 : Hd := (0, 0, 0)
def ledOf (hs : List Hd) : Led := hs.map fun h => (h.1, Rat.divInt h.2.1 h.2.2)
def rawH (h : Int × Rat) : Hd := (h.1, h.2.num, (h.2.den : Int))
def rawL (L : Led) : List Hd := L.map rawH
/-- the numbers of holdings, one after the other -/
def flatH : List Hd → List Int
  | [] => []
  | h :: t => h.1 :: h.2.1 :: h.2.2 :: flatH t
theorem flat_len : ∀ hs : List Hd, (flatH hs).length = hs.length * 3 := by
  intro hs
  induction hs with
  | nil => rfl
  | cons h t ih => show (flatH t).length + 1 + 1 + 1 = (t.length + 1) * 3; rw [ih]; omega
theorem flat_append : ∀ a b : List Hd, flatH (a ++ b) = flatH a ++ flatH b := by
  intro a b
  induction a with
  | nil => rfl
  | cons h t ih => show h.1 :: h.2.1 :: h.2.2 :: flatH (t ++ b) = _; rw [ih]; rfl
theorem flat_get : ∀ (hs : List Hd) (k : Nat), k < hs.length → (flatH hs).getD (k * 3) 0 = (hs.getD k hd0).1 ∧ (flatH hs).getD (k * 3 + 1) 0 = (hs.getD k hd0).2.1 ∧ (flatH hs).getD (k * 3 + 2) 0 = (hs.getD k hd0).2.2 := by
  intro hs
  induction hs with
  | nil => intro k h; simp at h
  | cons h t ih =>
    intro k hk
    cases k with
    | zero => exact ⟨rfl, rfl, rfl⟩
    | succ k =>
      have := ih k (by simpa using hk)
      rw [show (k + 1) * 3 = k * 3 + 1 + 1 + 1 from by omega]
      exact this
theorem flat_take (hs : List Hd) (k : Nat) : (flatH hs).take (k * 3) = flatH (hs.take k) := by
  induction hs generalizing k with
  | nil => simp [flatH]
  | cons h t ih =>
    cases k with
    | zero => rfl
    | succ k =>
      rw [show (k + 1) * 3 = k * 3 + 1 + 1 + 1 from by omega]
      show h.1 :: h.2.1 :: h.2.2 :: (flatH t).take (k * 3) = _
      rw [ih]; rfl
theorem flat_drop (hs : List Hd) (k : Nat) : (flatH hs).drop (k * 3) = flatH (hs.drop k) := by
  induction hs generalizing k with
  | nil => simp [flatH]
  | cons h t ih =>
    cases k with
    | zero => rfl
    | succ k =>
      rw [show (k + 1) * 3 = k * 3 + 1 + 1 + 1 from by omega]
      show (flatH t).drop (k * 3) = _
      rw [ih]; rfl
theorem getD_lt {α : Type} (l : List α) {k : Nat} (h : k < l.length) (d : α) : l.getD k d = l[k] := by
  rw [List.getD_eq_getElem?_getD, List.getElem?_eq_getElem h]; rfl
theorem take_snocD {α : Type} (l : List α) {k : Nat} (h : k < l.length) (d : α) : l.take (k + 1) = l.take k ++ [l.getD k d] := by
  rw [List.take_succ_eq_append_getElem h, getD_lt l h]
theorem led_len (hs : List Hd) : (ledOf hs).length = hs.length := by unfold ledOf; simp
theorem led_raw (L : Led) : ledOf (rawL L) = L := by
  unfold ledOf rawL
  rw [List.map_map]
  conv => rhs; rw [← List.map_id L]
  refine List.map_congr_left fun h _ => ?_
  show (h.1, Rat.divInt h.2.num h.2.den) = h
  rw [q_mk]
theorem raw_len (L : Led) : (rawL L).length = L.length := by unfold rawL; simp
theorem raw_get (L : Led) {k : Nat} (h : k < L.length) : (rawL L).getD k hd0 = rawH (L.getD k (0, 0)) := by
  rw [getD_lt _ (by rw [raw_len]; exact h), getD_lt _ h]; unfold rawL; simp
theorem led_get (hs : List Hd) {k : Nat} (h : k < hs.length) : (ledOf hs).getD k (0, 0) = ((hs.getD k hd0).1, Rat.divInt (hs.getD k hd0).2.1 (hs.getD k hd0).2.2) := by
  rw [getD_lt _ (by rw [led_len]; exact h), getD_lt _ h]; unfold ledOf; simp
theorem raw_append (a b : Led) : rawL (a ++ b) = rawL a ++ rawL b := by unfold rawL; simp
theorem raw_take (a : Led) (k : Nat) : rawL (a.take k) = (rawL a).take k := by unfold rawL; simp
theorem raw_drop (a : Led) (k : Nat) : rawL (a.drop k) = (rawL a).drop k := by unfold rawL; simp
def prevO (hs : List Hd) (k : Nat) : Int := if k = 0 then 0 else (hs.getD (k - 1) hd0).1
def okA (hs : List Hd) (k : Nat) : Bool := decide (prevO hs k < (hs.getD k hd0).1) && decide (1 ≤ (hs.getD k hd0).1) && decide ((hs.getD k hd0).1 ≤ 999)
def ascB (hs : List Hd) : Bool := (List.range hs.length).all (okA hs)
def okF (hs : List Hd) (k : Nat) : Bool := Wsh.vfB (hs.getD k hd0).2.1 (hs.getD k hd0).2.2 && decide ((hs.getD k hd0).2.1 ≠ 0)
/-- the sum of the first shares -/
def sumQ (hs : List Hd) (k : Nat) : Rat := totL ((ledOf hs).take k)
def okS (hs : List Hd) (k : Nat) : Bool := okF hs k && frB (sumQ hs (k + 1))
def allS (hs : List Hd) : Bool := (List.range hs.length).all (okS hs)
def allF (hs : List Hd) : Bool := (List.range hs.length).all (okF hs)
/-- a valid ledger -/
def vlR (hs : List Hd) : Bool := decide (hs.length ≤ 12) && ascB hs && allS hs && decide (sumQ hs hs.length = 1)
theorem rng_all (n : Nat) (f : Nat → Bool) : (List.range n).all f = true ↔ ∀ j, j < n → f j = true := by
  rw [List.all_eq_true]; simp
theorem rng_no {n k : Nat} {f : Nat → Bool} (h : k < n) (hk : f k = false) : (List.range n).all f = false := by
  rw [Bool.eq_false_iff]; intro c; rw [rng_all] at c; rw [c k h] at hk; cases hk
theorem rng_yes {n : Nat} {f : Nat → Bool} (h : ∀ j, j < n → f j = true) : (List.range n).all f = true := (rng_all n f).2 h
theorem rng_more {k : Nat} {f : Nat → Bool} (h : ∀ j, j < k → f j = true) (hk : f k = true) : ∀ j, j < k + 1 → f j = true := fun j hj => by
  by_cases e : j = k
  · subst e; exact hk
  · exact h j (by omega)
theorem okF_is {hs : List Hd} {k : Nat} (h : okF hs k = true) : Wsh.vfB (hs.getD k hd0).2.1 (hs.getD k hd0).2.2 = true ∧ (hs.getD k hd0).2.1 ≠ 0 := by
  unfold okF at h; simpa using h
theorem okF_no1 {hs : List Hd} {k : Nat} (h : Wsh.vfB (hs.getD k hd0).2.1 (hs.getD k hd0).2.2 = false) : okF hs k = false := by unfold okF; rw [h]; rfl
theorem okF_no2 {hs : List Hd} {k : Nat} (h : (hs.getD k hd0).2.1 = 0) : okF hs k = false := by unfold okF; rw [h]; simp
theorem okF_yes {hs : List Hd} {k : Nat} (h : Wsh.vfB (hs.getD k hd0).2.1 (hs.getD k hd0).2.2 = true) (h2 : (hs.getD k hd0).2.1 ≠ 0) : okF hs k = true := by unfold okF; rw [h]; simpa using h2
theorem okS_no {hs : List Hd} {k : Nat} (h : okF hs k = false) : okS hs k = false := by unfold okS; rw [h]; rfl
theorem okS_no2 {hs : List Hd} {k : Nat} (h : frB (sumQ hs (k + 1)) = false) : okS hs k = false := by unfold okS; rw [h]; simp
theorem okS_yes {hs : List Hd} {k : Nat} (h : okF hs k = true) (h2 : frB (sumQ hs (k + 1)) = true) : okS hs k = true := by unfold okS; rw [h, h2]; rfl
theorem okS_is {hs : List Hd} {k : Nat} (h : okS hs k = true) : okF hs k = true ∧ frB (sumQ hs (k + 1)) = true := by unfold okS at h; simpa using h
theorem sum_succ {hs : List Hd} {k : Nat} (h : k < hs.length) : sumQ hs (k + 1) = sumQ hs k + Rat.divInt (hs.getD k hd0).2.1 (hs.getD k hd0).2.2 := by
  unfold sumQ
  rw [take_snocD (ledOf hs) (by rw [led_len]; exact h) (0, 0), tot_append, led_get hs h]
  show _ + (Rat.divInt _ _ + 0) = _
  grind
/-- a sum as the program makes it -/
theorem sum_red {hs : List Hd} {k : Nat} (h : k < hs.length) (hv : Wsh.vfB (hs.getD k hd0).2.1 (hs.getD k hd0).2.2 = true) :
    Wsh.redB ((sumQ hs k).num * (hs.getD k hd0).2.2 + (hs.getD k hd0).2.1 * (sumQ hs k).den) ((sumQ hs k).den * (hs.getD k hd0).2.2) = frB (sumQ hs (k + 1)) ∧
    Wsh.rn ((sumQ hs k).num * (hs.getD k hd0).2.2 + (hs.getD k hd0).2.1 * (sumQ hs k).den) ((sumQ hs k).den * (hs.getD k hd0).2.2) = (sumQ hs (k + 1)).num ∧
    Wsh.rd ((sumQ hs k).num * (hs.getD k hd0).2.2 + (hs.getD k hd0).2.1 * (sumQ hs k).den) ((sumQ hs k).den * (hs.getD k hd0).2.2) = ((sumQ hs (k + 1)).den : Int) := by
  obtain ⟨a, b, _⟩ := vf_q hv
  have := add_red (sumQ hs k) (Rat.divInt (hs.getD k hd0).2.1 (hs.getD k hd0).2.2)
  rw [a, b, ← sum_succ h] at this
  exact this
theorem one_iff {q : Rat} : q = 1 ↔ q.num = (q.den : Int) := by
  constructor
  · rintro rfl; rfl
  · intro h
    have := q_mk q
    rw [h, Rat.divInt_self' (by have := den_pos q; omega)] at this
    exact this.symm
theorem asc_is {hs : List Hd} (h : ascB hs = true) : Asc (ledOf hs) ∧ ∀ x ∈ ledOf hs, 1 ≤ x.1 ∧ x.1 ≤ 999 := by
  unfold ascB at h
  rw [rng_all] at h
  have h1 : ∀ k, k < hs.length → prevO hs k < (hs.getD k hd0).1 ∧ 1 ≤ (hs.getD k hd0).1 ∧ (hs.getD k hd0).1 ≤ 999 := fun k hk => by
    have := h k hk; unfold okA at this; simp only [Bool.and_eq_true, decide_eq_true_eq] at this; exact ⟨this.1.1, this.1.2, this.2⟩
  have mono : ∀ n i, i + n + 1 < hs.length → (hs.getD i hd0).1 < (hs.getD (i + n + 1) hd0).1 := by
    intro n
    induction n with
    | zero =>
      intro i hi
      have := (h1 (i + 1) hi).1
      unfold prevO at this
      rw [if_neg (by omega)] at this
      exact this
    | succ n ih =>
      intro i hi
      have a := ih i (by omega)
      have := (h1 (i + (n + 1) + 1) hi).1
      unfold prevO at this
      rw [if_neg (by omega), show i + (n + 1) + 1 - 1 = i + n + 1 from by omega] at this
      omega
  refine ⟨?_, ?_⟩
  · unfold Asc
    rw [List.pairwise_iff_getElem]
    intro i j hi hj hij
    rw [led_len] at hi hj
    have a := mono (j - i - 1) i (by omega)
    rw [show i + (j - i - 1) + 1 = j from by omega] at a
    rw [← getD_lt (ledOf hs) (by rw [led_len]; exact hi) (0, 0), ← getD_lt (ledOf hs) (by rw [led_len]; exact hj) (0, 0), led_get hs hi, led_get hs hj]
    exact a
  · intro x hx
    obtain ⟨i, hi, rfl⟩ := List.getElem_of_mem hx
    rw [← getD_lt (ledOf hs) hi (0, 0), led_get hs (by rw [led_len] at hi; exact hi)]
    exact (h1 i (by rw [led_len] at hi; exact hi)).2
theorem frac_is {hs : List Hd} (h : allF hs = true) : rawL (ledOf hs) = hs ∧ Pos (ledOf hs) ∧ ∀ x ∈ ledOf hs, frB x.2 = true := by
  unfold allF at h
  rw [rng_all] at h
  have h1 : ∀ x ∈ hs, Wsh.vfB x.2.1 x.2.2 = true ∧ x.2.1 ≠ 0 := fun x hx => by
    obtain ⟨i, hi, rfl⟩ := List.getElem_of_mem hx
    have := okF_is (h i hi)
    rwa [getD_lt _ hi] at this
  refine ⟨?_, ?_, ?_⟩
  · unfold rawL ledOf
    rw [List.map_map]
    conv => rhs; rw [← List.map_id hs]
    refine List.map_congr_left fun x hx => ?_
    obtain ⟨a, b, _⟩ := vf_q (h1 x hx).1
    show (x.1, (Rat.divInt x.2.1 x.2.2).num, ((Rat.divInt x.2.1 x.2.2).den : Int)) = x
    rw [a, b]
  · intro x hx
    unfold ledOf at hx
    obtain ⟨y, hy, rfl⟩ := List.mem_map.1 hx
    obtain ⟨a, b, c⟩ := vf_q (h1 y hy).1
    have := frB_nonneg c
    have hn : Rat.divInt y.2.1 y.2.2 ≠ 0 := fun e => (h1 y hy).2 (by rw [← a]; exact (num_zero _).2 e)
    show 0 < Rat.divInt y.2.1 y.2.2
    grind
  · intro x hx
    unfold ledOf at hx
    obtain ⟨y, hy, rfl⟩ := List.mem_map.1 hx
    exact (vf_q (h1 y hy).1).2.2
theorem all_frac {hs : List Hd} (h : allS hs = true) : allF hs = true := by
  unfold allS at h; unfold allF; rw [rng_all] at h ⊢; exact fun j hj => (okS_is (h j hj)).1
theorem vlR_is {hs : List Hd} (h : vlR hs = true) : rawL (ledOf hs) = hs ∧ VL (ledOf hs) := by
  unfold vlR at h
  simp only [Bool.and_eq_true, decide_eq_true_eq] at h
  obtain ⟨⟨⟨h1, h2⟩, h3⟩, h4⟩ := h
  obtain ⟨f1, f2, f3⟩ := frac_is (all_frac h3)
  obtain ⟨a1, a2⟩ := asc_is h2
  refine ⟨f1, ⟨by rw [led_len]; exact h1, a2, f3, f2, a1, fun k hk => ?_, ?_⟩⟩
  · cases k with
    | zero => exact frB_zero
    | succ k =>
      unfold allS at h3; rw [rng_all] at h3
      rw [led_len] at hk
      exact (okS_is (h3 k hk)).2
  · have := h4
    unfold sumQ at this
    rwa [List.take_of_length_le (by rw [led_len]; exact Nat.le_refl _)] at this
theorem vlR_raw {L : Led} (h : VL L) : vlR (rawL L) = true := by
  have get : ∀ k, k < L.length → (rawL L).getD k hd0 = rawH L[k]! := fun k hk => by
    rw [raw_get L hk, getD_lt _ hk, List.getElem!_eq_getElem?_getD, List.getElem?_eq_getElem hk]; rfl
  unfold vlR
  simp only [Bool.and_eq_true, decide_eq_true_eq]
  refine ⟨⟨⟨by rw [raw_len]; exact h.len, ?_⟩, ?_⟩, ?_⟩
  · refine rng_yes fun k hk => ?_
    rw [raw_len] at hk
    unfold okA
    simp only [Bool.and_eq_true, decide_eq_true_eq]
    have o := h.own _ (List.getElem_mem hk)
    rw [raw_get L hk, getD_lt _ hk]
    refine ⟨⟨?_, o.1⟩, o.2⟩
    unfold prevO
    by_cases e : k = 0
    · rw [if_pos e]; exact Int.lt_of_lt_of_le (by decide) o.1
    · rw [if_neg e, raw_get L (by omega), getD_lt _ (by omega)]
      exact (List.pairwise_iff_getElem.1 h.asc) (k - 1) k (by omega) hk (by omega)
  · refine rng_yes fun k hk => ?_
    rw [raw_len] at hk
    refine okS_yes (okF_yes ?_ ?_) ?_
    · rw [raw_get L hk, getD_lt _ hk]; exact q_vf (h.fr _ (List.getElem_mem hk))
    · rw [raw_get L hk, getD_lt _ hk]
      have := h.pos _ (List.getElem_mem hk)
      intro c
      rw [(num_zero _).1 c] at this
      exact absurd this (by decide)
    · unfold sumQ; rw [led_raw]; exact h.sums _ (by omega)
  · unfold sumQ; rw [led_raw, raw_len, List.take_of_length_le (Nat.le_refl _)]; exact h.one
theorem vlR_vl (L : Led) : vlR (rawL L) = vlB L := by
  rw [Bool.eq_iff_iff, vl_iff]
  refine ⟨fun h => ?_, vlR_raw⟩
  have := (vlR_is h).2
  rwa [led_raw] at this
/-- the share of an owner as it lies in memory -/
def shR : List Hd → Int → Int × Int
  | [], _ => (0, 1)
  | h :: t, o => if h.1 = o then h.2 else shR t o
theorem shR_raw (L : Led) (o : Int) : shR (rawL L) o = ((shareL L o).num, ((shareL L o).den : Int)) := by
  induction L with
  | nil => rfl
  | cons h t ih =>
    show (if h.1 = o then (h.2.num, (h.2.den : Int)) else shR (rawL t) o) = _
    show _ = ((if h.1 = o then h.2 else shareL t o).num, ((if h.1 = o then h.2 else shareL t o).den : Int))
    by_cases e : h.1 = o
    · rw [if_pos e, if_pos e]
    · rw [if_neg e, if_neg e]; exact ih
theorem shR_at {hs : List Hd} {o : Int} {k : Nat} (hk : k < hs.length) (h : ∀ j, j < k → (hs.getD j hd0).1 ≠ o) (he : (hs.getD k hd0).1 = o) : shR hs o = (hs.getD k hd0).2 := by
  induction hs generalizing k with
  | nil => simp at hk
  | cons x t ih =>
    show (if x.1 = o then x.2 else shR t o) = _
    cases k with
    | zero => have he : x.1 = o := he
              rw [if_pos he]; rfl
    | succ k =>
      have h0 : x.1 ≠ o := h 0 (by omega)
      rw [if_neg h0]
      exact ih (by simpa using hk) (fun j hj => h (j + 1) (by omega)) he
theorem shR_none {hs : List Hd} {o : Int} (h : ∀ j, j < hs.length → (hs.getD j hd0).1 ≠ o) : shR hs o = (0, 1) := by
  induction hs with
  | nil => rfl
  | cons x t ih =>
    show (if x.1 = o then x.2 else shR t o) = _
    have h0 : x.1 ≠ o := h 0 (by simp)
    rw [if_neg h0]
    exact ih (fun j hj => h (j + 1) (by simpa using hj))
/-- what is left out behind the place of an owner -/
def skipL (L : Led) (o : Int) (k : Nat) : Nat := if k < L.length ∧ (L.getD k (0, 0)).1 = o then k + 1 else k
theorem filter_far {L : Led} {o : Int} (h : ∀ x ∈ L, x.1 ≠ o) : L.filter (fun h => decide (h.1 ≠ o)) = L := by
  rw [List.filter_eq_self]; intro a ha; simpa using h a ha
/-- the program's way: the first ones of lesser owners, the holding, and the others -/
theorem with_set {L : Led} (ha : Asc L) (o : Int) (q : Rat) : ∀ {k : Nat}, k ≤ L.length → (∀ j, j < k → (L.getD j (0, 0)).1 < o) → (k < L.length → o ≤ (L.getD k (0, 0)).1) →
    setL L o q = L.take k ++ (if q = 0 then [] else [(o, q)]) ++ L.drop (skipL L o k) := by
  have tail : ∀ {h : Int × Rat} {t : Led}, Asc (h :: t) → o ≤ h.1 → (h :: t).filter (fun h => decide (h.1 ≠ o)) = (h :: t).drop (skipL (h :: t) o 0) := by
    intro h t ha ho
    have h1 := List.pairwise_cons.1 ha
    have ht : t.filter (fun h => decide (h.1 ≠ o)) = t := filter_far (fun x hx => by have := h1.1 x hx; omega)
    by_cases e : h.1 = o
    · rw [show skipL (h :: t) o 0 = 1 from by unfold skipL; rw [if_pos ⟨by simp, e⟩], List.filter_cons_of_neg (by simp [e]), ht]; rfl
    · rw [show skipL (h :: t) o 0 = 0 from by unfold skipL; rw [if_neg (fun c => e c.2)], List.filter_cons_of_pos (by simp [e]), ht]; rfl
  induction L with
  | nil =>
    intro k hk _ _
    obtain rfl : k = 0 := by simpa using hk
    by_cases hq : q = 0
    · rw [hq, setL_zero]; rfl
    · rw [setL_ins hq, if_neg hq]; rfl
  | cons h t ih =>
    intro k hk h1 h2
    have hp := List.pairwise_cons.1 ha
    cases k with
    | zero =>
      have ho : o ≤ h.1 := h2 (by simp)
      by_cases hq : q = 0
      · rw [hq, setL_zero, tail ha ho, if_pos rfl]; rfl
      · rw [setL_ins hq, if_neg hq]
        show (if o ≤ h.1 then _ else _) = _
        rw [if_pos ho, tail ha ho]; rfl
    | succ k =>
      have ho : h.1 < o := h1 0 (by omega)
      have := ih hp.2 (k := k) (by simpa using hk) (fun j hj => h1 (j + 1) (by omega)) (fun hl => h2 (by simpa using hl))
      have es : skipL (h :: t) o (k + 1) = skipL t o k + 1 := by
        have eg : (h :: t).getD (k + 1) (0, 0) = t.getD k (0, 0) := rfl
        unfold skipL
        rw [eg]
        by_cases c : k < t.length ∧ (t.getD k (0, 0)).1 = o
        · rw [if_pos c, if_pos ⟨by have := c.1; simpa using this, c.2⟩]
        · rw [if_neg c, if_neg (fun d => c ⟨by simpa using d.1, d.2⟩)]
      rw [es]
      show _ = h :: (t.take k ++ _ ++ t.drop (skipL t o k))
      rw [← this]
      by_cases hq : q = 0
      · rw [hq, setL_zero, setL_zero, List.filter_cons_of_pos (by simp; omega)]
      · rw [setL_ins hq, setL_ins hq]
        show (if o ≤ h.1 then _ else _) = _
        rw [if_neg (by omega)]
/-- the model's loop, up to k -/
def setTo (L : Led) (o : Int) (q : Rat) (k : Nat) : Led × Bool := setP o q (decide (q = 0)) (L.take k)
theorem setTo_zero (L : Led) (o : Int) (q : Rat) : setTo L o q 0 = ([], decide (q = 0)) := rfl
theorem setTo_succ {L : Led} (o : Int) (q : Rat) {k : Nat} (h : k < L.length) :
    setTo L o q (k + 1) = ((setTo L o q k).1 ++ ((if !(setTo L o q k).2 && decide (o ≤ (L.getD k (0, 0)).1) then [(o, q)] else []) ++ (if (L.getD k (0, 0)).1 ≠ o then [L.getD k (0, 0)] else [])), (setTo L o q k).2 || decide (o ≤ (L.getD k (0, 0)).1)) := by
  unfold setTo
  rw [take_snocD L h (0, 0), setP_append]
  simp [setP]
theorem setTo_end (L : Led) (o : Int) (q : Rat) : setL L o q = (setTo L o q L.length).1 ++ (if (setTo L o q L.length).2 then [] else [(o, q)]) := by
  unfold setTo setL
  rw [List.take_of_length_le (Nat.le_refl _)]
theorem setTo_len (L : Led) (o : Int) (q : Rat) : ∀ k, k ≤ L.length → (setTo L o q k).1.length ≤ 2 * k := by
  intro k
  induction k with
  | zero => intro _; simp [setTo_zero]
  | succ k ih =>
    intro h
    have := ih (by omega)
    rw [setTo_succ o q (by omega)]
    simp only [List.length_append]
    have a : (if !(setTo L o q k).2 && decide (o ≤ (L.getD k (0, 0)).1) then [(o, q)] else [] : Led).length ≤ 1 := by split <;> simp
    have b : (if (L.getD k (0, 0)).1 ≠ o then [L.getD k (0, 0)] else [] : Led).length ≤ 1 := by split <;> simp
    omega
/-- the numbers of a share that is set, or none -/
def shareIs (n d : Int) (q : Rat) : Prop := (n = q.num ∧ d = (q.den : Int)) ∨ (n = 0 ∧ q = 0)
theorem shareIs_zero {n d : Int} {q : Rat} (h : shareIs n d q) : decide (q = 0) = decide (n = 0) := by
  rcases h with ⟨h, _⟩ | ⟨h, h2⟩
  · rw [h, decide_eq_decide]; exact (num_zero q).symm
  · rw [h, h2]; rfl
theorem shareIs_raw {n d : Int} {q : Rat} (h : shareIs n d q) (hq : q ≠ 0) (o : Int) : rawH (o, q) = (o, n, d) := by
  rcases h with ⟨h, h1⟩ | ⟨h, h2⟩
  · rw [h, h1]; rfl
  · exact absurd h2 hq
theorem share_ok (b : Bool) (q : Rat) : shareIs (Wsh.qn b q.num) (Wsh.qn b (q.den : Int)) (if b then q else 0) := by
  cases b with
  | true => exact .inl ⟨rfl, rfl⟩
  | false => exact .inr ⟨rfl, rfl⟩
theorem share_no : shareIs 0 1 0 := .inl ⟨rfl, rfl⟩
theorem fr_set {L : Led} (h : ∀ x ∈ L, frB x.2 = true) (o : Int) {q : Rat} (hq : frB q = true) : ∀ x ∈ setL L o q, frB x.2 = true := by
  by_cases e : q = 0
  · rw [e, setL_zero]; exact fun x hx => h x (List.mem_filter.1 hx).1
  · rw [setL_ins e]
    intro x hx
    rcases ins_mem hx with rfl | hx
    · exact hq
    · exact h x hx
theorem share_frA {L : Led} (h : ∀ x ∈ L, frB x.2 = true) (o : Int) : frB (shareL L o) = true := by
  by_cases e : shareL L o = 0
  · rw [e]; exact frB_zero
  · obtain ⟨x, hx, _, h2⟩ := share_mem e
    rw [← h2]; exact h x hx
theorem set_len {L : Led} (o : Int) (q : Rat) : (setL L o q).length ≤ L.length + 1 := by
  by_cases e : q = 0
  · rw [e, setL_zero]; have := List.length_filter_le (fun h : Int × Rat => decide (h.1 ≠ o)) L; omega
  · rw [setL_ins e]
    induction L with
    | nil => simp [insL]
    | cons h t ih =>
      unfold insL
      split
      · have := List.length_filter_le (fun h : Int × Rat => decide (h.1 ≠ o)) (h :: t); simp only [List.length_cons] at this ⊢; omega
      · simp only [List.length_cons]; omega
/-- holdings hs, read through a slice at address a -/
def IsHs (w : World) (a : Option Addr) (hs : List Hd) : Prop := hs = [] ∨ ∃ g o, a = some ⟨g, o, none⟩ ∧ ∀ i, i < hs.length → w.cell? ⟨g, o + i * 3, none⟩ = some (.int .i64 (hs.getD i hd0).1) ∧ w.cell? ⟨g, o + i * 3 + 1, none⟩ = some (.int .i64 (hs.getD i hd0).2.1) ∧ w.cell? ⟨g, o + i * 3 + 2, none⟩ = some (.int .i64 (hs.getD i hd0).2.2)
theorem hs_below {w w' : World} {a : Option Addr} {hs : List Hd} (h : IsHs w a hs) (hB : Below w.heap.size w w') : IsHs w' a hs := by
  rcases h with h | ⟨g, o, ha, hc⟩
  · exact .inl h
  · refine .inr ⟨g, o, ha, fun i hi => ?_⟩
    obtain ⟨c0, c1, c2⟩ := hc i hi
    exact ⟨(hB.cell (p := ⟨g, _, none⟩) (World.block_lt_of_cell? w _ c0)).trans c0, (hB.cell (p := ⟨g, _, none⟩) (World.block_lt_of_cell? w _ c1)).trans c1, (hB.cell (p := ⟨g, _, none⟩) (World.block_lt_of_cell? w _ c2)).trans c2⟩
theorem iowner_yes (n : Int) (w : World) (h1 : 1 ≤ n) (h2 : n ≤ 999) :
    Calls Try.prog 119 #[.int .i64 n] w fun e w' => e = .returned (.bool true) ∧ w = w' := by
  go_enter Try.func119, Try.ntmps119
  go_wp2
  go_ret
  exact ⟨rfl, rfl⟩
theorem iowner_no (n : Int) (w : World) (h : n < 1 ∨ 999 < n) :
    Calls Try.prog 119 #[.int .i64 n] w fun e w' => e = .returned (.bool false) ∧ w = w' := by
  by_cases h1 : 1 ≤ n
  · have hd : decide (n ≤ 999) = false := by simp; omega
    clear h
    go_enter Try.func119, Try.ntmps119
    go_wp2
    go_ret
    exact ⟨rfl, rfl⟩
  · have hd : decide (1 ≤ n) = false := by simpa using h1
    clear h
    go_enter Try.func119, Try.ntmps119
    go_wp2
    go_ret
    exact ⟨rfl, rfl⟩
theorem okA_def (hs : List Hd) (k : Nat) : okA hs k = (decide (prevO hs k < (hs.getD k hd0).1) && decide (1 ≤ (hs.getD k hd0).1) && decide ((hs.getD k hd0).1 ≤ 999)) := rfl
theorem prev_succ (hs : List Hd) (k : Nat) : prevO hs (k + 1) = (hs.getD k hd0).1 := by unfold prevO; rw [if_neg (by omega)]; rfl
/-- impl.ownersAscend -/
theorem iasc (a : Option Addr) (cap : Nat) (hs : List Hd) (w : World) (h : IsHs w a hs) (hn : hs.length ≤ 1048576) :
    Calls Try.prog 61 #[.slice a hs.length cap] w fun e w' => e = .returned (.bool (ascB hs)) ∧ Below w.heap.size w w' := by
  rcases h with rfl | ⟨g, o, rfl, hc⟩
  · go_enter Try.func61, Try.ntmps61
    go_wp2
    go_rounds 1
    go_ret
    exact ⟨rfl, by go_grown⟩
  · have HC := Lib.hid hc
    clear hc
    go_enter Try.func61, Try.ntmps61
    go_wp2
    go_loopw [3, 8] (fun l i wr => ∃ k : Nat, k ≤ hs.length ∧ i = .int .i64 k ∧ l = .int .i64 (prevO hs k) ∧ Hid (∀ j, j < k → okA hs j = true) ∧ Below w.heap.size w wr) (fun _ i _ => hs.length - (intOf i).toNat)
    case atStart => exact ⟨0, Nat.zero_le _, rfl, rfl, fun j hj => by omega, by go_grown⟩
    case round =>
      obtain ⟨k, hk, rfl, rfl, HA, hB⟩ := hrel
      by_cases hlt : k < hs.length
      · obtain ⟨d0, d1, d2⟩ := HC.out k hlt
        have c0 := (hB.cell (p := ⟨g, _, none⟩) (World.block_lt_of_cell? w _ d0)).trans d0
        have c1 := (hB.cell (p := ⟨g, _, none⟩) (World.block_lt_of_cell? w _ d1)).trans d1
        have c2 := (hB.cell (p := ⟨g, _, none⟩) (World.block_lt_of_cell? w _ d2)).trans d2
        have hok := okA_def hs k
        have hpv := prev_succ hs k
        clear d0 d1 d2
        generalize hs.getD k hd0 = hh at c0 c1 c2 hok hpv
        obtain ⟨x, n, d⟩ := hh
        generalize prevO hs k = p at hok
        dsimp only at c0 c1 c2 hok hpv
        have HO := Lib.hid hok
        have HP := Lib.hid hpv
        have HB := Lib.hid hB
        clear hok hpv hB
        by_cases h1 : x ≤ p
        · have HN : Hid (ascB hs = false) := rng_no hlt (by rw [HO.out, decide_eq_false (by omega : ¬ p < x)]; rfl)
          go_wp2_with fail
          go_ret
          exact ⟨ret_bool HN.out.symm, HB.out.alloc HB.out.size _⟩
        · have e1 : decide (x ≤ p) = false := by simpa using h1
          by_cases h2 : 1 ≤ x ∧ x ≤ 999
          · have HY : Hid (∀ j, j < k + 1 → okA hs j = true) := rng_more HA.out (by rw [HO.out]; simp; omega)
            go_wp2_with fail
            refine (iowner_yes x _ h2.1 h2.2).mono ?_
            rintro e w' ⟨rfl, rfl⟩
            go_wp2_with fail
            go_roundw
            case rel => exact ⟨k + 1, by omega, by go_num, by rw [HP.out], HY.out, HB.out.alloc HB.out.size _⟩
            case measure => simp [intOf]; omega
          · have HN : Hid (ascB hs = false) := rng_no hlt (by rw [HO.out]; simp; omega)
            go_wp2_with fail
            refine (iowner_no x _ (by omega)).mono ?_
            rintro e w' ⟨rfl, rfl⟩
            go_wp2_with fail
            go_ret
            exact ⟨ret_bool HN.out.symm, HB.out.alloc HB.out.size _⟩
      · go_wp2_with fail
        go_ret
        exact ⟨ret_bool (rng_yes (fun j hj => HA.out j (by omega))).symm, hB⟩
section
/-- block g is just the cells cs -/
def Blk (w : World) (g : Nat) (t : TypeId) (cs : Array Value) : Prop := w.heap[g]? = some (.cells cs t (0, 0))
section
variable {w w' : World} {g : Nat} {t : TypeId} {cs : Array Value}
theorem Blk.lt (h : Blk w g t cs) : g < w.heap.size := by
  rcases Nat.lt_or_ge g w.heap.size with hlt | hge
  · exact hlt
  · unfold Blk at h; rw [Array.getElem?_eq_none hge] at h; cases h
theorem Blk.cell (h : Blk w g t cs) (i : Nat) : w.cell? ⟨g, i, none⟩ = cs[i]? := cell_of_row w g i cs t (0, 0) h
theorem Blk.frozen (h : Blk w g t cs) (i : Nat) : w.frozen? ⟨g, i, none⟩ = false := by
  unfold Blk at h
  simp [World.frozen?, h]
theorem Blk.new (w : World) (t : TypeId) (cs : Array Value) : Blk (w.alloc (.cells cs t)) w.heap.size t cs := heap_alloc_new w _
theorem Blk.alloc (h : Blk w g t cs) (o : Obj) : Blk (w.alloc o) g t cs := (Below.heap_alloc w o g h.lt).trans h
theorem Blk.drewN (h : Blk w g t cs) (n : Nat) : Blk (w.drewN n) g t cs := h
theorem Blk.drew (h : Blk w g t cs) : Blk w.drew g t cs := h
theorem Blk.set_ (h : Blk w g t cs) (i : Nat) (u : Value) : Blk (w.setCell ⟨g, i, none⟩ u) g t (cs.setIfInBounds i u) := by
  unfold Blk at h ⊢
  simp [World.setCell, Array.getElem?_modify, h]
theorem Blk.far (h : Blk w g t cs) {p : Addr} (hp : g ≠ p.block) (u : Value) : Blk (w.setCell p u) g t cs := (Below.heap_setCell w p u g hp).trans h
theorem Blk.below {B : Nat} (h : Blk w g t cs) (hb : Below B w w') (hg : g < B) : Blk w' g t cs := (hb.block g hg).trans h
theorem Blk.next (h : Blk w g t cs) (hb : Below w.heap.size w w') : Blk w' g t cs := h.below hb h.lt
theorem Blk.grown {row : Option Nat} (h : Blk w g t cs) (hb : w.grownBy w' row) (hg : some g ≠ row) : Blk w' g t cs := (hb.block g h.lt hg).trans h
/-- a block of two cells that is written anew -/
theorem Blk.two {x y : Value} (h : Blk w g t #[x, y]) (u v : Value) : Blk ((w.setCell ⟨g, 0, none⟩ u).setCell ⟨g, 1, none⟩ v) g t #[u, v] := (h.set_ 0 u).set_ 1 v
end
theorem blk_two {w : World} {g : Nat} {t : TypeId} {x y : Value} (h : Blk w g t #[x, y]) : w.cell? ⟨g, 0, none⟩ = some x ∧ w.cell? ⟨g, 1, none⟩ = some y ∧ w.frozen? ⟨g, 0, none⟩ = false ∧ w.frozen? ⟨g, 1, none⟩ = false ∧ g < w.heap.size := ⟨h.cell 0, h.cell 1, h.frozen 0, h.frozen 1, h.lt⟩
end
theorem inoShare (w : World) : Calls Try.prog 62 #[] w fun e w' => e = .returned (.agg #[.int .i64 0, .int .i64 1]) ∧ Below w.heap.size w w' := by
  go_enter Try.func62, Try.ntmps62
  go_wp2
  refine bodyPost_ret (v := .agg #[.int .i64 0, .int .i64 1]) (by simp [results, Try.results62, go_sem]) rfl ⟨rfl, by go_grown⟩
/-- a sum of fractions by impl.AddFrac, its value known -/
theorem iAddQ {an ad bn bd x y : Int} (w : World) (hb : (Wsh.vfB an ad && Wsh.vfB bn bd && Wsh.redB (an * bd + bn * ad) (ad * bd)) = true) (hx : Wsh.rn (an * bd + bn * ad) (ad * bd) = x) (hy : Wsh.rd (an * bd + bn * ad) (ad * bd) = y) :
    Calls Try.prog 63 #[.agg #[.int .i64 an, .int .i64 ad], .agg #[.int .i64 bn, .int .i64 bd]] w fun e w' => e = .returned (.tuple #[.agg #[.int .i64 x, .int .i64 y], .bool true]) ∧ Below w.heap.size w w' := by
  have := iAdd an ad bn bd w
  rw [hb, hx, hy] at this; exact this
theorem iAddN {an ad bn bd : Int} (w : World) (hb : (Wsh.vfB an ad && Wsh.vfB bn bd && Wsh.redB (an * bd + bn * ad) (ad * bd)) = false) :
    Calls Try.prog 63 #[.agg #[.int .i64 an, .int .i64 ad], .agg #[.int .i64 bn, .int .i64 bd]] w fun e w' => e = .returned (.tuple #[.agg #[.int .i64 0, .int .i64 0], .bool false]) ∧ Below w.heap.size w w' := by
  have := iAdd an ad bn bd w
  rw [hb] at this; exact this
theorem vl_no0 {hs : List Hd} (h : 12 < hs.length) : vlR hs = false := by unfold vlR; rw [decide_eq_false (by omega : ¬ hs.length ≤ 12)]; rfl
theorem vl_no1 {hs : List Hd} (h : ascB hs = false) : vlR hs = false := by unfold vlR; rw [h]; simp
theorem vl_no2 {hs : List Hd} {k : Nat} (hk : k < hs.length) (h : okS hs k = false) : vlR hs = false := by unfold vlR allS; rw [rng_no hk h]; simp
theorem vl_end {hs : List Hd} (h1 : hs.length ≤ 12) (h2 : ascB hs = true) (h3 : ∀ j, j < hs.length → okS hs j = true) : vlR hs = decide ((sumQ hs hs.length).num = ((sumQ hs hs.length).den : Int)) := by
  unfold vlR allS
  rw [decide_eq_true h1, h2, rng_yes h3, decide_eq_decide.2 one_iff]; rfl
theorem sum_fr {hs : List Hd} {k : Nat} (h : ∀ j, j < k → okS hs j = true) : frB (sumQ hs k) = true := by
  cases k with
  | zero => exact frB_zero
  | succ k => exact (okS_is (h k (by omega))).2
theorem cells_at {w wr : World} {g o : Nat} {hs : List Hd} (hc : ∀ i, i < hs.length → w.cell? ⟨g, o + i * 3, none⟩ = some (.int .i64 (hs.getD i hd0).1) ∧ w.cell? ⟨g, o + i * 3 + 1, none⟩ = some (.int .i64 (hs.getD i hd0).2.1) ∧ w.cell? ⟨g, o + i * 3 + 2, none⟩ = some (.int .i64 (hs.getD i hd0).2.2)) (hB : Below w.heap.size w wr) {k : Nat} (hk : k < hs.length) :
    wr.cell? ⟨g, o + k * 3, none⟩ = some (.int .i64 (hs.getD k hd0).1) ∧ wr.cell? ⟨g, o + k * 3 + 1, none⟩ = some (.int .i64 (hs.getD k hd0).2.1) ∧ wr.cell? ⟨g, o + k * 3 + 2, none⟩ = some (.int .i64 (hs.getD k hd0).2.2) := by
  obtain ⟨d0, d1, d2⟩ := hc k hk
  exact ⟨(hB.cell (p := ⟨g, _, none⟩) (World.block_lt_of_cell? w _ d0)).trans d0, (hB.cell (p := ⟨g, _, none⟩) (World.block_lt_of_cell? w _ d1)).trans d1, (hB.cell (p := ⟨g, _, none⟩) (World.block_lt_of_cell? w _ d2)).trans d2⟩
/-- impl.ValidLedger -/
theorem iVL (a : Option Addr) (cap : Nat) (hs : List Hd) (w : World) (h : IsHs w a hs) (hn : hs.length ≤ 1048576) :
    Calls Try.prog 16 #[.slice a hs.length cap] w fun e w' => e = .returned (.bool (vlR hs)) ∧ Below w.heap.size w w' := by
  by_cases h12 : 12 < hs.length
  · go_enter Try.func16, Try.ntmps16
    go_wp2_with fail
    go_ret
    exact ⟨ret_bool (vl_no0 h12).symm, by go_grown⟩
  have g12 : decide (12 < (hs.length : Int)) = false := by simp; omega
  cases ha : ascB hs with
  | false =>
    have HN := Lib.hid (vl_no1 ha)
    have IA := iasc a cap hs w h hn
    rw [ha] at IA
    clear ha
    go_enter Try.func16, Try.ntmps16
    go_wp2_with fail
    refine IA.mono ?_
    rintro e w1 ⟨rfl, hb⟩
    go_wp2_with fail
    go_ret
    exact ⟨ret_bool HN.out.symm, hb⟩
  | true =>
    have HA := Lib.hid ha
    have IA := iasc a cap hs w h hn
    rw [ha] at IA
    clear ha
    go_enter Try.func16, Try.ntmps16
    go_wp2_with fail
    refine IA.mono ?_
    rintro e w1 ⟨rfl, hb⟩
    clear IA
    go_wp2_with fail
    refine (inoShare _).mono ?_
    rintro e w2 ⟨rfl, hb2⟩
    have hB := bel_tr hb hb2
    obtain ⟨S, hS⟩ : ∃ S, S = w2.heap.size := ⟨_, rfl⟩
    have hSw : w.heap.size ≤ S := by rw [hS]; exact hB.size
    rcases h with rfl | ⟨g, o, rfl, hc⟩
    · go_wp2_with fail
      refine wp_loop_rounds 1 ?_
      rw [rounds_succ]
      go_wp2_with fail
      go_ret
      exact ⟨rfl, hB.alloc hB.size _⟩
    · have HC := Lib.hid hc
      clear hc
      go_wp2_with fail
      rw [← hS]
      have hB0 : Below w.heap.size w (w2.alloc (.cells #[.int .i64 0, .int .i64 1] 58)) := hB.alloc hB.size _
      have hS0 : Blk (w2.alloc (.cells #[.int .i64 0, .int .i64 1] 58)) S 58 #[.int .i64 0, .int .i64 1] := by rw [hS]; exact Blk.new _ _ _
      clear hS hb hb2
      go_loopw [19] (fun i wr => ∃ k : Nat, k ≤ hs.length ∧ i = .int .i64 k ∧ Hid (∀ j, j < k → okS hs j = true) ∧ Blk wr S 58 #[.int .i64 (sumQ hs k).num, .int .i64 ((sumQ hs k).den : Int)] ∧ Below w.heap.size w wr) (fun i _ => hs.length - (intOf i).toNat)
      case atStart => exact ⟨0, Nat.zero_le _, rfl, fun j hj => by omega, hS0, hB0⟩
      case round =>
        clear hB0 hS0 hB
        obtain ⟨k, hk, rfl, HK, hS, hB⟩ := hrel
        by_cases hlt : k < hs.length
        · obtain ⟨c0, c1, c2⟩ := cells_at HC.out hB hlt
          have n0 : (hs.getD k hd0).2.1 = 0 → vlR hs = false := fun e => vl_no2 hlt (okS_no (okF_no2 e))
          have n1 : Wsh.vfB (hs.getD k hd0).2.1 (hs.getD k hd0).2.2 = false → vlR hs = false := fun e => vl_no2 hlt (okS_no (okF_no1 e))
          have n2 : frB (sumQ hs (k + 1)) = false → vlR hs = false := fun e => vl_no2 hlt (okS_no2 e)
          have y2 : Wsh.vfB (hs.getD k hd0).2.1 (hs.getD k hd0).2.2 = true → (hs.getD k hd0).2.1 ≠ 0 → frB (sumQ hs (k + 1)) = true → ∀ j, j < k + 1 → okS hs j = true := fun a b c => rng_more HK.out (okS_yes (okF_yes a b) c)
          have sr := sum_red hlt
          have qf := q_vf (sum_fr HK.out)
          generalize hs.getD k hd0 = hh at c0 c1 c2 n0 n1 n2 y2 sr
          obtain ⟨x, n, d⟩ := hh
          dsimp only at c0 c1 c2 n0 n1 n2 y2 sr
          obtain ⟨s0, s1, s2, s3, s4⟩ := blk_two hS
          have N0 := Lib.hid n0
          have N1 := Lib.hid n1
          have N2 := Lib.hid n2
          have Y2 := Lib.hid y2
          have SR := Lib.hid sr
          have QF := Lib.hid qf
          have HS := Lib.hid hS
          have HB := Lib.hid hB
          clear n0 n1 n2 y2 sr qf hS hB
          by_cases hz : n = 0
          · have e : (n == 0) = true := by simpa using hz
            have HN := Lib.hid (N0.out hz)
            clear hz
            go_wp2_with fail
            go_ret
            exact ⟨ret_bool HN.out.symm, HB.out.alloc HB.out.size _⟩
          · have e : (n == 0) = false := by simpa using hz
            have HZ := Lib.hid hz
            clear hz
            cases hv : Wsh.vfB n d with
            | false =>
              have HN := Lib.hid (N1.out hv)
              have HV := Lib.hid hv
              clear hv
              go_wp2_with fail
              refine (iAddN _ (by rw [HV.out]; simp)).mono ?_
              rintro e w3 ⟨rfl, hb⟩
              go_wp2_with fail
              go_ret
              exact ⟨ret_bool HN.out.symm, (bel_tr (HB.out.alloc HB.out.size _) hb).alloc (bel_tr (HB.out.alloc HB.out.size _) hb).size _⟩
            | true =>
              obtain ⟨r1, r2, r3⟩ := SR.out hv
              cases hf : frB (sumQ hs (k + 1)) with
              | false =>
                have HN := Lib.hid (N2.out hf)
                have HR : Hid _ := r1.trans hf
                clear hv hf r1 r2 r3
                go_wp2_with fail
                refine (iAddN _ (by rw [HR.out]; simp)).mono ?_
                rintro e w3 ⟨rfl, hb⟩
                go_wp2_with fail
                go_ret
                exact ⟨ret_bool HN.out.symm, (bel_tr (HB.out.alloc HB.out.size _) hb).alloc (bel_tr (HB.out.alloc HB.out.size _) hb).size _⟩
              | true =>
                have HY := Lib.hid (Y2.out hv HZ.out hf)
                have HR := Lib.hid (r1.trans hf)
                have H2 := Lib.hid r2
                have H3 := Lib.hid r3
                have HV := Lib.hid hv
                clear hv hf r1 r2 r3
                go_wp2_with fail
                refine (iAddQ _ (by rw [QF.out, HV.out, HR.out]; rfl) H2.out H3.out).mono ?_
                rintro e w3 ⟨rfl, hb⟩
                have hB3 := bel_tr (HB.out.alloc HB.out.size _) hb
                have hS3 := (HS.out.alloc _).next hb
                obtain ⟨t0, t1, t2, t3, t4⟩ := blk_two hS3
                clear s0 s1 s2 s3 s4 c0 c1 c2
                go_wp2_with fail
                go_roundw
                case rel => exact ⟨k + 1, by omega, by go_num, HY.out, (hS3.two _ _).alloc _, ((hB3.setCell (by exact hSw) _).setCell (by exact hSw) _).alloc (by simpa using hB3.size) _⟩
                case measure => simp [intOf]; omega
        · obtain rfl : hs.length = k := by omega
          obtain ⟨s0, s1, s2, s3, s4⟩ := blk_two hS
          have HN := Lib.hid (vl_end (by omega) HA.out HK.out)
          generalize (sumQ hs hs.length).num = x at s0 HN
          generalize ((sumQ hs hs.length).den : Int) = y at s1 HN
          clear hS
          go_wp2_with fail
          go_ret
          exact ⟨ret_bool HN.out.symm, hB⟩

theorem g_of {w w' : World} (h : Below w.heap.size w w') (row : Option Nat) : w.grownBy w' row := ⟨h.os, h.tape, h.output, h.size, fun i hi _ => h.block i hi⟩
section
theorem block_of_add (a : Addr) (n : Nat) : (a.add n).block = a.block := by unfold Addr.add; split <;> rfl
theorem add_of_add (a : Addr) (i j : Nat) : (a.add i).add j = a.add (i + j) := by
  unfold Addr.add
  by_cases hi : i = 0 <;> by_cases hj : j = 0 <;> simp [hi, hj, Nat.add_assoc]
def Reads (w : World) (B size : Nat) (A : Option Addr) (n : Nat) (xs : List Value) : Prop :=
  xs.length = n * size ∧ (0 < n → ∃ ad, A = some ad ∧ ad.block < B ∧ ∀ j u, xs[j]? = some u → w.cell? (ad.add j) = some u)
section
variable {w w' : World} {B B' size n : Nat} {A : Option Addr} {xs : List Value}
theorem Reads.keep (h : Reads w B size A n xs) (hk : ∀ p : Addr, p.block < B → w'.cell? p = w.cell? p) : Reads w' B size A n xs :=
  ⟨h.1, fun hn => by
    obtain ⟨ad, e, hb, hc⟩ := h.2 hn
    exact ⟨ad, e, hb, fun j u hu => (hk _ (by rw [block_of_add]; exact hb)).trans (hc j u hu)⟩⟩
theorem Reads.below (h : Reads w B size A n xs) (hb : Below B w w') : Reads w' B size A n xs := h.keep fun _ hp => hb.cell hp
theorem Reads.alloc (h : Reads w B size A n xs) (hB : B ≤ w.heap.size) (o : Obj) : Reads (w.alloc o) B size A n xs := h.keep fun p hp => World.cell?_alloc_lt w o p (by omega)
theorem Reads.cut (h : Reads w B size A n xs) {k cap : Nat} (hk : k ≤ n) (hc : n ≤ cap) :
    Reads w B size (if cap = k then A else A.map (·.add (k * size))) (n - k) (xs.drop (k * size)) := by
  refine ⟨by rw [List.length_drop, h.1, Nat.sub_mul], fun hn => ?_⟩
  obtain ⟨ad, rfl, hb, hcell⟩ := h.2 (by omega)
  rw [if_neg (by omega)]
  refine ⟨ad.add (k * size), rfl, by rw [block_of_add]; exact hb, fun j u hu => ?_⟩
  rw [add_of_add]
  exact hcell _ u (by rw [← hu, List.getElem?_drop])
theorem Reads.of_own {base : Nat} {e : TypeId} {c : Nat} (h : w.ownsRow base e size (.slice A n c) n xs) : Reads w w.heap.size size A n xs := by
  refine ⟨h.1, fun hn => ?_⟩
  obtain ⟨g, cap, hv, _, hlt⟩ := h.form hn
  have hA : A = some ⟨g, 0, none⟩ := by injection hv
  subst hA
  exact ⟨_, rfl, hlt, h.cells (g := g) rfl⟩
end
section
variable {P : Program} (w : World)
theorem run_append_of_nil (base : Nat) (t ty e : TypeId) (i : TypeInfo) (size : Nat) (ht : P.underlying t = some (.slice e)) (hi : P.info? e = some i)
    (v : Value) (n : Nat) (xs : List Value) (hown : w.ownsRow base e size v n xs) (c : Nat) : (Builtin.append_ #[t, t] ty #[v, .slice none 0 c]).run P w = .ok v w := by
  rcases hown.2 with ⟨rfl, rfl⟩ | ⟨g, cap, cur, rfl, _, _, hnc, _⟩
  · simp [Builtin.append_, run_underlying ht, sizeOf, typeInfo, hi, Builtin.lenOf, Builtin.firstCells]
  · simp [Builtin.append_, run_underlying ht, sizeOf, typeInfo, hi, Builtin.lenOf, Builtin.firstCells, hnc, storeCells]
theorem run_append_any (base : Nat) (t ty e : TypeId) (i : TypeInfo) (z : Value) (size bytes : Nat) (ht : P.underlying t = some (.slice e)) (hi : P.info? e = some i) (hz : i.zero = some z)
    (hsize : i.size = size) (hby : i.bytes = bytes) (hzs : z.cells.size = size) (hsz : 0 < size)
    (v : Value) (n : Nat) (xs : List Value) (hown : w.ownsRow base e size v n xs)
    (B : Nat) (A : Option Addr) (m c : Nat) (news : List Value) (hr : Reads w B size A m news) (h1 : ∀ u ∈ news, u.oneCell' = true)
    (h63 : n + m ≤ maxLen) (hbytes : (n + m) * bytes ≤ 140737488355328) (hbase : base ≤ w.heap.size) :
    ∃ v' w', (Builtin.append_ #[t, t] ty #[v, .slice A m c]).run P w = .ok v' w' ∧ w'.ownsRow base e size v' (n + m) (xs ++ news) ∧ w.grownBy w' v.ownBlock ∧
      (v'.ownBlock = v.ownBlock ∨ v'.ownBlock = some w.heap.size) := by
  rcases A with _ | ad
  · have hm : m = 0 := by
      rcases Nat.eq_zero_or_pos m with h0 | h0
      · exact h0
      · obtain ⟨ad, h, _⟩ := hr.2 h0
        cases h
    subst hm
    have hn : news = [] := List.eq_nil_of_length_eq_zero (by simpa using hr.1)
    subst hn
    exact ⟨v, w, run_append_of_nil w base t ty e i size ht hi v n xs hown c, by simpa using hown, World.grownBy.refl w _, .inl rfl⟩
  · have hcells : ∀ j u, news[j]? = some u → w.cell? (ad.add j) = some u := by
      intro j u hu
      rcases Nat.eq_zero_or_pos m with h0 | h0
      · subst h0
        have hn : news = [] := List.eq_nil_of_length_eq_zero (by simpa using hr.1)
        subst hn
        simp at hu
      · obtain ⟨ad', h, _, hc⟩ := hr.2 h0
        injection h with h
        subst h
        exact hc j u hu
    obtain ⟨v', w', hrun, h2, h3, _, h5⟩ := run_append_own_at (P := P) w base t ty e i z size bytes ht hi hz hsize hby hzs hsz v n xs hown ad m c news hr.1 hcells h1 h63 hbytes hbase
    exact ⟨v', w', hrun, h2, h3, h5⟩
theorem wp_append_any {o : Oper} {a : Act} {K : Act → World → Prop} {Q : Exit → Act → World → Prop} (s x : Operand) (t : TypeId)
    (ho : o.op = .call { callee := .builtin .append, args := #[s, x], argTypes := #[t, t] })
    (base : Nat) (e : TypeId) (i : TypeInfo) (z : Value) (size bytes : Nat) (ht : P.underlying t = some (.slice e)) (hi : P.info? e = some i) (hz : i.zero = some z)
    (hsize : i.size = size) (hby : i.bytes = bytes) (hzs : z.cells.size = size) (hsz : 0 < size)
    (v : Value) (n : Nat) (xs : List Value) (hs : a.eval s = v) (hown : w.ownsRow base e size v n xs)
    (B : Nat) (A : Option Addr) (m c : Nat) (news : List Value) (hx : a.eval x = .slice A m c) (hr : Reads w B size A m news) (h1 : ∀ u ∈ news, u.oneCell' = true)
    (h63 : n + m ≤ maxLen) (hbytes : (n + m) * bytes ≤ 140737488355328) (hbase : base ≤ w.heap.size)
    (h : ∀ v' w', w'.ownsRow base e size v' (n + m) (xs ++ news) → w.grownBy w' v.ownBlock → (v'.ownBlock = v.ownBlock ∨ v'.ownBlock = some w.heap.size) → K (a.put o.dst v') w') : o.wp P a w K Q := by
  obtain ⟨v', w', hrun, h2, h3, h4⟩ := run_append_any (P := P) w base t o.type e i z size bytes ht hi hz hsize hby hzs hsz v n xs hown B A m c news hr h1 h63 hbytes hbase
  unfold Oper.wp execOp
  simp only [ho, resolve, invoke, builtin, Sem.run_bind, Sem.run_pure, Result.andThen_ok, List.map_toArray, List.map_cons, List.map_nil, hs, hx, hrun]
  exact h v' w' h2 h3 h4
theorem wpList_append_any {ops : Array Oper} {rest : List Oper} {o : Oper} {a : Act} {Q : Exit → Act → World → Prop} (hgd : o.guard = none) (s x : Operand) (t : TypeId)
    (ho : o.op = .call { callee := .builtin .append, args := #[s, x], argTypes := #[t, t] })
    (base : Nat) (e : TypeId) (i : TypeInfo) (z : Value) (size bytes : Nat) (ht : P.underlying t = some (.slice e)) (hi : P.info? e = some i) (hz : i.zero = some z)
    (hsize : i.size = size) (hby : i.bytes = bytes) (hzs : z.cells.size = size) (hsz : 0 < size)
    (v : Value) (n : Nat) (xs : List Value) (hs : a.eval s = v) (hown : w.ownsRow base e size v n xs)
    (B : Nat) (A : Option Addr) (m c : Nat) (news : List Value) (hx : a.eval x = .slice A m c) (hr : Reads w B size A m news) (h1 : ∀ u ∈ news, u.oneCell' = true)
    (h63 : n + m ≤ maxLen) (hbytes : (n + m) * bytes ≤ 140737488355328) (hbase : base ≤ w.heap.size)
    (h : ∀ v' w', w'.ownsRow base e size v' (n + m) (xs ++ news) → w.grownBy w' v.ownBlock → (v'.ownBlock = v.ownBlock ∨ v'.ownBlock = some w.heap.size) → wpList P ops Q rest (a.put o.dst v') w') : wpList P ops Q (o :: rest) a w :=
  wpList_plain hgd fun _ hK => wp_append_any w s x t ho base e i z size bytes ht hi hz hsize hby hzs hsz v n xs hs hown B A m c news hx hr h1 h63 hbytes hbase fun v' w' h2 h3 h4 => hK _ _ (h v' w' h2 h3 h4)
end
end
/-- the cells of holdings -/
def valsH (hs : List Hd) : List Value := (flatH hs).map (Value.int .i64)
theorem vals_len (hs : List Hd) : (valsH hs).length = hs.length * 3 := by unfold valsH; rw [List.length_map, flat_len]
theorem vals_append (a b : List Hd) : valsH (a ++ b) = valsH a ++ valsH b := by unfold valsH; rw [flat_append, List.map_append]
theorem vals_drop (hs : List Hd) (k : Nat) : (valsH hs).drop (k * 3) = valsH (hs.drop k) := by unfold valsH; rw [← List.map_drop, flat_drop]
theorem vals_one (hs : List Hd) : ∀ u ∈ valsH hs, u.oneCell' = true := fun u hu => by
  unfold valsH at hu
  obtain ⟨z, _, rfl⟩ := List.mem_map.1 hu
  rfl
theorem vals_get {hs : List Hd} {k : Nat} (h : k < hs.length) : (valsH hs)[k * 3]? = some (.int .i64 (hs.getD k hd0).1) ∧ (valsH hs)[k * 3 + 1]? = some (.int .i64 (hs.getD k hd0).2.1) ∧ (valsH hs)[k * 3 + 2]? = some (.int .i64 (hs.getD k hd0).2.2) := by
  obtain ⟨a, b, c⟩ := flat_get hs k h
  have hl := flat_len hs
  have get : ∀ j, j < (flatH hs).length → (valsH hs)[j]? = some (.int .i64 ((flatH hs).getD j 0)) := fun j hj => by
    unfold valsH
    rw [List.getElem?_map, List.getElem?_eq_getElem hj, List.getD_eq_getElem?_getD, List.getElem?_eq_getElem hj]; rfl
  rw [get _ (by omega), get _ (by omega), get _ (by omega), a, b, c]
  exact ⟨rfl, rfl, rfl⟩
theorem add_off (g o j : Nat) : (⟨g, o, none⟩ : Addr).add j = ⟨g, o + j, none⟩ := by
  unfold Addr.add
  by_cases h : j = 0
  · subst h; simp
  · simp [h]
theorem hs_reads {w : World} {a : Option Addr} {hs : List Hd} (h : IsHs w a hs) : Reads w w.heap.size 3 a hs.length (valsH hs) := by
  refine ⟨vals_len hs, fun hn => ?_⟩
  rcases h with rfl | ⟨g, o, rfl, hc⟩
  · exact absurd hn (by simp)
  · refine ⟨⟨g, o, none⟩, rfl, ?_, fun j u hu => ?_⟩
    · exact World.block_lt_of_cell? w _ (hc 0 hn).1
    · have hl := vals_len hs
      have hj : j < (valsH hs).length := by
        rcases Nat.lt_or_ge j (valsH hs).length with h | h
        · exact h
        · rw [List.getElem?_eq_none h] at hu; cases hu
      have hk : j / 3 < hs.length := by omega
      obtain ⟨c0, c1, c2⟩ := hc _ hk
      obtain ⟨v0, v1, v2⟩ := vals_get hk
      have hm : j % 3 = 0 ∨ j % 3 = 1 ∨ j % 3 = 2 := by omega
      rw [add_off]
      rcases hm with e | e | e
      · have ej : j = j / 3 * 3 := by omega
        rw [ej] at hu ⊢; rw [v0] at hu; rw [c0, ← hu]
      · have ej : j = j / 3 * 3 + 1 := by omega
        rw [ej] at hu ⊢; rw [v1] at hu; rw [← Nat.add_assoc, c1, ← hu]
      · have ej : j = j / 3 * 3 + 2 := by omega
        rw [ej] at hu ⊢; rw [v2] at hu; rw [← Nat.add_assoc, c2, ← hu]
theorem reads_hs {w : World} {B : Nat} {a : Option Addr} {hs : List Hd} (h : Reads w B 3 a hs.length (valsH hs)) (hsp : ∀ ad, a = some ad → ad.spot = none) : IsHs w a hs := by
  by_cases hn : hs = []
  · exact .inl hn
  · obtain ⟨ad, rfl, _, hc⟩ := h.2 (by cases hs with | nil => exact absurd rfl hn | cons _ _ => simp)
    obtain ⟨g, o, sp⟩ := ad
    obtain rfl : sp = none := hsp _ rfl
    refine .inr ⟨g, o, rfl, fun i hi => ?_⟩
    obtain ⟨v0, v1, v2⟩ := vals_get hi
    have e0 := hc _ _ v0
    have e1 := hc _ _ v1
    have e2 := hc _ _ v2
    rw [add_off] at e0 e1 e2
    rw [← Nat.add_assoc] at e1 e2
    exact ⟨e0, e1, e2⟩
theorem infoH : (Try.prog.info? 91).map (fun i => (i.zero, i.size, i.bytes)) = some (some (.agg #[.int .i64 0, .int .i64 0, .int .i64 0]), 3, 24) := by kernel_rfl
/-- a row of the call's own that holds hs -/
def OwnH (w : World) (base : Nat) (v : Value) (hs : List Hd) : Prop := w.ownsRow base 91 3 v hs.length (valsH hs)
theorem hs_take {w : World} {g o : Nat} {hs : List Hd} (hc : ∀ i, i < hs.length → w.cell? ⟨g, o + i * 3, none⟩ = some (.int .i64 (hs.getD i hd0).1) ∧ w.cell? ⟨g, o + i * 3 + 1, none⟩ = some (.int .i64 (hs.getD i hd0).2.1) ∧ w.cell? ⟨g, o + i * 3 + 2, none⟩ = some (.int .i64 (hs.getD i hd0).2.2)) (k : Nat) : IsHs w (some ⟨g, o, none⟩) (hs.take k) := by
  refine .inr ⟨g, o, rfl, fun i hi => ?_⟩
  rw [List.length_take] at hi
  have e : (hs.take k).getD i hd0 = hs.getD i hd0 := by
    rw [List.getD_eq_getElem?_getD, List.getD_eq_getElem?_getD, List.getElem?_take_of_lt (by omega)]
  rw [e]; exact hc i (by omega)
/-- where a holding that is built anew lies -/
theorem new_cells (w : World) (cs : List Value) (t : TypeId) : ∀ j u, cs[j]? = some u → (w.alloc (.cells cs.toArray t)).cell? ((⟨w.heap.size, 0, none⟩ : Addr).add j) = some u := fun j u hu => by
  rw [add_off, Nat.zero_add, (Blk.new w t cs.toArray).cell j, ← hu]; simp
/-- block g begins with the numbers zs, and may be written -/
def Flat (w : World) (g : Nat) (t : TypeId) (zs : List Int) : Prop := ∃ cs : Array Value, w.heap[g]? = some (.cells cs t (0, 0)) ∧ ∀ j, j < zs.length → cs[j]? = some (.int .i64 (zs.getD j 0))
theorem Flat.cell {w : World} {g : Nat} {t : TypeId} {zs : List Int} (h : Flat w g t zs) {j : Nat} (hj : j < zs.length) : w.cell? ⟨g, j, none⟩ = some (.int .i64 (zs.getD j 0)) := by
  obtain ⟨cs, hb, hc⟩ := h
  rw [cell_of_row w g j cs t (0, 0) hb]; exact hc j hj
/-- a row of the call's own that begins with numbers: nil, or a block -/
theorem Flat.own {w : World} {base : Nat} {e : TypeId} {size n : Nat} {v : Value} {zs : List Int} (h : w.ownsRow base e size v n (zs.map (Value.int .i64))) : (v = .slice none 0 0 ∧ n = 0) ∨ ∃ g cap, v = .slice (some ⟨g, 0, none⟩) n cap ∧ base ≤ g ∧ Flat w g e zs ∧ n ≤ cap := by
  rcases h.2 with h0 | ⟨g, cap, cur, rfl, hg, hb, hnc, _, _, ht⟩
  · exact .inl h0
  · refine .inr ⟨g, cap, rfl, hg, ⟨cur, hb, fun j hj => ?_⟩, hnc⟩
    have hl := h.1
    rw [List.length_map] at hl
    have : (List.take (n * size) cur.toList)[j]? = some (.int .i64 (zs.getD j 0)) := by
      rw [ht, List.getElem?_map, List.getElem?_eq_getElem hj, List.getD_eq_getElem?_getD, List.getElem?_eq_getElem hj]; rfl
    rw [List.getElem?_take_of_lt (by omega)] at this
    simpa using this
theorem Flat.hs {w : World} {g : Nat} {t : TypeId} {hs : List Hd} (h : Flat w g t (flatH hs)) : IsHs w (some ⟨g, 0, none⟩) hs := by
  refine .inr ⟨g, 0, rfl, fun i hi => ?_⟩
  obtain ⟨a, b, c⟩ := flat_get hs i hi
  have hl := flat_len hs
  rw [Nat.zero_add]
  exact ⟨by rw [h.cell (by omega), a], by rw [h.cell (by omega), b], by rw [h.cell (by omega), c]⟩
/-- a row of the call's own that begins with numbers: nil, or a block -/
def RowF (w : World) (base : Nat) (t : TypeId) (v : Value) (n : Nat) (zs : List Int) : Prop := (v = .slice none 0 0 ∧ n = 0) ∨ ∃ g cap, v = .slice (some ⟨g, 0, none⟩) n cap ∧ base ≤ g ∧ Flat w g t zs ∧ n ≤ cap
theorem own_form {w : World} {base n size : Nat} {t : TypeId} {v : Value} {xs : List Value} (h : w.ownsRow base t size v n xs) : ∃ b k, v = .slice b n k ∧ n ≤ k := by
  rcases h.2 with ⟨e, h0⟩ | ⟨g, cap, cur, e, _, _, hc, _⟩
  · exact ⟨none, 0, by rw [e, h0], by omega⟩
  · exact ⟨_, _, e, hc⟩
/-- 6 cells of a block stored anew -/
def sets6 (w : World) (b : Nat) (v0 v1 v2 v3 v4 v5 : Value) : World := ((((((w.setCell ⟨b, 0, none⟩ v0).setCell ⟨b, 1, none⟩ v1).setCell ⟨b, 2, none⟩ v2).setCell ⟨b, 3, none⟩ v3).setCell ⟨b, 4, none⟩ v4).setCell ⟨b, 5, none⟩ v5)
theorem sets6_blk {w : World} {b : Nat} {t : TypeId} {u0 u1 u2 u3 u4 u5 v0 v1 v2 v3 v4 v5 : Value} (h : Blk w b t #[u0, u1, u2, u3, u4, u5]) : Blk (sets6 w b v0 v1 v2 v3 v4 v5) b t #[v0, v1, v2, v3, v4, v5] := by
  have k := ((((((h.set_ 0 v0).set_ 1 v1).set_ 2 v2).set_ 3 v3).set_ 4 v4).set_ 5 v5)
  simp only [List.setIfInBounds_toArray, List.set_cons_zero, List.set_cons_succ] at k
  exact k
theorem cells6 {w : World} {g : Nat} {t : TypeId} {v0 v1 v2 v3 v4 v5 : Value} (h : Blk w g t #[v0, v1, v2, v3, v4, v5]) : w.cell? ⟨g, 0, none⟩ = some v0 ∧ w.cell? ⟨g, 1, none⟩ = some v1 ∧ w.cell? ⟨g, 2, none⟩ = some v2 ∧ w.cell? ⟨g, 3, none⟩ = some v3 ∧ w.cell? ⟨g, 4, none⟩ = some v4 ∧ w.cell? ⟨g, 5, none⟩ = some v5 := ⟨h.cell 0, h.cell 1, h.cell 2, h.cell 3, h.cell 4, h.cell 5⟩


theorem wpList_str6 {P : Program} {ops : Array Oper} {rest : List Oper} {op : Oper} {a : Act} {w : World} {Q : Exit → Act → World → Prop} (hgd : op.guard = none) (ty : TypeId) (x y : Operand) (ho : op.op = .store ty x y)
    (b : Nat) (v0 v1 v2 v3 v4 v5 : Value) (hx : a.eval x = .pointer (some ⟨b, 0, none⟩)) (hy : a.eval y = .agg #[v0, v1, v2, v3, v4, v5]) {t : TypeId} {u0 u1 u2 u3 u4 u5 : Value} (K : Blk w b t #[u0, u1, u2, u3, u4, u5])
    (hi : (P.info? ty).map (·.size) = some 6) (h1 : (v0.oneCell' && v1.oneCell' && v2.oneCell' && v3.oneCell' && v4.oneCell' && v5.oneCell') = true)
    (h : wpList P ops Q rest (a.put op.dst undef) (sets6 w b v0 v1 v2 v3 v4 v5)) : wpList P ops Q (op :: rest) a w := by
  have h2 : (#[v0, v1, v2, v3, v4, v5] : Array Value).all (·.oneCell') = true := by
    simp only [Bool.and_eq_true] at h1
    obtain ⟨⟨⟨⟨⟨a0, a1⟩, a2⟩, a3⟩, a4⟩, a5⟩ := h1
    simp [a0, a1, a2, a3, a4, a5]
  refine wpList_store_mid hgd ty x y ho b 0 #[v0, v1, v2, v3, v4, v5] hx hy (fun j hj => ?_) hi h2 ?_
  · have hj' : j < 6 := hj
    have hc : ∃ v, (#[u0, u1, u2, u3, u4, u5] : Array Value)[j]? = some v := ⟨_, Array.getElem?_eq_getElem (by simpa using hj')⟩
    rw [Nat.zero_add]
    obtain ⟨q0, q1, q2, q3, q4, q5⟩ := cells6 K
    refine ⟨?_, K.frozen j⟩
    have hm : j = 0 ∨ j = 1 ∨ j = 2 ∨ j = 3 ∨ j = 4 ∨ j = 5 := by omega
    rcases hm with e | e | e | e | e | e <;> subst e <;> simp [*]
  · exact h
/-- the reader in block b, which has read at most P numbers -/
def Rd (w : World) (b : Nat) (P : Int) : Prop := ∃ (a : Option Addr) (len cap k : Nat),
  w.cell? ⟨b, 0, none⟩ = some (.slice a len cap) ∧ w.cell? ⟨b, 1, none⟩ = some (.int .i64 (k : Int)) ∧ (k : Int) ≤ P ∧ w.frozen? ⟨b, 1, none⟩ = false ∧ len ≤ 2000 ∧
  (len = 0 ∨ ∃ ab off, a = some ⟨ab, off, none⟩ ∧ ab < b ∧ ∀ i, i < len → ∃ x : Int, w.cell? ⟨ab, off + i, none⟩ = some (.int .u8 x) ∧ 0 ≤ x ∧ x < 256)
theorem g_alloc {a w : World} {row : Option Nat} (h : a.grownBy w row) (o : Obj) : a.grownBy (w.alloc o) row :=
  ⟨h.os, h.tape, h.output, Nat.le_trans h.size (by simp), fun i hi hne => (Below.heap_alloc w o i (Nat.lt_of_lt_of_le hi h.size)).trans (h.block i hi hne)⟩
theorem g_set {a w : World} {g : Nat} (h : a.grownBy w (some g)) {p : Addr} (hp : p.block = g ∨ a.heap.size ≤ p.block) (u : Value) : a.grownBy (w.setCell p u) (some g) :=
  ⟨h.os, h.tape, h.output, by simpa [World.setCell] using h.size, fun i hi hne => (Below.heap_setCell w p u i (by
    rintro rfl
    rcases hp with hp | hp
    · exact hne (by rw [hp])
    · omega)).trans (h.block i hi hne)⟩
theorem g_below {a w : World} (h : Below a.heap.size a w) (row : Option Nat) : a.grownBy w row := ⟨h.os, h.tape, h.output, h.size, fun i hi _ => h.block i hi⟩
theorem g_drewN {a w : World} {row : Option Nat} (h : a.grownBy w row) (n : Nat) : a.grownBy (w.drewN n) row := ⟨h.os, h.tape, h.output, h.size, h.block⟩
theorem g_trans {a b c : World} {g : Nat} (h : a.grownBy b (some g)) (k : b.grownBy c (some g)) : a.grownBy c (some g) :=
  ⟨k.os.trans h.os, k.tape.trans h.tape, k.output.trans h.output, Nat.le_trans h.size k.size, fun i hi hne => (k.block i (Nat.lt_of_lt_of_le hi h.size) hne).trans (h.block i hi hne)⟩
theorem g_cell {a w : World} {g : Nat} (h : a.grownBy w (some g)) {b o : Nat} (hb : b < a.heap.size) (hne : b ≠ g) : w.cell? ⟨b, o, none⟩ = a.cell? ⟨b, o, none⟩ :=
  World.cell?_of_block (h.block b hb (fun e => hne (by injection e)))
theorem g_frozen {a w : World} {g : Nat} (h : a.grownBy w (some g)) {b o : Nat} (hb : b < a.heap.size) (hne : b ≠ g) : w.frozen? ⟨b, o, none⟩ = a.frozen? ⟨b, o, none⟩ :=
  World.frozen?_of_block (h.block b hb (fun e => hne (by injection e)))
theorem so {w : World} {a c : Addr} {v u : Value} (h : a ≠ c) (hu : w.cell? c = some u) : (w.setCell a v).cell? c = some u := by
  rw [World.cell?_setCell_other]
  · exact hu
  · exact h
theorem ofInt_i64 (a : Nat) (ha : a < 9223372036854775808) : (BitVec.ofInt 64 (a : Int)).toNat = a := by
  rw [BitVec.ofInt_natCast, BitVec.toNat_ofNat]; exact Nat.mod_eq_of_lt (by omega)
theorem i64_xor_nat (a b : Nat) (ha : a < 9223372036854775808) (hb : b < 9223372036854775808) : bits .xor .i64 (a : Int) (b : Int) = ((a ^^^ b : Nat) : Int) := by
  have hx : a ^^^ b < 2 ^ 63 := Nat.xor_lt_two_pow (by omega) (by omega)
  show IntKind.i64.wrap ((BitVec.ofInt 64 (a : Int) ^^^ BitVec.ofInt 64 (b : Int)).toNat : Int) = _
  rw [BitVec.toNat_xor, ofInt_i64 a ha, ofInt_i64 b hb, IntKind.wrap_i64]
  omega
theorem mixv (X n : Int) (h0 : 0 ≤ X) (h1 : X ≤ 1000000000) (hn : 1 ≤ n) : 0 ≤ (bits .xor .i64 X (X / 64)).tmod n ∧ (bits .xor .i64 X (X / 64)).tmod n < n := by
  obtain ⟨a, rfl⟩ := Int.eq_ofNat_of_zero_le h0
  have e : ((a : Int) / 64) = ((a / 64 : Nat) : Int) := by omega
  rw [e, i64_xor_nat a (a / 64) (by omega) (by omega)]
  rw [Int.tmod_eq_emod_of_nonneg (by omega)]
  exact ⟨Int.emod_nonneg _ (by omega), Int.emod_lt_of_pos _ (by omega)⟩
theorem pick_low (b len cap k : Nat) (a : Option Addr) (n : Int) (w : World) (_h0 : w.cell? ⟨b, 0, none⟩ = some (.slice a len cap)) (h1 : w.cell? ⟨b, 1, none⟩ = some (.int .i64 (k : Int))) (hf : w.frozen? ⟨b, 1, none⟩ = false) (hk : (k : Int) ≤ 100000) (hn : n < 1) :
    Calls Try.prog 58 #[.pointer (some ⟨b, 0, none⟩), .int .i64 n] w fun e w' => e = .returned (.int .i64 0) ∧ w.setCell ⟨b, 1, none⟩ (.int .i64 ((k : Int) + 1)) = w' := by
  go_enter Try.func58, Try.ntmps58
  go_wp2
  go_ret
  exact ⟨rfl, rfl⟩
theorem pick_none (b cap k : Nat) (a : Option Addr) (n : Int) (w : World) (h0 : w.cell? ⟨b, 0, none⟩ = some (.slice a 0 cap)) (h1 : w.cell? ⟨b, 1, none⟩ = some (.int .i64 (k : Int))) (hf : w.frozen? ⟨b, 1, none⟩ = false) (hk : (k : Int) ≤ 100000) (hn : 1 ≤ n) :
    Calls Try.prog 58 #[.pointer (some ⟨b, 0, none⟩), .int .i64 n] w fun e w' => e = .returned (.int .i64 0) ∧ w.setCell ⟨b, 1, none⟩ (.int .i64 ((k : Int) + 1)) = w' := by
  have e1 : (⟨b, 1, none⟩ : Addr) ≠ ⟨b, 0, none⟩ := by simp
  have c0 := so (v := .int .i64 ((k : Int) + 1)) e1 h0
  go_enter Try.func58, Try.ntmps58
  go_wp2
  go_ret
  exact ⟨rfl, rfl⟩
theorem pick_byte (b len cap k ab off : Nat) (x n : Int) (w : World) (h0 : w.cell? ⟨b, 0, none⟩ = some (.slice (some ⟨ab, off, none⟩) len cap)) (h1 : w.cell? ⟨b, 1, none⟩ = some (.int .i64 (k : Int))) (hf : w.frozen? ⟨b, 1, none⟩ = false) (hl : len ≤ 2000) (hn : 1 ≤ n) (hlt : k < len)
    (hne : ab ≠ b) (hx : w.cell? ⟨ab, off + k, none⟩ = some (.int .u8 x)) (hx0 : 0 ≤ x) (hx1 : x < 256) :
    Calls Try.prog 58 #[.pointer (some ⟨b, 0, none⟩), .int .i64 n] w fun e w' => e = .returned (.int .i64 (x % n)) ∧ w.setCell ⟨b, 1, none⟩ (.int .i64 ((k : Int) + 1)) = w' := by
  have e1 : (⟨b, 1, none⟩ : Addr) ≠ ⟨b, 0, none⟩ := by simp
  have e2 : (⟨b, 1, none⟩ : Addr) ≠ ⟨ab, off + k, none⟩ := by intro h; injection h with h; exact hne h.symm
  have c0 := so (v := .int .i64 ((k : Int) + 1)) e1 h0
  have c2 := so (v := .int .i64 ((k : Int) + 1)) e2 hx
  have hl0 : ((len : Int) == 0) = false := by simp; omega
  clear e2
  go_enter Try.func58, Try.ntmps58
  go_wp2
  go_ret
  exact ⟨rfl, rfl⟩
theorem pick_mix (b len cap k ab off : Nat) (x y n : Int) (w : World) (h0 : w.cell? ⟨b, 0, none⟩ = some (.slice (some ⟨ab, off, none⟩) len cap)) (h1 : w.cell? ⟨b, 1, none⟩ = some (.int .i64 (k : Int))) (hf : w.frozen? ⟨b, 1, none⟩ = false) (hl : len ≤ 2000) (hl1 : 1 ≤ len) (hk : k ≤ 100000) (hn : 1 ≤ n) (hlt : ¬ k < len)
    (hne : ab ≠ b) (hx : w.cell? ⟨ab, off + k % len, none⟩ = some (.int .u8 x)) (hx0 : 0 ≤ x) (hx1 : x < 256) (hy : w.cell? ⟨ab, off + (k * 7 + 3) % len, none⟩ = some (.int .u8 y)) (hy0 : 0 ≤ y) (hy1 : y < 256) :
    Calls Try.prog 58 #[.pointer (some ⟨b, 0, none⟩), .int .i64 n] w fun e w' => (∃ v : Int, e = .returned (.int .i64 v) ∧ 0 ≤ v ∧ v < n) ∧ ∃ m, (w.setCell ⟨b, 1, none⟩ (.int .i64 ((k : Int) + 1))).drewN m = w' := by
  have e1 : (⟨b, 1, none⟩ : Addr) ≠ ⟨b, 0, none⟩ := by simp
  have e2 : (⟨b, 1, none⟩ : Addr) ≠ ⟨ab, off + k % len, none⟩ := by intro h; injection h with h; exact hne h.symm
  have e3 : (⟨b, 1, none⟩ : Addr) ≠ ⟨ab, off + (k * 7 + 3) % len, none⟩ := by intro h; injection h with h; exact hne h.symm
  have c0 := so (v := .int .i64 ((k : Int) + 1)) e1 h0
  have c2 := so (v := .int .i64 ((k : Int) + 1)) e2 hx
  have c3 := so (v := .int .i64 ((k : Int) + 1)) e3 hy
  have hl0 : ((len : Int) == 0) = false := by simp; omega
  have hk' : ¬ (k : Int) < (len : Int) := by omega
  have m1 : (k : Int) % (len : Int) < (len : Int) := Int.emod_lt_of_pos _ (by omega)
  have m2 : 0 ≤ (k : Int) % (len : Int) := Int.emod_nonneg _ (by omega)
  have m3 : ((k : Int) * 7 + 3) % (len : Int) < (len : Int) := Int.emod_lt_of_pos _ (by omega)
  have m4 : 0 ≤ ((k : Int) * 7 + 3) % (len : Int) := Int.emod_nonneg _ (by omega)
  have q1 : 0 ≤ (k : Int) / (len : Int) := Int.ediv_nonneg (by omega) (by omega)
  have q2 : (k : Int) / (len : Int) ≤ 100000 := Int.le_trans (Int.ediv_le_self _ (by omega)) (by omega)
  clear e2 e3
  go_enter Try.func58, Try.ntmps58
  go_wp2_with fail
  go_quiet (fail)
  go_wp2
  go_ret
  exact ⟨⟨_, rfl, mixv _ n (by omega) (by omega) hn⟩, _, rfl⟩
/-- what pick leaves -/
def Picked (w : World) (b : Nat) (P n : Int) (e : Ending) (w' : World) : Prop := ∃ v : Nat, e = .returned (.int .i64 (v : Int)) ∧ ((v : Int) < n ∨ v = 0) ∧ Rd w' b P ∧ w.grownBy w' (some b)
theorem picked {w : World} {b : Nat} {P n v : Int} {w' : World} (h0 : 0 ≤ v) (h1 : v < n ∨ v = 0) (h2 : Rd w' b P) (h3 : w.grownBy w' (some b)) : Picked w b P n (.returned (.int .i64 v)) w' :=
  ⟨v.toNat, by rw [Int.toNat_of_nonneg h0], by omega, h2, h3⟩
theorem rd_step {w : World} {b : Nat} {P : Int} {a : Option Addr} {len cap k : Nat} (m : Nat) (h0 : w.cell? ⟨b, 0, none⟩ = some (.slice a len cap)) (h1 : w.cell? ⟨b, 1, none⟩ = some (.int .i64 (k : Int))) (hk : (k : Int) ≤ P) (hf : w.frozen? ⟨b, 1, none⟩ = false) (hl : len ≤ 2000)
    (hr : len = 0 ∨ ∃ ab off, a = some ⟨ab, off, none⟩ ∧ ab < b ∧ ∀ i, i < len → ∃ x : Int, w.cell? ⟨ab, off + i, none⟩ = some (.int .u8 x) ∧ 0 ≤ x ∧ x < 256) :
    Rd ((w.setCell ⟨b, 1, none⟩ (.int .i64 ((k : Int) + 1))).drewN m) b (P + 1) ∧ w.grownBy ((w.setCell ⟨b, 1, none⟩ (.int .i64 ((k : Int) + 1))).drewN m) (some b) := by
  have hg : w.grownBy ((w.setCell ⟨b, 1, none⟩ (.int .i64 ((k : Int) + 1))).drewN m) (some b) := g_drewN (g_set (g_below (Below.refl _ _) _) (.inl rfl) _) m
  refine ⟨⟨a, len, cap, k + 1, ?_, ?_, by omega, ?_, hl, ?_⟩, hg⟩
  · show (w.setCell ⟨b, 1, none⟩ (.int .i64 ((k : Int) + 1))).cell? _ = _
    exact so (by simp) h0
  · show (w.setCell ⟨b, 1, none⟩ (.int .i64 ((k : Int) + 1))).cell? _ = _
    rw [World.cell?_setCell_same' _ _ _ (by rw [h1]; rfl)]; simp
  · show (w.setCell ⟨b, 1, none⟩ (.int .i64 ((k : Int) + 1))).frozen? _ = _
    simp [go_sem, hf]
  · rcases hr with hr | ⟨ab, off, ha, hlt, hx⟩
    · exact .inl hr
    · refine .inr ⟨ab, off, ha, hlt, fun i hi => ?_⟩
      obtain ⟨x, hc, h2⟩ := hx i hi
      refine ⟨x, ?_, h2⟩
      show (w.setCell ⟨b, 1, none⟩ (.int .i64 ((k : Int) + 1))).cell? _ = _
      exact so (by intro h; injection h with h; omega) hc
theorem pick_any (b : Nat) (P n : Int) (w : World) (h : Rd w b P) (hP : P ≤ 100000) :
    Calls Try.prog 58 #[.pointer (some ⟨b, 0, none⟩), .int .i64 n] w (Picked w b (P + 1) n) := by
  obtain ⟨a, len, cap, k, h0, h1, hk, hf, hl, hr⟩ := h
  by_cases hn : n < 1
  · refine (pick_low b len cap k a n w h0 h1 hf (by omega) hn).mono ?_
    rintro e w' ⟨rfl, rfl⟩
    exact picked (by omega) (.inr rfl) (rd_step 0 h0 h1 hk hf hl hr).1 (rd_step 0 h0 h1 hk hf hl hr).2
  · by_cases hz : len = 0
    · subst hz
      refine (pick_none b cap k a n w h0 h1 hf (by omega) (by omega)).mono ?_
      rintro e w' ⟨rfl, rfl⟩
      exact picked (by omega) (.inr rfl) (rd_step 0 h0 h1 hk hf hl hr).1 (rd_step 0 h0 h1 hk hf hl hr).2
    · have hr' := hr
      rcases hr' with hr' | ⟨ab, off, rfl, hlt, hx⟩
      · exact absurd hr' hz
      · by_cases hkl : k < len
        · obtain ⟨x, hc, x0, x1⟩ := hx k hkl
          refine (pick_byte b len cap k ab off x n w h0 h1 hf hl (by omega) hkl (by omega) hc x0 x1).mono ?_
          rintro e w' ⟨rfl, rfl⟩
          exact picked (Int.emod_nonneg _ (by omega)) (.inl (Int.emod_lt_of_pos _ (by omega))) (rd_step 0 h0 h1 hk hf hl hr).1 (rd_step 0 h0 h1 hk hf hl hr).2
        · obtain ⟨x, hc, x0, x1⟩ := hx (k % len) (Nat.mod_lt _ (by omega))
          obtain ⟨y, hd, y0, y1⟩ := hx ((k * 7 + 3) % len) (Nat.mod_lt _ (by omega))
          refine (pick_mix b len cap k ab off x y n w h0 h1 hf hl (by omega) (by omega) (by omega) hkl (by omega) hc x0 x1 hd y0 y1).mono ?_
          rintro e w' ⟨⟨v, rfl, v0, v1⟩, m, rfl⟩
          exact picked v0 (.inl v1) (rd_step m h0 h1 hk hf hl hr).1 (rd_step m h0 h1 hk hf hl hr).2
/-- what one of a list leaves -/
def Oned (w : World) (b : Nat) (P lo hi : Int) (e : Ending) (w' : World) : Prop := ∃ v : Int, e = .returned (.int .i64 v) ∧ lo ≤ v ∧ v ≤ hi ∧ Rd w' b P ∧ w.grownBy w' (some b)
theorem one_any (b g n cap : Nat) (P lo hi : Int) (w : World) (h : Rd w b P) (hP : P ≤ 100000) (hgb : g ≠ b) (hgs : g < w.heap.size) (hn : 1 ≤ n) (hn' : n ≤ 1000)
    (hc : ∀ i, i < n → ∃ z : Int, w.cell? ⟨g, i, none⟩ = some (.int .i64 z) ∧ lo ≤ z ∧ z ≤ hi) :
    Calls Try.prog 54 #[.pointer (some ⟨b, 0, none⟩), .slice (some ⟨g, 0, none⟩) n cap] w (Oned w b (P + 1) lo hi) := by
  go_enter Try.func54, Try.ntmps54
  go_wp2_with fail
  refine (pick_any b P n _ h hP).mono ?_
  rintro e w' ⟨v, rfl, hv, hR, hG⟩
  have hvn : v < n := by omega
  have hvi : (v : Int) < (n : Int) := by omega
  obtain ⟨z, hz, z0, z1⟩ := hc v hvn
  have hz' := (g_cell (o := v) hG hgs hgb).trans hz
  clear hz hc hv
  go_wp2
  go_ret
  exact ⟨z, rfl, z0, z1, hR, hG⟩
/-- newReader -/
def Made (w : World) (e : Ending) (w' : World) : Prop := e = .returned (.pointer (some ⟨w.heap.size, 0, none⟩)) ∧ Rd w' w.heap.size 0 ∧ Below w.heap.size w w' ∧ w.heap.size < w'.heap.size
theorem byte_bd {z : Int} (h : (Lit.int .u8 z).wf = true) : 0 ≤ z ∧ z < 256 := by
  have := bounds_u8 h
  omega
theorem rd_new (w : World) (a : Option Addr) (len cap : Nat) (t : TypeId) (hl : len ≤ 2000)
    (hr : len = 0 ∨ ∃ ab off, a = some ⟨ab, off, none⟩ ∧ ab < w.heap.size ∧ ∀ i, i < len → ∃ x : Int, w.cell? ⟨ab, off + i, none⟩ = some (.int .u8 x) ∧ 0 ≤ x ∧ x < 256) :
    Made w (.returned (.pointer (some ⟨w.heap.size, 0, none⟩))) (w.alloc (.cells #[.slice a len cap, .int .i64 0] t)) := by
  have hb : Below w.heap.size w (w.alloc (.cells #[.slice a len cap, .int .i64 0] t)) := (Below.refl _ _).alloc (Nat.le_refl _) _
  refine ⟨rfl, ⟨a, len, cap, 0, by simp [go_sem], by simp [go_sem], by simp, by simp [go_sem], hl, ?_⟩, hb, by simp⟩
  rcases hr with hr | ⟨ab, off, ha, hlt, hx⟩
  · exact .inl hr
  · refine .inr ⟨ab, off, ha, hlt, fun i hi => ?_⟩
    obtain ⟨x, hc, h2⟩ := hx i hi
    exact ⟨x, (hb.cell (p := ⟨ab, off + i, none⟩) hlt).trans hc, h2⟩
theorem row_bytes {w : World} {x : Addr} {len cap : Nat} {zs : List Int} (hl : len ≤ cap) (hz : zs.length = cap) (hcell : ∀ i, i < zs.length → w.cell? (x.add i) = some (.int .u8 (zs.getD i 0))) (hwz : ∀ n ∈ zs, (Lit.int .u8 n).wf = true) :
    len = 0 ∨ ∃ ab off, some x = some (⟨ab, off, none⟩ : Addr) ∧ ab < w.heap.size ∧ ∀ i, i < len → ∃ y : Int, w.cell? ⟨ab, off + i, none⟩ = some (.int .u8 y) ∧ 0 ≤ y ∧ y < 256 := by
  by_cases h0 : len = 0
  · exact .inl h0
  · obtain ⟨b, off, spot⟩ := x
    have hc := hcell 0 (by omega)
    have hspot : spot = none := by simpa [Addr.add] using World.cell?_spot hc
    subst hspot
    have hlt : b < w.heap.size := World.block_lt_of_cell? w _ hc
    refine .inr ⟨b, off, rfl, hlt, fun i hi => ?_⟩
    have hci := hcell i (by omega)
    have hci' : w.cell? ⟨b, off + i, none⟩ = some (.int .u8 (zs.getD i 0)) := by
      by_cases hi0 : i = 0
      · subst hi0; simpa [Addr.add] using hci
      · simpa [Addr.add, hi0] using hci
    exact ⟨zs.getD i 0, hci', byte_bd (hwz _ (by rw [List.getD_eq_getElem?_getD, List.getElem?_eq_getElem (by omega)]; simp))⟩
theorem newReader_any (a : Option Addr) (len cap : Nat) (zs : List Int) (w : World) (h : IsRow .u8 w a len cap zs) :
    Calls Try.prog 52 #[.slice a len cap] w (Made w) := by
  rcases h with ⟨rfl, rfl, rfl, rfl⟩ | ⟨x, rfl, hl, hm, hz, hcell, hwz⟩
  · go_enter Try.func52, Try.ntmps52
    go_wp2
    go_ret
    exact rd_new w none 0 0 _ (by omega) (.inl rfl)
  · have hr := row_bytes hl hz hcell hwz
    clear hcell hwz
    unfold maxLen at hm
    by_cases h2 : (2000 : Int) < (len : Int)
    · have hr2 : 2000 = 0 ∨ ∃ ab off, some x = some (⟨ab, off, none⟩ : Addr) ∧ ab < w.heap.size ∧ ∀ i, i < 2000 → ∃ y : Int, w.cell? ⟨ab, off + i, none⟩ = some (.int .u8 y) ∧ 0 ≤ y ∧ y < 256 := by
        rcases hr with hr | ⟨ab, off, ha, hb, hx⟩
        · omega
        · exact .inr ⟨ab, off, ha, hb, fun i hi => hx i (by omega)⟩
      have HR := Lib.hid hr2
      clear hr hr2
      go_enter Try.func52, Try.ntmps52
      go_wp2
      go_ret
      exact rd_new w (some x) 2000 cap _ (by omega) HR.out
    · have HR := Lib.hid hr
      clear hr
      go_enter Try.func52, Try.ntmps52
      go_wp2
      go_ret
      exact rd_new w (some x) len cap _ (by omega) HR.out
/-- a block of two cells that may be written -/
def Cell2 (w : World) (g : Nat) (x y : Value) : Prop := w.cell? ⟨g, 0, none⟩ = some x ∧ w.cell? ⟨g, 1, none⟩ = some y ∧ w.frozen? ⟨g, 0, none⟩ = false ∧ w.frozen? ⟨g, 1, none⟩ = false ∧ g < w.heap.size
theorem c2_new (w : World) (x y : Value) (t : TypeId) : Cell2 (w.alloc (.cells #[x, y] t)) w.heap.size x y := by
  refine ⟨?_, ?_, ?_, ?_, ?_⟩ <;> simp [go_sem]
theorem c2_below {w w' : World} {g : Nat} {x y : Value} (h : Cell2 w g x y) (hB : Below w.heap.size w w') : Cell2 w' g x y := by
  obtain ⟨h0, h1, h2, h3, h4⟩ := h
  exact ⟨(hB.cell (p := ⟨g, 0, none⟩) h4).trans h0, (hB.cell (p := ⟨g, 1, none⟩) h4).trans h1, (hB.frozen (p := ⟨g, 0, none⟩) h4).trans h2, (hB.frozen (p := ⟨g, 1, none⟩) h4).trans h3, Nat.lt_of_lt_of_le h4 hB.size⟩
theorem c2_alloc {w : World} {g : Nat} {x y : Value} (h : Cell2 w g x y) (o : Obj) : Cell2 (w.alloc o) g x y := c2_below h ((Below.refl _ _).alloc (Nat.le_refl _) _)
theorem c2_grown {w w' : World} {g b : Nat} {x y : Value} (h : Cell2 w g x y) (hG : w.grownBy w' (some b)) (hne : g ≠ b) : Cell2 w' g x y := by
  obtain ⟨h0, h1, h2, h3, h4⟩ := h
  exact ⟨(g_cell hG h4 hne).trans h0, (g_cell hG h4 hne).trans h1, (g_frozen hG h4 hne).trans h2, (g_frozen hG h4 hne).trans h3, Nat.lt_of_lt_of_le h4 hG.size⟩
theorem rd_below {w w' : World} {b B : Nat} {P : Int} (h : Rd w b P) (hb : b < B) (hB : Below B w w') : Rd w' b P := by
  obtain ⟨a, len, cap, k, h0, h1, hk, hf, hl, hr⟩ := h
  refine ⟨a, len, cap, k, (hB.cell (p := ⟨b, 0, none⟩) hb).trans h0, (hB.cell (p := ⟨b, 1, none⟩) hb).trans h1, hk, (hB.frozen (p := ⟨b, 1, none⟩) hb).trans hf, hl, ?_⟩
  rcases hr with hr | ⟨ab, off, ha, hlt, hx⟩
  · exact .inl hr
  · refine .inr ⟨ab, off, ha, hlt, fun i hi => ?_⟩
    obtain ⟨x, hc, h2⟩ := hx i hi
    exact ⟨x, (hB.cell (p := ⟨ab, off + i, none⟩) (Nat.lt_trans hlt hb)).trans hc, h2⟩
theorem rd_end {w w4 wf : World} {b : Nat} {P P' : Int} (hb : b < w.heap.size) (hR : Rd w4 b P') (hP : P' = P) (hG : w.grownBy w4 (some b)) (hB : Below w.heap.size w4 wf) : Rd wf b P ∧ w.grownBy wf (some b) :=
  ⟨hP ▸ rd_below hR hb hB, ⟨hB.os.trans hG.os, hB.tape.trans hG.tape, hB.output.trans hG.output, Nat.le_trans hG.size hB.size, fun i hi hne => (hB.block i hi).trans (hG.block i hi hne)⟩⟩
theorem rd_up {w : World} {b : Nat} {P P' : Int} (h : Rd w b P) (hP : P ≤ P') : Rd w b P' := by
  obtain ⟨a, len, cap, k, h0, h1, hk, hr⟩ := h
  exact ⟨a, len, cap, k, h0, h1, by omega, hr⟩
theorem rd_alloc {w : World} {b : Nat} {P : Int} (h : Rd w b P) (hb : b < w.heap.size) (o : Obj) : Rd (w.alloc o) b P := rd_below h hb ((Below.refl _ _).alloc (Nat.le_refl _) _)
theorem g_new {w w' : World} {b : Nat} {o : Obj} (h : (w.alloc o).grownBy w' (some b)) : w.grownBy w' (some b) := g_trans (World.grownBy_alloc w o _) h
theorem lit_cells (w : World) (zs : List Int) (t : TypeId) (lo hi : Int) (hz : ∀ z ∈ zs, lo ≤ z ∧ z ≤ hi) :
    ∀ i, i < zs.length → ∃ z : Int, (w.alloc (.cells (zs.map (Value.int .i64)).toArray t)).cell? ⟨w.heap.size, i, none⟩ = some (.int .i64 z) ∧ lo ≤ z ∧ z ≤ hi := by
  intro i hi'
  refine ⟨zs[i], ?_, hz _ (List.getElem_mem hi')⟩
  simp [World.cell?_alloc_new, hi']
/-- one of a list that has just been made -/
theorem one_lit (b n : Nat) (P lo hi : Int) (zs : List Int) (t : TypeId) (w : World) (h : Rd w b P) (hP : P ≤ 100000) (hb : b < w.heap.size) (hl : zs.length = n) (hn : 1 ≤ n) (hn' : n ≤ 1000) (hz : ∀ z ∈ zs, lo ≤ z ∧ z ≤ hi) :
    Calls Try.prog 54 #[.pointer (some ⟨b, 0, none⟩), .slice (some ⟨w.heap.size, 0, none⟩) n n] (w.alloc (.cells (zs.map (Value.int .i64)).toArray t)) (Oned w b (P + 1) lo hi) := by
  refine (one_any b w.heap.size n n P lo hi _ (rd_alloc h hb _) hP (by omega) (by simp) hn hn' (by rw [← hl]; exact lit_cells w zs t lo hi hz)).mono ?_
  rintro e w' ⟨v, rfl, v0, v1, hR, hG⟩
  exact ⟨v, rfl, v0, v1, hR, g_new hG⟩
theorem below_grown {w w1 w2 : World} {b : Nat} (h : Below w.heap.size w w1) (hG : w1.grownBy w2 (some b)) (hb : w.heap.size ≤ b) : Below w.heap.size w w2 :=
  ⟨hG.os.trans h.os, hG.tape.trans h.tape, hG.output.trans h.output, Nat.le_trans h.size hG.size, fun i hi => (hG.block i (Nat.lt_of_lt_of_le hi h.size) (fun e => by injection e with e; omega)).trans (h.block i hi)⟩
/-- what someFrac and anyFrac leave: a fraction whose numbers are small -/
def FracOf (w : World) (b : Nat) (P L K : Int) (e : Ending) (w' : World) : Prop := ∃ x y : Int, e = .returned (.agg #[.int .i64 x, .int .i64 y]) ∧ L ≤ x ∧ x ≤ K ∧ L ≤ y ∧ y ≤ K ∧ Rd w' b P ∧ w.grownBy w' (some b)
theorem someFrac_any (b : Nat) (P : Int) (w : World) (h : Rd w b P) (hP : P ≤ 90000) (hb : b < w.heap.size) :
    Calls Try.prog 108 #[.pointer (some ⟨b, 0, none⟩)] w (FracOf w b (P + 3) 0 1000000) := by
  go_enter Try.func108, Try.ntmps108
  go_wp2_with fail
  refine (pick_any b P 60 _ (rd_alloc h hb _) (by omega)).mono ?_
  rintro e w1 ⟨v, rfl, hv, hR1, hG1⟩
  have k1 := c2_grown (c2_new w (.int .i64 0) (.int .i64 0) _) hG1 (by omega)
  have hG1 := g_new hG1
  have hb1 := Nat.lt_of_lt_of_le hb hG1.size
  have hv60 : (v : Int) < 60 := by omega
  clear hv
  go_wp2_with fail
  refine (one_lit b 10 (P + 1) 1 97 [2, 3, 4, 6, 8, 12, 5, 1, 97, 1 + (v : Int)] _ w1 hR1 (by omega) hb1 rfl (by omega) (by omega) (by simp; omega)).mono ?_
  rintro e w2 ⟨d, rfl, d0, d1, hR2, hG2⟩
  have k2 := c2_grown k1 hG2 (by omega)
  have hb2 := Nat.lt_of_lt_of_le hb1 hG2.size
  go_wp2_with fail
  refine (pick_any b (P + 1 + 1) (d + 1) _ hR2 (by omega)).mono ?_
  rintro e w3 ⟨u, rfl, hu, hR3, hG3⟩
  have k3 := c2_grown k2 hG3 (by omega)
  have hb3 := Nat.lt_of_lt_of_le hb2 hG3.size
  have hud : (u : Int) ≤ d := by omega
  clear hu
  go_wp2_with fail
  refine (sred u d _ (by omega) (by omega) (by omega) (by omega)).mono ?_
  rintro e w4 ⟨rfl, hB4⟩
  obtain ⟨c0, c1, f0, f1, hz⟩ := c2_below k3 hB4
  have hR4 := rd_below hR3 hb3 hB4
  have hG4 : w.grownBy w4 (some b) := g_trans (g_trans (g_trans hG1 hG2) hG3) (g_below hB4 _)
  obtain ⟨⟨q1, q2⟩, q3, q4⟩ := Wsh.red_bd (u := (u : Int)) (d := d) (Wsh.redB u d) (by omega) hud d0 (by omega)
  clear hR1 hR2 hR3 hG1 hG2 hG3 hB4 k1 k2 k3
  go_wp2_with fail
  refine bodyPost_ret (v := .agg #[.int .i64 (Wsh.qn (Wsh.redB u d) (Wsh.rn u d)), .int .i64 (Wsh.qn (Wsh.redB u d) (Wsh.rd u d))]) (by simp [results, Try.results108, go_sem, c0, c1, hz]) rfl ⟨_, _, rfl, by omega, by omega, by omega, by omega, rd_end hb hR4 (by omega) hG4 (by go_grown)⟩
theorem anyFrac_any (b : Nat) (P : Int) (w : World) (h : Rd w b P) (hP : P ≤ 80000) (hb : b < w.heap.size) :
    Calls Try.prog 105 #[.pointer (some ⟨b, 0, none⟩)] w (FracOf w b (P + 5) (-2000000) 2000000) := by
  go_enter Try.func105, Try.ntmps105
  go_wp2_with fail
  refine (someFrac_any b P _ (rd_alloc h hb _) (by omega) (by simp; omega)).mono ?_
  rintro e w1 ⟨x, y, rfl, x0, x1, y0, y1, hR1, hG1⟩
  have k1 := c2_grown (c2_new w (.int .i64 0) (.int .i64 0) _) hG1 (by omega)
  have hG1 := g_new hG1
  have hb1 := Nat.lt_of_lt_of_le hb hG1.size
  go_wp2_with fail
  have z1 := k1.2.2.2.2
  refine (pick_any b (P + 3) 16 _ (rd_alloc hR1 hb1 _) (by omega)).mono ?_
  rintro e w2 ⟨v, rfl, hv, hR2, hG2⟩
  have j2 := c2_grown (c2_new w1 (.int .i64 x) (.int .i64 y) _) hG2 (by omega)
  have k2 := c2_grown (c2_alloc k1 _) hG2 (by omega)
  have hG2 := g_new hG2
  have hb2 := Nat.lt_of_lt_of_le hb1 hG2.size
  have hGG := g_trans hG1 hG2
  clear hR1 k1
  have zne : w.heap.size ≠ w1.heap.size := by omega
  by_cases v0 : v = 0
  · have e0 : ((v : Int) == 0) = true := by simp [v0]
    clear v0 hv
    go_wp2_with fail
    refine (one_lit b 4 (P + 3 + 1) (-1) 10001 [0, 10001, 10000, -1] _ w2 hR2 (by omega) hb2 rfl (by omega) (by omega) (by simp)).mono ?_
    rintro e w3 ⟨d, rfl, d0, d1, hR3, hG3⟩
    obtain ⟨j0, j1, i0, i1, jz⟩ := c2_grown j2 hG3 (by omega)
    obtain ⟨c0, c1, f0, f1, hz⟩ := c2_grown k2 hG3 (by omega)
    have hG := g_trans hGG hG3
    clear hR2 hGG hG1 hG2 hG3 j2 k2
    go_wp2_with fail
    refine bodyPost_ret (v := .agg #[.int .i64 x, .int .i64 d]) (by simp [results, Try.results105, go_sem, c0, c1]) rfl ⟨_, _, rfl, by omega, by omega, by omega, by omega, rd_end hb hR3 (by omega) hG (by go_grown)⟩
  · have e0 : ((v : Int) == 0) = false := by simp; omega
    by_cases v1 : v = 1
    · have e1 : ((v : Int) == 1) = true := by simp [v1]
      clear v0 v1 hv
      obtain ⟨p0, p1, q0, q1, pz⟩ := j2
      go_wp2_with fail
      refine (one_lit b 3 (P + 3 + 1) (-1000000) 1000001 [-1, y + 1, 2] _ w2 hR2 (by omega) hb2 rfl (by omega) (by omega) (by simp; omega)).mono ?_
      rintro e w3 ⟨d, rfl, d0, d1, hR3, hG3⟩
      obtain ⟨j0, j1, i0, i1, jz⟩ := c2_grown (⟨p0, p1, q0, q1, pz⟩ : Cell2 w2 w1.heap.size (.int .i64 x) (.int .i64 y)) hG3 (by omega)
      obtain ⟨c0, c1, f0, f1, hz⟩ := c2_grown k2 hG3 (by omega)
      have hG := g_trans hGG hG3
      clear hR2 hGG hG1 hG2 hG3 k2 p0 p1 q0 q1
      go_wp2_with fail
      refine bodyPost_ret (v := .agg #[.int .i64 d, .int .i64 y]) (by simp [results, Try.results105, go_sem, c0, c1]) rfl ⟨_, _, rfl, by omega, by omega, by omega, by omega, rd_end hb hR3 (by omega) hG (by go_grown)⟩
    · have e1 : ((v : Int) == 1) = false := by simp; omega
      clear v0 v1 hv
      obtain ⟨j0, j1, i0, i1, jz⟩ := j2
      obtain ⟨c0, c1, f0, f1, hz⟩ := k2
      clear hG1 hG2
      have hR3 : Rd w2 b (P + 5) := rd_up hR2 (by omega)
      go_wp2_with fail
      refine bodyPost_ret (v := .agg #[.int .i64 x, .int .i64 y]) (by simp [results, Try.results105, go_sem, c0, c1]) rfl ⟨_, _, rfl, by omega, by omega, by omega, by omega, rd_end hb hR3 rfl hGG (by go_grown)⟩
/-- what someLedger leaves -/
def SomeHd (w : World) (b : Nat) (P : Int) (e : Ending) (w' : World) : Prop := ∃ (v : Value) (k : Nat) (hs : List Hd), e = .returned v ∧ 1 ≤ k ∧ k ≤ 6 ∧ w'.ownsRow w.heap.size 91 3 v k (valsH hs) ∧ hs.length = k ∧ Rd w' b (P + 13) ∧ w.grownBy w' (some b)
theorem sum_low : ∀ {zs : List Int}, (∀ z ∈ zs, 1 ≤ z ∧ z ≤ 6) → (zs.length : Int) ≤ zs.sum ∧ zs.sum ≤ 6 * (zs.length : Int) := by
  intro zs
  induction zs with
  | nil => intro _; exact ⟨Int.le_refl _, Int.le_refl _⟩
  | cons h t ih =>
    intro hz
    have a := hz h (List.mem_cons_self ..)
    have b := ih fun z hz' => hz z (List.mem_cons_of_mem _ hz')
    rw [List.sum_cons, List.length_cons]
    omega
theorem keepOne {W wq v : World} {u : Value} {q : Addr} (hb : Below W.heap.size W wq) (h : W.cell? q = some u ∧ Below v.heap.size v W) : wq.cell? q = some u ∧ Below v.heap.size v wq :=
  ⟨(hb.cell (World.block_lt_of_cell? W _ h.1)).trans h.1, bel_tr h.2 hb⟩
theorem c2_set {w : World} {g : Nat} {x y : Value} (h : Cell2 w g x y) (x' y' : Value) : Cell2 ((w.setCell ⟨g, 0, none⟩ x').setCell ⟨g, 1, none⟩ y') g x' y' := by
  obtain ⟨c0, c1, f0, f1, hz⟩ := h
  have hne : (⟨g, 1, none⟩ : Addr) ≠ ⟨g, 0, none⟩ := by intro e; injection e with _ e; cases e
  have hne2 : (⟨g, 0, none⟩ : Addr) ≠ ⟨g, 1, none⟩ := fun e => hne e.symm
  refine ⟨so hne ?_, ?_, ?_, ?_, by simpa [World.setCell] using hz⟩
  · exact World.cell?_setCell_same' _ _ _ (by rw [c0]; rfl)
  · exact World.cell?_setCell_same' _ _ _ (by rw [so hne2 c1]; rfl)
  · rw [World.frozen?_setCell, World.frozen?_setCell]; exact f0
  · rw [World.frozen?_setCell, World.frozen?_setCell]; exact f1
theorem keepOut {W v : World} {g h k : Nat} {u x : Value} (hb : Below v.heap.size v (W.setCell ⟨g, 0, none⟩ x)) (hg : v.heap.size ≤ g) (hgy : Value) (hne : h ≠ g) (hc : W.cell? ⟨h, k, none⟩ = some u) : ((W.setCell ⟨g, 0, none⟩ x).setCell ⟨g, 1, none⟩ hgy).cell? ⟨h, k, none⟩ = some u ∧ Below v.heap.size v ((W.setCell ⟨g, 0, none⟩ x).setCell ⟨g, 1, none⟩ hgy) :=
  ⟨so (fun e => hne (by injection e with e; exact e.symm)) (so (fun e => hne (by injection e with e; exact e.symm)) hc), hb.setCell hg _⟩
theorem own_lowerR {w : World} {base base' n size : Nat} {t : TypeId} {v : Value} {xs : List Value} (h : w.ownsRow base t size v n xs) (hb : base' ≤ base) : w.ownsRow base' t size v n xs := by
  obtain ⟨hl, h | ⟨g, cap, cur, hv, hg, r⟩⟩ := h
  · exact ⟨hl, .inl h⟩
  · exact ⟨hl, .inr ⟨g, cap, cur, hv, Nat.le_trans hb hg, r⟩⟩
theorem own_ints0 {w : World} {base g cp k : Nat} {zs : List Int} (h : w.ownsRow base 3 1 (.slice (some ⟨g, 0, none⟩) k cp) k (zs.map (Value.int .i64))) : IsInts w (some ⟨g, 0, none⟩) zs := by
  refine .inr ⟨g, 0, rfl, fun i hi => ?_⟩
  have := h.cells (g := g) rfl i (.int .i64 (zs.getD i 0)) (by rw [List.getElem?_map, List.getD_eq_getElem?_getD, List.getElem?_eq_getElem hi]; rfl)
  rwa [add_off] at this
theorem someHd (b : Nat) (P : Int) (w : World) (h : Rd w b P) (hP : P ≤ 80000) (hb : b < w.heap.size) :
    Calls Try.prog 104 #[.pointer (some ⟨b, 0, none⟩)] w (SomeHd w b P) := by
  obtain ⟨i0, hi, hz0, hz1, hz2⟩ := info_parts infoInt
  obtain ⟨j0, hj, hy0, hy1, hy2⟩ := info_parts infoH
  go_enter Try.func104, Try.ntmps104
  go_wp2_with fail
  refine (one_lit b 6 P 1 6 [3, 4, 2, 5, 1, 6] _ w h (by omega) hb rfl (by omega) (by omega) (by simp)).mono ?_
  rintro e w0 ⟨m, rfl, m0, m1, hR0, hG0⟩
  have hb0 := Nat.lt_of_lt_of_le hb hG0.size
  go_wp2_with fail
  have hO : (w0.alloc (.cells #[] 3)).ownsRow w0.heap.size 3 1 (.slice (some ⟨w0.heap.size, 0, none⟩) 0 0) 0 [] := ⟨by simp, .inr ⟨w0.heap.size, 0, #[], rfl, Nat.le_refl _, Go.Deep.blk_alloc_new _ _, Nat.le_refl _, by unfold maxLen; omega, rfl, rfl⟩⟩
  have HO := Lib.hid hO
  have HR := Lib.hid (rd_alloc hR0 hb0 (.cells #[] 3))
  have HG := Lib.hid (g_trans hG0 (World.grownBy_alloc w0 (.cells #[] 3) (some b)))
  have hsz0 := hG0.size
  clear hO h hR0 hG0
  have hs1 : w0.heap.size < (w0.alloc (.cells #[] 3)).heap.size := by simp
  generalize w0.alloc (.cells #[] 3) = w1 at *
  have hb1 : b < w1.heap.size := by have := HG.out.size; omega
  go_loopw [4, 5] (fun v l wr => ∃ (k : Nat) (xs : List Int), (k : Int) ≤ m ∧ l = .int .i64 (k : Int) ∧ wr.ownsRow w0.heap.size 3 1 v k (xs.map (Value.int .i64)) ∧ xs.length = k ∧ (∀ z ∈ xs, 1 ≤ z ∧ z ≤ 6) ∧ Rd wr b (P + 1 + (k : Int)) ∧ w.grownBy wr (some b) ∧ w0.heap.size < wr.heap.size) (fun _ l _ => (m - intOf l).toNat)
  case atStart => exact ⟨0, [], by omega, rfl, HO.out, rfl, by simp, by simpa using HR.out, HG.out, hs1⟩
  case round =>
    obtain ⟨k, xs, hk, rfl, hown, hxl, hxs, hR, hG, hsz⟩ := hrel
    by_cases hlt : (k : Int) < m
    · have HX := Lib.hid (And.intro hxl hxs)
      have HO := Lib.hid hown
      have HG := Lib.hid hG
      have HR := Lib.hid hR
      clear hown hxl hxs hG hR
      go_wp2_with fail
      have hbr : b < wr.heap.size := by omega
      refine (pick_any b _ 6 _ HR.out (by omega)).mono ?_
      rintro e w3 ⟨v, rfl, hv, hR3, hG3⟩
      have hb3 := Nat.lt_of_lt_of_le hbr hG3.size
      have hv6 : (v : Int) < 6 := by omega
      clear hv
      have hO3 := HO.out.kept hG3 (.inr (by intro h; have := (HO.out.lt b h).1; omega))
      have G3 := g_trans HG.out hG3
      have hs3 : w0.heap.size < w3.heap.size := by have := hG3.size; omega
      have hs3' : w.heap.size ≤ w3.heap.size := G3.size
      have wv : IntKind.i64.wrap (1 + (v : Int)) = 1 + (v : Int) := by rw [IntKind.wrap_i64]; omega
      have HO3 := Lib.hid hO3
      have HR3 := Lib.hid hR3
      have HG3 := Lib.hid G3
      clear hG3 HO HR HG hO3 hR3 G3
      go_wp2_with (first | (at_builtin; refine wpList_append_own _ rfl (.tmp 20) (.tmp 24) 59 rfl w0.heap.size 3 i0 (.int .i64 0) 1 8 Try.underlying59 hi hz0 hz1 hz2 rfl (by decide) _ _ _ rfl (HO3.out.alloc _) ⟨w3.heap.size, 0, none⟩ 1 1 [.int .i64 (1 + (v : Int))] rfl rfl (cell_one_new _ _ _) (fun x hx => by simp at hx; subst hx; rfl) (by unfold maxLen; omega) (by omega) (by simp; omega) ?_; intro v' w5 hown' hgrow5 hnil5))
      have hB5 : Below w.heap.size w3 w5 := ((Below.refl _ w3).alloc hs3' _).grown hgrow5 (by simp; omega) (fun q hq => by have := (HO3.out.lt q hq).1; omega)
      clear hgrow5 hnil5
      obtain ⟨R5, G5⟩ := rd_end (P := P + 1 + ((k + 1 : Nat) : Int)) hb (rd_up (P' := P + 1 + ((k + 1 : Nat) : Int)) HR3.out (by omega)) rfl HG3.out hB5
      refine ⟨⟨k + 1, xs ++ [1 + (v : Int)], by omega, by go_num, ?_, by simp [HX.out.1], fun z hz => ?_, R5, G5, by have := hB5.size; omega⟩, by simp [intOf]; omega⟩
      · rw [List.map_append]; exact hown'
      · rcases List.mem_append.1 hz with h | h
        · exact HX.out.2 z h
        · simp at h; omega
    · have e : (k : Int) = m := by omega
      subst hxl
      subst e
      obtain ⟨g, cp, rfl, lg, ltg⟩ := hown.form (by omega)
      have HW := Lib.hid hown
      have HXB := Lib.hid (fun z hz => (by have := hxs z hz; omega : (-1000000 : Int) ≤ z ∧ z ≤ 1000000))
      have HX6 := Lib.hid hxs
      have hsum := sum_low hxs
      have hbA : b < wr.heap.size := by omega
      have GA := Lib.hid hG
      have RA := Lib.hid hR
      clear hown hxs HO HR HG hG hR
      go_wp2_with fail
      have hOh : (wr.alloc (.cells #[] 91)).ownsRow wr.heap.size 91 3 (.slice (some ⟨wr.heap.size, 0, none⟩) 0 0) 0 [] := ⟨by simp, .inr ⟨wr.heap.size, 0, #[], rfl, Nat.le_refl _, Go.Deep.blk_alloc_new _ _, Nat.le_refl _, by unfold maxLen; omega, rfl, rfl⟩⟩
      have hRh := rd_alloc RA.out hbA (.cells #[] 91)
      have hGh := World.grownBy_alloc wr (.cells #[] 91) (some b)
      have hsh : wr.heap.size < (wr.alloc (.cells #[] 91)).heap.size := by simp
      obtain ⟨A, hAe⟩ : ∃ A, A = wr := ⟨_, rfl⟩
      subst hAe
      generalize A.alloc (.cells #[] 91) = A1 at hOh hRh hGh hsh ⊢
      go_loopw [6, 7, 8] (fun v ow l wr => ∃ (k2 : Nat) (hs : List Hd) (o : Int), k2 ≤ xs.length ∧ l = .int .i64 (k2 : Int) ∧ ow = .int .i64 o ∧ 0 ≤ o ∧ o ≤ 3 * (k2 : Int) ∧ wr.ownsRow A.heap.size 91 3 v k2 (valsH hs) ∧ hs.length = k2 ∧ Rd wr b (P + 1 + (xs.length : Int) + (k2 : Int)) ∧ A.grownBy wr (some b) ∧ A.heap.size < wr.heap.size) (fun _ _ l _ => ((xs.length : Int) - intOf l).toNat)
      case atStart => exact ⟨0, [], 0, by omega, rfl, rfl, by omega, by omega, hOh, rfl, by simpa using hRh, hGh, hsh⟩
      case round =>
        clear hOh hRh hGh hsh
        obtain ⟨k2, hs, o, hk2, rfl, rfl, o0, o1, hown, hhl, hR, hG, hsz⟩ := hrel
        by_cases hlt2 : k2 < xs.length
        · have HHL := Lib.hid hhl
          have HO := Lib.hid hown
          have HG := Lib.hid hG
          have HR := Lib.hid hR
          clear hown hhl hG hR
          have w1o : IntKind.i64.wrap (o + 1) = o + 1 := by rw [IntKind.wrap_i64]; omega
          go_wp2_with fail
          have hbr : b < wr.heap.size := by omega
          refine (pick_any b _ 3 _ HR.out (by omega)).mono ?_
          rintro e w3 ⟨v3, rfl, hv, hR3, hG3⟩
          have hb3 := Nat.lt_of_lt_of_le hbr hG3.size
          have hv6 : (v3 : Int) < 3 := by omega
          clear hv
          have HO3 := Lib.hid (HO.out.kept hG3 (.inr (by intro h; have := (HO.out.lt b h).1; omega)))
          have HG3 := Lib.hid (g_trans HG.out hG3)
          have HR3 := Lib.hid hR3
          have hs3 : A.heap.size < w3.heap.size := by have := hG3.size; omega
          have hW3 := HW.out.kept HG3.out (.inr (by simp [Value.ownBlock]; omega))
          have HIW := Lib.hid (own_ints0 hW3)
          have c0 : w3.cell? ⟨g, k2, none⟩ = some (.int .i64 (xs.getD k2 0)) := by
            have := hW3.cells (g := g) rfl k2 (.int .i64 (xs.getD k2 0)) (by rw [List.getElem?_map, List.getD_eq_getElem?_getD, List.getElem?_eq_getElem hlt2]; rfl)
            rwa [add_off, Nat.zero_add] at this
          have hx6 := HX6.out (xs.getD k2 0) (by rw [List.getD_eq_getElem?_getD, List.getElem?_eq_getElem hlt2]; exact List.getElem_mem _)
          generalize xs.getD k2 0 = x at c0 hx6
          have w2o : IntKind.i64.wrap (o + 1 + (v3 : Int)) = o + 1 + (v3 : Int) := by rw [IntKind.wrap_i64]; omega
          have k0 : (0 : Int) ≤ (k2 : Int) := by omega
          have k1 : (k2 : Int) < (xs.length : Int) := by omega
          clear hG3 hR3 HO HR HG hW3
          go_wp2_with fail
          refine wp_region_held_drew (S := (fun w' => w'.cell? ⟨g, k2, none⟩ = some (.int .i64 x) ∧ Below w3.heap.size w3 w')) (by kernel_rfl) ?_ (fun hHeld => ?_)
          · exact ⟨c0, (Below.refl _ _).drew⟩
          refine wpAnyH_take (i := 0) (oi := ?oot1) (v := ?vvt1) ?hit1 (by kernel_rfl) ?h3t1 ?h4t1 ?h5t1 ?h6t1 (by assumption) ?h8t1
          case hit1 => (simp only [List.getElem?_toArray, List.getElem?_cons_succ, List.getElem?_cons_zero]; rfl)
          case h3t1 => kernel_rfl
          case h4t1 => kernel_rfl
          case h6t1 => (refine Or.inl ⟨by rfl, ?_⟩; intro w hSw; (try dsimp only at hSw); (go_simp <;> with_reducible rfl))
          case h5t1 => exact fun _ _ _ h => h
          try simp only [Act.put, List.setIfInBounds_toArray, List.set_cons_zero, List.set_cons_succ]
          refine wpAnyH_take (i := 1) (oi := ?oot2) (v := ?vvt2) ?hit2 (by kernel_rfl) ?h3t2 ?h4t2 ?h5t2 ?h6t2 (by assumption) ?h8t2
          case hit2 => (simp only [List.getElem?_toArray, List.getElem?_cons_succ, List.getElem?_cons_zero]; rfl)
          case h3t2 => kernel_rfl
          case h4t2 => kernel_rfl
          case h6t2 => (refine Or.inl ⟨by rfl, ?_⟩; intro w hSw; (try dsimp only at hSw); (go_simp <;> with_reducible rfl))
          case h5t2 => exact fun _ _ _ h => h
          try simp only [Act.put, List.setIfInBounds_toArray, List.set_cons_zero, List.set_cons_succ]
          refine wpAnyH_take (i := 2) (oi := ?oot3) (v := ?vvt3) ?hit3 (by kernel_rfl) ?h3t3 ?h4t3 ?h5t3 ?h6t3 (by assumption) ?h8t3
          case hit3 => (simp only [List.getElem?_toArray, List.getElem?_cons_succ, List.getElem?_cons_zero]; rfl)
          case h3t3 => kernel_rfl
          case h4t3 => kernel_rfl
          case h6t3 => (refine Or.inl ⟨by rfl, ?_⟩; intro w hSw; (try dsimp only at hSw); (go_simp <;> with_reducible rfl))
          case h5t3 => exact fun _ _ _ h => h
          try simp only [Act.put, List.setIfInBounds_toArray, List.set_cons_zero, List.set_cons_succ]
          refine wpAnyH_take (i := 3) (oi := ?oot4) (v := ?vvt4) ?hit4 (by kernel_rfl) ?h3t4 ?h4t4 ?h5t4 ?h6t4 (by assumption) ?h8t4
          case hit4 => (simp only [List.getElem?_toArray, List.getElem?_cons_succ, List.getElem?_cons_zero]; rfl)
          case h3t4 => kernel_rfl
          case h4t4 => kernel_rfl
          case h6t4 => (refine Or.inl ⟨by rfl, ?_⟩; intro w hSw; (try dsimp only at hSw); (go_simp <;> with_reducible rfl))
          case h5t4 => exact fun _ _ _ h => h
          try simp only [Act.put, List.setIfInBounds_toArray, List.set_cons_zero, List.set_cons_succ]
          refine wpAnyH_take (i := 4) (oi := ?oot5) (v := ?vvt5) ?hit5 (by kernel_rfl) ?h3t5 ?h4t5 ?h5t5 ?h6t5 (by assumption) ?h8t5
          case hit5 => (simp only [List.getElem?_toArray, List.getElem?_cons_succ, List.getElem?_cons_zero]; rfl)
          case h3t5 => kernel_rfl
          case h4t5 => kernel_rfl
          case h6t5 => (refine Or.inl ⟨by rfl, ?_⟩; intro w hSw; (try dsimp only at hSw); (go_simp <;> with_reducible rfl))
          case h5t5 => exact fun _ _ _ h => h
          try simp only [Act.put, List.setIfInBounds_toArray, List.set_cons_zero, List.set_cons_succ]
          refine wpAnyH_ready (rs := [5, 10]) (by kernel_rfl) (by simp) (AllReadyH.cons (o := ?oot6q0) ?hit6q0 (fun K hK => ?hkt6q0) (AllReadyH.cons (o := ?oot6q1) ?hit6q1 (fun K hK => ?hkt6q1) AllReadyH.nil))
          case hit6q0 => (simp only [List.getElem?_toArray, List.getElem?_cons_succ, List.getElem?_cons_zero]; rfl)
          case hit6q1 => (simp only [List.getElem?_toArray, List.getElem?_cons_succ, List.getElem?_cons_zero]; rfl)
          case hkt6q0 =>
            (rw [if_pos (by rfl)]; go_simp; refine (stotal (some ⟨g, 0, none⟩) cp xs _ (ints_below HIW.out hHeld.2) (by omega) HXB.out).mono ?_; rintro e W5 ⟨rfl, rfl⟩; go_wp2_with fail; refine hK.out _ _ (hHeld) (fun hHeld => ?_); clear hK K)
            try simp only [Act.put, List.setIfInBounds_toArray, List.set_cons_zero, List.set_cons_succ]
            refine wpAnyH_ready (rs := [6, 10]) (by kernel_rfl) (by simp) (AllReadyH.cons (o := ?oot7q0) ?hit7q0 (fun K hK => ?hkt7q0) (AllReadyH.cons (o := ?oot7q1) ?hit7q1 (fun K hK => ?hkt7q1) AllReadyH.nil))
            case hit7q0 => (simp only [List.getElem?_toArray, List.getElem?_cons_succ, List.getElem?_cons_zero]; rfl)
            case hit7q1 => (simp only [List.getElem?_toArray, List.getElem?_cons_succ, List.getElem?_cons_zero]; rfl)
            case hkt7q0 =>
              (rw [if_pos (by rfl)]; go_simp; refine (sred x xs.sum _ (by omega) (by omega) (by omega) (by omega)).mono ?_; rintro e W6 ⟨rfl, hb6⟩; obtain ⟨fn, fd, fb, hfr⟩ : ∃ n d b, frV (Wsh.redB x xs.sum) (Wsh.rn x xs.sum) (Wsh.rd x xs.sum) = .tuple #[.agg #[.int .i64 n, .int .i64 d], .bool b] := ⟨_, _, _, rfl⟩; rw [hfr]; go_wp2_with fail; refine hK.out _ _ (keepOne hb6 hHeld) (fun hHeld => ?_); clear hK K)
              try simp only [Act.put, List.setIfInBounds_toArray, List.set_cons_zero, List.set_cons_succ]
              refine wpAnyH_take (i := 7) (oi := ?oot8) (v := ?vvt8) ?hit8 (by kernel_rfl) ?h3t8 ?h4t8 ?h5t8 ?h6t8 (by assumption) ?h8t8
              case hit8 => (simp only [List.getElem?_toArray, List.getElem?_cons_succ, List.getElem?_cons_zero]; rfl)
              case h3t8 => kernel_rfl
              case h4t8 => kernel_rfl
              case h6t8 => (refine Or.inl ⟨by rfl, ?_⟩; intro w hSw; (try dsimp only at hSw); (go_simp <;> with_reducible rfl))
              case h5t8 => exact fun _ _ _ h => h
              try simp only [Act.put, List.setIfInBounds_toArray, List.set_cons_zero, List.set_cons_succ]
              refine wpAnyH_take (i := 8) (oi := ?oot9) (v := ?vvt9) ?hit9 (by kernel_rfl) ?h3t9 ?h4t9 ?h5t9 ?h6t9 (by assumption) ?h8t9
              case hit9 => (simp only [List.getElem?_toArray, List.getElem?_cons_succ, List.getElem?_cons_zero]; rfl)
              case h3t9 => kernel_rfl
              case h4t9 => kernel_rfl
              case h6t9 => (refine Or.inl ⟨by rfl, ?_⟩; intro w hSw; (try dsimp only at hSw); (go_simp <;> with_reducible rfl))
              case h5t9 => exact fun _ _ _ h => h
              try simp only [Act.put, List.setIfInBounds_toArray, List.set_cons_zero, List.set_cons_succ]
              refine wpAnyH_take (i := 9) (oi := ?oot10) (v := ?vvt10) ?hit10 (by kernel_rfl) ?h3t10 ?h4t10 ?h5t10 ?h6t10 (by assumption) ?h8t10
              case hit10 => (simp only [List.getElem?_toArray, List.getElem?_cons_succ, List.getElem?_cons_zero]; rfl)
              case h3t10 => kernel_rfl
              case h4t10 => kernel_rfl
              case h6t10 => (refine Or.inl ⟨by rfl, ?_⟩; intro w hSw; (try dsimp only at hSw); (go_simp <;> with_reducible rfl))
              case h5t10 => exact fun _ _ _ h => h
              try simp only [Act.put, List.setIfInBounds_toArray, List.set_cons_zero, List.set_cons_succ]
              refine wpAnyH_ready (rs := [10]) (by kernel_rfl) (by simp) (AllReadyH.cons (o := ?oot11) ?hit11 (fun K hK => ?hkt11) AllReadyH.nil)
              rotate_left
              case hit11 => (simp only [List.getElem?_toArray, List.getElem?_cons_succ, List.getElem?_cons_zero]; rfl)
              (rw [if_pos (by rfl)]; go_simp; have F7 := Lib.hid (c2_new W6 (.int .i64 0) (.int .i64 0) 58); have E7 := keepOne ((Below.refl _ W6).alloc (Nat.le_refl _) (.cells #[.int .i64 0, .int .i64 0] 58)) hHeld; have L6 := hHeld.2.size; generalize W6.alloc (.cells #[.int .i64 0, .int .i64 0] 58) = W7 at F7 E7 ⊢; generalize W6.heap.size = gf at F7 L6 ⊢; refine hK.out _ _ (E7) (fun hHeld => ?_); clear hK K)
              try simp only [Act.put, List.setIfInBounds_toArray, List.set_cons_zero, List.set_cons_succ]
              refine wpAnyH_ready (rs := [11]) (by kernel_rfl) (by simp) (AllReadyH.cons (o := ?oot12) ?hit12 (fun K hK => ?hkt12) AllReadyH.nil)
              rotate_left
              case hit12 => (simp only [List.getElem?_toArray, List.getElem?_cons_succ, List.getElem?_cons_zero]; rfl)
              (rw [if_pos (by rfl)]; obtain ⟨fc0, fc1, ff0, ff1, fz⟩ := F7.out; go_simp; have F8 := Lib.hid (c2_set F7.out (.int .i64 fn) (.int .i64 fd)); have E8 := keepOut (hHeld.2.setCell (p := ⟨gf, 0, none⟩) L6 (.int .i64 fn)) L6 (.int .i64 fd) (by omega) hHeld.1; generalize World.setCell (World.setCell _ ⟨gf, 0, none⟩ (.int .i64 fn)) ⟨gf, 1, none⟩ (.int .i64 fd) = W8 at F8 E8 ⊢; clear fc0 fc1 ff0 ff1 fz F7; refine hK.out _ _ (E8) (fun hHeld => ?_); clear hK K)
              try simp only [Act.put, List.setIfInBounds_toArray, List.set_cons_zero, List.set_cons_succ]
              refine wpAnyH_take (i := 12) (oi := ?oot13) (v := ?vvt13) ?hit13 (by kernel_rfl) ?h3t13 ?h4t13 ?h5t13 ?h6t13 (by assumption) ?h8t13
              case hit13 => (simp only [List.getElem?_toArray, List.getElem?_cons_succ, List.getElem?_cons_zero]; rfl)
              case h3t13 => kernel_rfl
              case h4t13 => kernel_rfl
              case h6t13 => (refine Or.inl ⟨by rfl, ?_⟩; intro w hSw; (try dsimp only at hSw); (go_simp <;> with_reducible rfl))
              case h5t13 => exact fun _ _ _ h => h
              try simp only [Act.put, List.setIfInBounds_toArray, List.set_cons_zero, List.set_cons_succ]
              refine wpAnyH_done (by kernel_rfl) ?_ _
              obtain ⟨fc0, fc1, ff0, ff1, fz⟩ := F8.out
              have hB8 : Below w3.heap.size w3 W8 := E8.2
              have hO8 : W8.ownsRow A.heap.size 91 3 u6 k2 (valsH hs) := HO3.out.kept (g_below hB8 (some b)) (.inr (by intro h; have := (HO3.out.lt b h).1; omega))
              have HO8 := Lib.hid hO8
              have HB8 := Lib.hid hB8
              have hs8 : A.heap.size ≤ W8.heap.size := by have := hB8.size; omega
              clear hHeld hO8 hB8 E8 HIW c0
              go_wp2_with (first | (at_builtin; refine wpList_append_own _ rfl (.tmp 47) (.tmp 51) _ rfl A.heap.size 91 j0 _ 3 24 Try.underlying23 hj hy0 hy1 hy2 rfl (by decide) _ _ _ rfl (HO8.out.alloc _) ⟨W8.heap.size, 0, none⟩ 1 1 [.int .i64 (o + 1 + (v3 : Int)), .int .i64 fn, .int .i64 fd] rfl rfl (new_cells W8 _ _) (vals_one [(o + 1 + (v3 : Int), fn, fd)]) (by unfold maxLen; omega) (by omega) (by simp; omega) ?_; intro v' W9 hown' hgrow9 hnil9))
              have hB9 : Below A.heap.size W8 W9 := ((Below.refl _ W8).alloc hs8 _).grown hgrow9 (by simp; omega) (fun q hq => (HO8.out.lt q hq).1)
              have hG8 := g_trans HG3.out (g_below HB8.out (some b))
              obtain ⟨R9, G9⟩ := rd_end (P := P + 1 + (xs.length : Int) + ((k2 + 1 : Nat) : Int)) hbA (rd_up (P' := P + 1 + (xs.length : Int) + ((k2 + 1 : Nat) : Int)) (rd_below HR3.out hb3 HB8.out) (by omega)) rfl hG8 hB9
              refine ⟨⟨k2 + 1, hs ++ [(o + 1 + (v3 : Int), fn, fd)], o + 1 + (v3 : Int), by omega, by go_num, rfl, by omega, by omega, ?_, by simp [HHL.out], R9, G9, by have := hB9.size; omega⟩, by simp [intOf]; omega⟩
              rw [vals_append]; exact hown'
            case hkt7q1 =>
              (rw [if_pos (by rfl)]; go_simp; have F7 : Hid (Cell2 (w3.alloc (.cells #[.int .i64 0, .int .i64 0] 58)).drew w3.heap.size (.int .i64 0) (.int .i64 0)) := c2_new w3 (.int .i64 0) (.int .i64 0) 58; have E7 : (w3.alloc (.cells #[.int .i64 0, .int .i64 0] 58)).drew.cell? ⟨g, k2, none⟩ = some (.int .i64 x) ∧ Below w3.heap.size w3 (w3.alloc (.cells #[.int .i64 0, .int .i64 0] 58)).drew := ⟨(keepOne ((Below.refl _ w3).alloc (Nat.le_refl _) (.cells #[.int .i64 0, .int .i64 0] 58)) (And.intro c0 (Below.refl _ w3))).1, ((Below.refl _ w3).alloc (Nat.le_refl _) (.cells #[.int .i64 0, .int .i64 0] 58)).drew⟩; have L6 : w3.heap.size ≤ w3.heap.size := Nat.le_refl _; generalize (w3.alloc (.cells #[.int .i64 0, .int .i64 0] 58)).drew = W7 at F7 E7 ⊢; obtain ⟨gf, hgf⟩ : ∃ gf, gf = w3.heap.size := ⟨_, rfl⟩; rw [← hgf] at F7 ⊢; replace L6 : w3.heap.size ≤ gf := (by omega); clear hgf; refine hK.out _ _ (E7) (fun hHeld => ?_); clear hK K)
              try simp only [Act.put, List.setIfInBounds_toArray, List.set_cons_zero, List.set_cons_succ]
              refine wpAnyH_ready (rs := [6]) (by kernel_rfl) (by simp) (AllReadyH.cons (o := ?oot15) ?hit15 (fun K hK => ?hkt15) AllReadyH.nil)
              rotate_left
              case hit15 => (simp only [List.getElem?_toArray, List.getElem?_cons_succ, List.getElem?_cons_zero]; rfl)
              (rw [if_pos (by rfl)]; go_simp; refine (sred x xs.sum _ (by omega) (by omega) (by omega) (by omega)).mono ?_; rintro e W6 ⟨rfl, hb6⟩; obtain ⟨fn, fd, fb, hfr⟩ : ∃ n d b, frV (Wsh.redB x xs.sum) (Wsh.rn x xs.sum) (Wsh.rd x xs.sum) = .tuple #[.agg #[.int .i64 n, .int .i64 d], .bool b] := ⟨_, _, _, rfl⟩; rw [hfr]; replace F7 := Lib.hid (c2_below F7.out hb6); go_wp2_with fail; refine hK.out _ _ (keepOne hb6 hHeld) (fun hHeld => ?_); clear hK K)
              try simp only [Act.put, List.setIfInBounds_toArray, List.set_cons_zero, List.set_cons_succ]
              refine wpAnyH_take (i := 7) (oi := ?oot16) (v := ?vvt16) ?hit16 (by kernel_rfl) ?h3t16 ?h4t16 ?h5t16 ?h6t16 (by assumption) ?h8t16
              case hit16 => (simp only [List.getElem?_toArray, List.getElem?_cons_succ, List.getElem?_cons_zero]; rfl)
              case h3t16 => kernel_rfl
              case h4t16 => kernel_rfl
              case h6t16 => (refine Or.inl ⟨by rfl, ?_⟩; intro w hSw; (try dsimp only at hSw); (go_simp <;> with_reducible rfl))
              case h5t16 => exact fun _ _ _ h => h
              try simp only [Act.put, List.setIfInBounds_toArray, List.set_cons_zero, List.set_cons_succ]
              refine wpAnyH_take (i := 8) (oi := ?oot17) (v := ?vvt17) ?hit17 (by kernel_rfl) ?h3t17 ?h4t17 ?h5t17 ?h6t17 (by assumption) ?h8t17
              case hit17 => (simp only [List.getElem?_toArray, List.getElem?_cons_succ, List.getElem?_cons_zero]; rfl)
              case h3t17 => kernel_rfl
              case h4t17 => kernel_rfl
              case h6t17 => (refine Or.inl ⟨by rfl, ?_⟩; intro w hSw; (try dsimp only at hSw); (go_simp <;> with_reducible rfl))
              case h5t17 => exact fun _ _ _ h => h
              try simp only [Act.put, List.setIfInBounds_toArray, List.set_cons_zero, List.set_cons_succ]
              refine wpAnyH_take (i := 9) (oi := ?oot18) (v := ?vvt18) ?hit18 (by kernel_rfl) ?h3t18 ?h4t18 ?h5t18 ?h6t18 (by assumption) ?h8t18
              case hit18 => (simp only [List.getElem?_toArray, List.getElem?_cons_succ, List.getElem?_cons_zero]; rfl)
              case h3t18 => kernel_rfl
              case h4t18 => kernel_rfl
              case h6t18 => (refine Or.inl ⟨by rfl, ?_⟩; intro w hSw; (try dsimp only at hSw); (go_simp <;> with_reducible rfl))
              case h5t18 => exact fun _ _ _ h => h
              try simp only [Act.put, List.setIfInBounds_toArray, List.set_cons_zero, List.set_cons_succ]
              refine wpAnyH_ready (rs := [11]) (by kernel_rfl) (by simp) (AllReadyH.cons (o := ?oot19) ?hit19 (fun K hK => ?hkt19) AllReadyH.nil)
              rotate_left
              case hit19 => (simp only [List.getElem?_toArray, List.getElem?_cons_succ, List.getElem?_cons_zero]; rfl)
              (rw [if_pos (by rfl)]; obtain ⟨fc0, fc1, ff0, ff1, fz⟩ := F7.out; go_simp; have F8 := Lib.hid (c2_set F7.out (.int .i64 fn) (.int .i64 fd)); have E8 := keepOut (hHeld.2.setCell (p := ⟨gf, 0, none⟩) L6 (.int .i64 fn)) L6 (.int .i64 fd) (by omega) hHeld.1; generalize World.setCell (World.setCell _ ⟨gf, 0, none⟩ (.int .i64 fn)) ⟨gf, 1, none⟩ (.int .i64 fd) = W8 at F8 E8 ⊢; clear fc0 fc1 ff0 ff1 fz F7; refine hK.out _ _ (E8) (fun hHeld => ?_); clear hK K)
              try simp only [Act.put, List.setIfInBounds_toArray, List.set_cons_zero, List.set_cons_succ]
              refine wpAnyH_take (i := 12) (oi := ?oot20) (v := ?vvt20) ?hit20 (by kernel_rfl) ?h3t20 ?h4t20 ?h5t20 ?h6t20 (by assumption) ?h8t20
              case hit20 => (simp only [List.getElem?_toArray, List.getElem?_cons_succ, List.getElem?_cons_zero]; rfl)
              case h3t20 => kernel_rfl
              case h4t20 => kernel_rfl
              case h6t20 => (refine Or.inl ⟨by rfl, ?_⟩; intro w hSw; (try dsimp only at hSw); (go_simp <;> with_reducible rfl))
              case h5t20 => exact fun _ _ _ h => h
              try simp only [Act.put, List.setIfInBounds_toArray, List.set_cons_zero, List.set_cons_succ]
              refine wpAnyH_done (by kernel_rfl) ?_ _
              obtain ⟨fc0, fc1, ff0, ff1, fz⟩ := F8.out
              have hB8 : Below w3.heap.size w3 W8 := E8.2
              have hO8 : W8.ownsRow A.heap.size 91 3 u6 k2 (valsH hs) := HO3.out.kept (g_below hB8 (some b)) (.inr (by intro h; have := (HO3.out.lt b h).1; omega))
              have HO8 := Lib.hid hO8
              have HB8 := Lib.hid hB8
              have hs8 : A.heap.size ≤ W8.heap.size := by have := hB8.size; omega
              clear hHeld hO8 hB8 E8 HIW c0
              go_wp2_with (first | (at_builtin; refine wpList_append_own _ rfl (.tmp 47) (.tmp 51) _ rfl A.heap.size 91 j0 _ 3 24 Try.underlying23 hj hy0 hy1 hy2 rfl (by decide) _ _ _ rfl (HO8.out.alloc _) ⟨W8.heap.size, 0, none⟩ 1 1 [.int .i64 (o + 1 + (v3 : Int)), .int .i64 fn, .int .i64 fd] rfl rfl (new_cells W8 _ _) (vals_one [(o + 1 + (v3 : Int), fn, fd)]) (by unfold maxLen; omega) (by omega) (by simp; omega) ?_; intro v' W9 hown' hgrow9 hnil9))
              have hB9 : Below A.heap.size W8 W9 := ((Below.refl _ W8).alloc hs8 _).grown hgrow9 (by simp; omega) (fun q hq => (HO8.out.lt q hq).1)
              have hG8 := g_trans HG3.out (g_below HB8.out (some b))
              obtain ⟨R9, G9⟩ := rd_end (P := P + 1 + (xs.length : Int) + ((k2 + 1 : Nat) : Int)) hbA (rd_up (P' := P + 1 + (xs.length : Int) + ((k2 + 1 : Nat) : Int)) (rd_below HR3.out hb3 HB8.out) (by omega)) rfl hG8 hB9
              refine ⟨⟨k2 + 1, hs ++ [(o + 1 + (v3 : Int), fn, fd)], o + 1 + (v3 : Int), by omega, by go_num, rfl, by omega, by omega, ?_, by simp [HHL.out], R9, G9, by have := hB9.size; omega⟩, by simp [intOf]; omega⟩
              rw [vals_append]; exact hown'
          case hkt6q1 =>
            (rw [if_pos (by rfl)]; go_simp; have F7 : Hid (Cell2 (w3.alloc (.cells #[.int .i64 0, .int .i64 0] 58)).drew w3.heap.size (.int .i64 0) (.int .i64 0)) := c2_new w3 (.int .i64 0) (.int .i64 0) 58; have E7 : (w3.alloc (.cells #[.int .i64 0, .int .i64 0] 58)).drew.cell? ⟨g, k2, none⟩ = some (.int .i64 x) ∧ Below w3.heap.size w3 (w3.alloc (.cells #[.int .i64 0, .int .i64 0] 58)).drew := ⟨(keepOne ((Below.refl _ w3).alloc (Nat.le_refl _) (.cells #[.int .i64 0, .int .i64 0] 58)) (And.intro c0 (Below.refl _ w3))).1, ((Below.refl _ w3).alloc (Nat.le_refl _) (.cells #[.int .i64 0, .int .i64 0] 58)).drew⟩; have L6 : w3.heap.size ≤ w3.heap.size := Nat.le_refl _; generalize (w3.alloc (.cells #[.int .i64 0, .int .i64 0] 58)).drew = W7 at F7 E7 ⊢; obtain ⟨gf, hgf⟩ : ∃ gf, gf = w3.heap.size := ⟨_, rfl⟩; rw [← hgf] at F7 ⊢; replace L6 : w3.heap.size ≤ gf := (by omega); clear hgf; refine hK.out _ _ (E7) (fun hHeld => ?_); clear hK K)
            try simp only [Act.put, List.setIfInBounds_toArray, List.set_cons_zero, List.set_cons_succ]
            refine wpAnyH_ready (rs := [5]) (by kernel_rfl) (by simp) (AllReadyH.cons (o := ?oot22) ?hit22 (fun K hK => ?hkt22) AllReadyH.nil)
            rotate_left
            case hit22 => (simp only [List.getElem?_toArray, List.getElem?_cons_succ, List.getElem?_cons_zero]; rfl)
            (rw [if_pos (by rfl)]; go_simp; refine (stotal (some ⟨g, 0, none⟩) cp xs _ (ints_below HIW.out hHeld.2) (by omega) HXB.out).mono ?_; rintro e W5 ⟨rfl, rfl⟩; go_wp2_with fail; refine hK.out _ _ (hHeld) (fun hHeld => ?_); clear hK K)
            try simp only [Act.put, List.setIfInBounds_toArray, List.set_cons_zero, List.set_cons_succ]
            refine wpAnyH_ready (rs := [6]) (by kernel_rfl) (by simp) (AllReadyH.cons (o := ?oot23) ?hit23 (fun K hK => ?hkt23) AllReadyH.nil)
            rotate_left
            case hit23 => (simp only [List.getElem?_toArray, List.getElem?_cons_succ, List.getElem?_cons_zero]; rfl)
            (rw [if_pos (by rfl)]; go_simp; refine (sred x xs.sum _ (by omega) (by omega) (by omega) (by omega)).mono ?_; rintro e W6 ⟨rfl, hb6⟩; obtain ⟨fn, fd, fb, hfr⟩ : ∃ n d b, frV (Wsh.redB x xs.sum) (Wsh.rn x xs.sum) (Wsh.rd x xs.sum) = .tuple #[.agg #[.int .i64 n, .int .i64 d], .bool b] := ⟨_, _, _, rfl⟩; rw [hfr]; replace F7 := Lib.hid (c2_below F7.out hb6); go_wp2_with fail; refine hK.out _ _ (keepOne hb6 hHeld) (fun hHeld => ?_); clear hK K)
            try simp only [Act.put, List.setIfInBounds_toArray, List.set_cons_zero, List.set_cons_succ]
            refine wpAnyH_take (i := 7) (oi := ?oot24) (v := ?vvt24) ?hit24 (by kernel_rfl) ?h3t24 ?h4t24 ?h5t24 ?h6t24 (by assumption) ?h8t24
            case hit24 => (simp only [List.getElem?_toArray, List.getElem?_cons_succ, List.getElem?_cons_zero]; rfl)
            case h3t24 => kernel_rfl
            case h4t24 => kernel_rfl
            case h6t24 => (refine Or.inl ⟨by rfl, ?_⟩; intro w hSw; (try dsimp only at hSw); (go_simp <;> with_reducible rfl))
            case h5t24 => exact fun _ _ _ h => h
            try simp only [Act.put, List.setIfInBounds_toArray, List.set_cons_zero, List.set_cons_succ]
            refine wpAnyH_take (i := 8) (oi := ?oot25) (v := ?vvt25) ?hit25 (by kernel_rfl) ?h3t25 ?h4t25 ?h5t25 ?h6t25 (by assumption) ?h8t25
            case hit25 => (simp only [List.getElem?_toArray, List.getElem?_cons_succ, List.getElem?_cons_zero]; rfl)
            case h3t25 => kernel_rfl
            case h4t25 => kernel_rfl
            case h6t25 => (refine Or.inl ⟨by rfl, ?_⟩; intro w hSw; (try dsimp only at hSw); (go_simp <;> with_reducible rfl))
            case h5t25 => exact fun _ _ _ h => h
            try simp only [Act.put, List.setIfInBounds_toArray, List.set_cons_zero, List.set_cons_succ]
            refine wpAnyH_take (i := 9) (oi := ?oot26) (v := ?vvt26) ?hit26 (by kernel_rfl) ?h3t26 ?h4t26 ?h5t26 ?h6t26 (by assumption) ?h8t26
            case hit26 => (simp only [List.getElem?_toArray, List.getElem?_cons_succ, List.getElem?_cons_zero]; rfl)
            case h3t26 => kernel_rfl
            case h4t26 => kernel_rfl
            case h6t26 => (refine Or.inl ⟨by rfl, ?_⟩; intro w hSw; (try dsimp only at hSw); (go_simp <;> with_reducible rfl))
            case h5t26 => exact fun _ _ _ h => h
            try simp only [Act.put, List.setIfInBounds_toArray, List.set_cons_zero, List.set_cons_succ]
            refine wpAnyH_ready (rs := [11]) (by kernel_rfl) (by simp) (AllReadyH.cons (o := ?oot27) ?hit27 (fun K hK => ?hkt27) AllReadyH.nil)
            rotate_left
            case hit27 => (simp only [List.getElem?_toArray, List.getElem?_cons_succ, List.getElem?_cons_zero]; rfl)
            (rw [if_pos (by rfl)]; obtain ⟨fc0, fc1, ff0, ff1, fz⟩ := F7.out; go_simp; have F8 := Lib.hid (c2_set F7.out (.int .i64 fn) (.int .i64 fd)); have E8 := keepOut (hHeld.2.setCell (p := ⟨gf, 0, none⟩) L6 (.int .i64 fn)) L6 (.int .i64 fd) (by omega) hHeld.1; generalize World.setCell (World.setCell _ ⟨gf, 0, none⟩ (.int .i64 fn)) ⟨gf, 1, none⟩ (.int .i64 fd) = W8 at F8 E8 ⊢; clear fc0 fc1 ff0 ff1 fz F7; refine hK.out _ _ (E8) (fun hHeld => ?_); clear hK K)
            try simp only [Act.put, List.setIfInBounds_toArray, List.set_cons_zero, List.set_cons_succ]
            refine wpAnyH_take (i := 12) (oi := ?oot28) (v := ?vvt28) ?hit28 (by kernel_rfl) ?h3t28 ?h4t28 ?h5t28 ?h6t28 (by assumption) ?h8t28
            case hit28 => (simp only [List.getElem?_toArray, List.getElem?_cons_succ, List.getElem?_cons_zero]; rfl)
            case h3t28 => kernel_rfl
            case h4t28 => kernel_rfl
            case h6t28 => (refine Or.inl ⟨by rfl, ?_⟩; intro w hSw; (try dsimp only at hSw); (go_simp <;> with_reducible rfl))
            case h5t28 => exact fun _ _ _ h => h
            try simp only [Act.put, List.setIfInBounds_toArray, List.set_cons_zero, List.set_cons_succ]
            refine wpAnyH_done (by kernel_rfl) ?_ _
            obtain ⟨fc0, fc1, ff0, ff1, fz⟩ := F8.out
            have hB8 : Below w3.heap.size w3 W8 := E8.2
            have hO8 : W8.ownsRow A.heap.size 91 3 u6 k2 (valsH hs) := HO3.out.kept (g_below hB8 (some b)) (.inr (by intro h; have := (HO3.out.lt b h).1; omega))
            have HO8 := Lib.hid hO8
            have HB8 := Lib.hid hB8
            have hs8 : A.heap.size ≤ W8.heap.size := by have := hB8.size; omega
            clear hHeld hO8 hB8 E8 HIW c0
            go_wp2_with (first | (at_builtin; refine wpList_append_own _ rfl (.tmp 47) (.tmp 51) _ rfl A.heap.size 91 j0 _ 3 24 Try.underlying23 hj hy0 hy1 hy2 rfl (by decide) _ _ _ rfl (HO8.out.alloc _) ⟨W8.heap.size, 0, none⟩ 1 1 [.int .i64 (o + 1 + (v3 : Int)), .int .i64 fn, .int .i64 fd] rfl rfl (new_cells W8 _ _) (vals_one [(o + 1 + (v3 : Int), fn, fd)]) (by unfold maxLen; omega) (by omega) (by simp; omega) ?_; intro v' W9 hown' hgrow9 hnil9))
            have hB9 : Below A.heap.size W8 W9 := ((Below.refl _ W8).alloc hs8 _).grown hgrow9 (by simp; omega) (fun q hq => (HO8.out.lt q hq).1)
            have hG8 := g_trans HG3.out (g_below HB8.out (some b))
            obtain ⟨R9, G9⟩ := rd_end (P := P + 1 + (xs.length : Int) + ((k2 + 1 : Nat) : Int)) hbA (rd_up (P' := P + 1 + (xs.length : Int) + ((k2 + 1 : Nat) : Int)) (rd_below HR3.out hb3 HB8.out) (by omega)) rfl hG8 hB9
            refine ⟨⟨k2 + 1, hs ++ [(o + 1 + (v3 : Int), fn, fd)], o + 1 + (v3 : Int), by omega, by go_num, rfl, by omega, by omega, ?_, by simp [HHL.out], R9, G9, by have := hB9.size; omega⟩, by simp [intOf]; omega⟩
            rw [vals_append]; exact hown'
        · have ek : k2 = xs.length := by omega
          have HF := Lib.hid (g_trans GA.out hG)
          have HRR := Lib.hid (rd_up (P' := P + 13) hR (by omega))
          have hO0 := own_lowerR hown (Nat.le_of_lt (Nat.lt_of_le_of_lt hsz0 (by assumption)))
          clear hown hG hR
          go_wp2_with fail
          go_ret
          exact ⟨_, k2, hs, rfl, by omega, by omega, hO0, hhl, HRR.out, HF.out⟩
end Go.Proofs.Ytaehemmjemhgpaa
