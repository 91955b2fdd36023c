/- Contracts and facts of functions of this program, in build order. Conditions: those stated in each. -/
import Derived.Test.YtaehemmjemhgpabGreatZAG0
import Derived.Deep.Slices
import Derived.ChangeSame
import Derived.ChangeArms
import Derived.ProofKit
import Derived.Lib.SmallJoins
import Derived.Maps.AppendAt
import Derived.Deep.MidRow
import Derived.Laws.OwnMore
import Derived.WalkLawsBesides
import Derived.Deep.RegionWith
set_option maxRecDepth 100000
set_option maxHeartbeats 16000000
namespace Go.Proofs.YtaehemmjemhgpabGreat
open Go.RowKit
set_option linter.unusedSimpArgs false
set_option linter.unusedVariables false
section
open Go.ChangeShapes Go.WideShapes Go.RowKit Go.Deep
abbrev Tn := Int × Int
abbrev tn0 : Tn := (0, 0)
def jzj : List Tn → List Int
 | [] => []
 | h :: t => h.1 :: h.2 :: jzj t
theorem flatTn_len : ∀ xs : List Tn, (jzj xs).length = xs.length * 2 := by
 intro xs
 induction xs with
 | nil => rfl
 | cons h t ih => show (jzj t).length + 1 + 1 = (t.length + 1) * 2; rw [ih]; omega
theorem flatTn_append : ∀ a b : List Tn, jzj (a ++ b) = jzj a ++ jzj b := by
 intro a b
 induction a with
 | nil => rfl
 | cons h t ih => show h.1 :: h.2 :: jzj (t ++ b) = _; rw [ih]; rfl
theorem flatTn_get : ∀ (xs : List Tn) (k : Nat), k < xs.length → (jzj xs).getD (k * 2) 0 = (xs.getD k tn0).1 ∧ (jzj xs).getD (k * 2 + 1) 0 = (xs.getD k tn0).2 := by
  intro xs
  induction xs with
  | nil => intro k h; simp at h
  | cons h t ih =>
    intro k hk
    cases k with
    | zero => exact ⟨rfl, rfl⟩
    | succ k =>
      have := ih k (by simpa using hk); rw [show (k + 1) * 2 = k * 2 + 1 + 1 from by omega]; exact this
def IsTn (w : World) (a : Option Addr) (xs : List Tn) : Prop := xs = [] ∨ ∃ g o, a = some ⟨g, o, none⟩ ∧ ∀ i, i < xs.length → w.cell? ⟨g, o + i * 2, none⟩ = some (.int .i64 (xs.getD i tn0).1) ∧ w.cell? ⟨g, o + i * 2 + 1, none⟩ = some (.int .i64 (xs.getD i tn0).2)
theorem tn_below {w w' : World} {a : Option Addr} {xs : List Tn} (h : IsTn w a xs) (hB : Below w.heap.size w w') : IsTn w' a xs := by
 rcases h with h | ⟨g, o, ha, hc⟩
 ·exact .inl h
 ·refine .inr ⟨g, o, ha, fun i hi => ?_⟩
  obtain ⟨c0, c1⟩ := hc i hi
  have kp : ∀ p v, w.cell? ⟨g, p, none⟩ = some v → w'.cell? ⟨g, p, none⟩ = some v := fun p v c => (hB.cell (p := ⟨g, p, none⟩) (World.block_lt_of_cell? w _ c)).trans c
  exact ⟨kp _ _ c0, kp _ _ c1⟩
theorem tn_at {w wr : World} {g o : Nat} {xs : List Tn} (hc : ∀ i, i < xs.length → w.cell? ⟨g, o + i * 2, none⟩ = some (.int .i64 (xs.getD i tn0).1) ∧ w.cell? ⟨g, o + i * 2 + 1, none⟩ = some (.int .i64 (xs.getD i tn0).2)) (hB : Below w.heap.size w wr) {k : Nat} (hk : k < xs.length) :
  wr.cell? ⟨g, o + k * 2, none⟩ = some (.int .i64 (xs.getD k tn0).1) ∧ wr.cell? ⟨g, o + k * 2 + 1, none⟩ = some (.int .i64 (xs.getD k tn0).2) := by
 obtain ⟨c0, c1⟩ := hc k hk
 have kp : ∀ p v, w.cell? ⟨g, p, none⟩ = some v → wr.cell? ⟨g, p, none⟩ = some v := fun p v c => (hB.cell (p := ⟨g, p, none⟩) (World.block_lt_of_cell? w _ c)).trans c
 exact ⟨kp _ _ c0, kp _ _ c1⟩
theorem Flat.tn {w : World} {g : Nat} {t : TypeId} {xs : List Tn} (h : Flat w g t (jzj xs)) : IsTn w (some ⟨g, 0, none⟩) xs := by
 refine .inr ⟨g, 0, rfl, fun i hi => ?_⟩; obtain ⟨a0, a1⟩ := flatTn_get xs i hi; have hl := flatTn_len xs; rw [Nat.zero_add]; exact ⟨by rw [h.cell (by omega), a0], by rw [h.cell (by omega), a1]⟩
def jxc (xs : List Tn) : List Value := (jzj xs).map (Value.int .i64)
theorem valsTn_len (xs : List Tn) : (jxc xs).length = xs.length * 2 := by unfold jxc; rw [List.length_map, flatTn_len]
theorem valsTn_append (a b : List Tn) : jxc (a ++ b) = jxc a ++ jxc b := by unfold jxc; rw [flatTn_append, List.map_append]
theorem valsTn_one (xs : List Tn) : ∀ u ∈ jxc xs, u.oneCell' = true := fun u hu => by
 unfold jxc at hu; obtain ⟨z, _, rfl⟩ := List.mem_map.1 hu
 rfl
theorem valsTn_get {xs : List Tn} {k : Nat} (h : k < xs.length) : (jxc xs)[k * 2]? = some (.int .i64 (xs.getD k tn0).1) ∧ (jxc xs)[k * 2 + 1]? = some (.int .i64 (xs.getD k tn0).2) := by
 obtain ⟨a0, a1⟩ := flatTn_get xs k h; have hl := flatTn_len xs
 have get : ∀ j, j < (jzj xs).length → (jxc xs)[j]? = some (.int .i64 ((jzj xs).getD j 0)) := fun j hj => by
  unfold jxc; rw [List.getElem?_map, List.getElem?_eq_getElem hj, List.getD_eq_getElem?_getD, List.getElem?_eq_getElem hj]; rfl
 rw [get _ (by omega), get _ (by omega), a0, a1]; exact ⟨rfl, rfl⟩
theorem tn_reads {w : World} {a : Option Addr} {xs : List Tn} (h : IsTn w a xs) : jj3 w w.heap.size 2 a xs.length (jxc xs) := by
 refine ⟨valsTn_len xs, fun hn => ?_⟩
 rcases h with rfl | ⟨g, o, rfl, hc⟩
 ·exact absurd hn (by simp)
 ·refine ⟨⟨g, o, none⟩, rfl, ?_, fun j u hu => ?_⟩
  ·exact World.block_lt_of_cell? w _ (hc 0 hn).1
  ·have hl := valsTn_len xs
   have hj : j < (jxc xs).length := by
    rcases Nat.lt_or_ge j (jxc xs).length with h | h
    ·exact h
    ·rw [List.getElem?_eq_none h] at hu; cases hu
   have hk : j / 2 < xs.length := by omega
   obtain ⟨c0, c1⟩ := hc _ hk; obtain ⟨v0, v1⟩ := valsTn_get hk
   have hm : j % 2 = 0 ∨ j % 2 = 1 := by omega
   rw [jv1]
   rcases hm with e | e
   ·have ej : j = j / 2 * 2 := by omega
    rw [ej] at hu ⊢; rw [v0] at hu; rw [c0, ← hu]
   ·have ej : j = j / 2 * 2 + 1 := by omega
    rw [ej] at hu ⊢; rw [v1] at hu; rw [← Nat.add_assoc, c1, ← hu]
theorem infoTn : (Tryz.prog.info? 137).map (fun i => (i.zero, i.size, i.bytes)) = some (some (.agg #[.int .i64 0, .int .i64 0]), 2, 16) := by kernel_rfl
end
def sumT : List Tn → Int
 | [] => 0
 | h :: t => h.2 + sumT t
theorem sumT_append (a b : List Tn) : sumT (a ++ b) = sumT a + sumT b := by
 induction a with
 | nil => show sumT b = 0 + sumT b; omega
 | cons h t ih => show h.2 + sumT (t ++ b) = h.2 + sumT t + sumT b; rw [ih]; omega
theorem sumT_succ {ts : List Tn} {k : Nat} (h : k < ts.length) : sumT (ts.take (k + 1)) = sumT (ts.take k) + (ts.getD k tn0).2 := by
 rw [take_snocD ts h tn0, sumT_append]
 show _ + ((ts.getD k tn0).2 + 0) = _
 omega
def okT (ts : List Tn) (k : Nat) : Bool := decide (1 ≤ (ts.getD k tn0).1) && decide ((ts.getD k tn0).1 ≤ 999) && decide (1 ≤ (ts.getD k tn0).2) && decide ((ts.getD k tn0).2 ≤ 336)
theorem okT_iff (ts : List Tn) (k : Nat) : okT ts k = true ↔ 1 ≤ (ts.getD k tn0).1 ∧ (ts.getD k tn0).1 ≤ 999 ∧ 1 ≤ (ts.getD k tn0).2 ∧ (ts.getD k tn0).2 ≤ 336 := by
 unfold okT; simp only [Bool.and_eq_true, decide_eq_true_eq, and_assoc]
theorem okT_no {ts : List Tn} {k : Nat} (h : ¬ (1 ≤ (ts.getD k tn0).1 ∧ (ts.getD k tn0).1 ≤ 999 ∧ 1 ≤ (ts.getD k tn0).2 ∧ (ts.getD k tn0).2 ≤ 336)) : okT ts k = false := by
 rw [Bool.eq_false_iff]; exact fun c => h ((okT_iff ts k).1 c)
def allT (ts : List Tn) : Bool := (List.range ts.length).all (okT ts)
def vtB (ts : List Tn) : Bool := decide (1 ≤ ts.length) && decide (ts.length ≤ 24) && allT ts && decide (sumT ts ≤ 336)
theorem sumT_bd {ts : List Tn} : ∀ k, k ≤ ts.length → (∀ j, j < k → okT ts j = true) → (k : Int) ≤ sumT (ts.take k) ∧ sumT (ts.take k) ≤ 336 * (k : Int) := by
  intro k
  induction k with
  | zero => intro _ _; exact ⟨by show (0 : Int) ≤ 0; omega, by show (0 : Int) ≤ 336 * ((0 : Nat) : Int); omega⟩
  | succ k ih =>
    intro hk h; have a := ih (by omega) (fun j hj => h j (by omega)); have b := (okT_iff ts k).1 (h k (by omega)); rw [sumT_succ (by omega)]
    omega
theorem sumT_all (ts : List Tn) : sumT (ts.take ts.length) = sumT ts := by rw [List.take_of_length_le (Nat.le_refl _)]
theorem vt_is {ts : List Tn} (h : vtB ts = true) : 1 ≤ ts.length ∧ ts.length ≤ 24 ∧ (∀ j, j < ts.length → okT ts j = true) ∧ 1 ≤ sumT ts ∧ sumT ts ≤ 336 := by
 unfold vtB allT at h; simp only [Bool.and_eq_true, decide_eq_true_eq, jv6] at h; obtain ⟨⟨⟨a, b⟩, c⟩, d⟩ := h; have := (sumT_bd ts.length (Nat.le_refl _) c).1; rw [sumT_all] at this; exact ⟨a, b, c, by omega, d⟩
theorem vt_no0 {ts : List Tn} (h : ts.length < 1) : vtB ts = false := by unfold vtB; rw [decide_eq_false (by omega : ¬ 1 ≤ ts.length)]; rfl
theorem vt_no1 {ts : List Tn} (h : 24 < ts.length) : vtB ts = false := by unfold vtB; rw [decide_eq_false (by omega : ¬ ts.length ≤ 24)]; simp
theorem vt_no2 {ts : List Tn} {k : Nat} (hk : k < ts.length) (h : okT ts k = false) : vtB ts = false := by unfold vtB allT; rw [rng_no hk h]; simp
theorem vt_end {ts : List Tn} (h1 : 1 ≤ ts.length) (h2 : ts.length ≤ 24) (h3 : ∀ j, j < ts.length → okT ts j = true) : vtB ts = decide (sumT ts ≤ 336) := by
 unfold vtB allT; rw [decide_eq_true h1, decide_eq_true h2, jv5 h3]; rfl
def idxT : List Tn → Int → Nat
 | [], _ => 0
 | h :: r, t => if t < h.2 then 0 else idxT r (t - h.2) + 1
theorem sumT_pos : ∀ (k : Nat) (ts : List Tn), (∀ j, j < k → 0 ≤ (ts.getD j tn0).2) → 0 ≤ sumT (ts.take k) := by
  intro k
  induction k with
  | zero => intro ts _; exact Int.le_refl _
  | succ k ih =>
    intro ts h
    cases ts with
    | nil => exact Int.le_refl _
    | cons x r =>
      have a := ih r (fun j hj => h (j + 1) (by omega)); have b : 0 ≤ x.2 := h 0 (by omega)
      show 0 ≤ x.2 + sumT (r.take k)
      omega
theorem idx_at : ∀ (k : Nat) (ts : List Tn) (t : Int), k < ts.length → (∀ j, j < ts.length → 0 ≤ (ts.getD j tn0).2) → sumT (ts.take k) ≤ t → t < sumT (ts.take (k + 1)) → idxT ts t = k := by
  intro k
  induction k with
  | zero =>
    intro ts t hk hp h1 h2
    cases ts with
    | nil => simp at hk
    | cons x r =>
      have h2 : t < x.2 + 0 := h2
      show (if t < x.2 then 0 else _) = 0
      rw [if_pos (by omega)]
  | succ k ih =>
    intro ts t hk hp h1 h2
    cases ts with
    | nil => simp at hk
    | cons x r =>
      have h1 : x.2 + sumT (r.take k) ≤ t := h1; have h2 : t < x.2 + sumT (r.take (k + 1)) := h2
      have hk' : k < r.length := by simpa using hk
      have p := sumT_pos k r (fun j hj => hp (j + 1) (by simp; omega))
      show (if t < x.2 then 0 else idxT r (t - x.2) + 1) = k + 1
      rw [if_neg (by omega), ih r (t - x.2) hk' (fun j hj => hp (j + 1) (by simp; omega)) (by omega) (by omega)]
theorem idx_lt : ∀ (ts : List Tn) (t : Int), t < sumT ts → 0 ≤ t → idxT ts t < ts.length := by
  intro ts
  induction ts with
  | nil => intro t h h0; have h : t < 0 := h; omega
  | cons x r ih =>
    intro t h h0; have h : t < x.2 + sumT r := h
    show (if t < x.2 then 0 else idxT r (t - x.2) + 1) < r.length + 1
    by_cases c : t < x.2
    · rw [if_pos c]; omega
    · rw [if_neg c]; have := ih (t - x.2) (by omega) (by omega); omega
def whoT (ts : List Tn) (t : Int) : Int := (ts.getD (idxT ts t) tn0).1
def whoM (ts : List Tn) (t : Int) : Int := whoT ts (t % sumT ts)
def ownT (ts : List Tn) : List Int := (List.range (sumT ts).toNat).map fun (j : Nat) => whoT ts (j : Int)
theorem ownT_len (ts : List Tn) : (ownT ts).length = (sumT ts).toNat := by unfold ownT; simp
theorem ownT_get (ts : List Tn) {j : Nat} (h : j < (sumT ts).toNat) : (ownT ts).getD j 0 = whoT ts (j : Int) := by
 unfold ownT; rw [List.getD_eq_getElem?_getD, List.getElem?_map, List.getElem?_range h]; rfl
def whoV (ts : List Tn) (t : Int) : Int := if vtB ts && (decide (0 ≤ t) && decide (t ≤ 5000)) then whoM ts t else -1
section
open Go.ChangeShapes Go.WideShapes Go.RowKit Go.Deep
abbrev Nd := Int × Int × Int × Int × Int
abbrev nd0 : Nd := (0, 0, 0, 0, 0)
def jx1 : List Nd → List Int
 | [] => []
 | h :: t => h.1 :: h.2.1 :: h.2.2.1 :: h.2.2.2.1 :: h.2.2.2.2 :: jx1 t
theorem flatNd_len : ∀ xs : List Nd, (jx1 xs).length = xs.length * 5 := by
 intro xs
 induction xs with
 | nil => rfl
 | cons h t ih => show (jx1 t).length + 1 + 1 + 1 + 1 + 1 = (t.length + 1) * 5; rw [ih]; omega
theorem flatNd_append : ∀ a b : List Nd, jx1 (a ++ b) = jx1 a ++ jx1 b := by
 intro a b
 induction a with
 | nil => rfl
 | cons h t ih => show h.1 :: h.2.1 :: h.2.2.1 :: h.2.2.2.1 :: h.2.2.2.2 :: jx1 (t ++ b) = _; rw [ih]; rfl
theorem flatNd_get : ∀ (xs : List Nd) (k : Nat), k < xs.length → (jx1 xs).getD (k * 5) 0 = (xs.getD k nd0).1 ∧ (jx1 xs).getD (k * 5 + 1) 0 = (xs.getD k nd0).2.1 ∧ (jx1 xs).getD (k * 5 + 2) 0 = (xs.getD k nd0).2.2.1 ∧ (jx1 xs).getD (k * 5 + 3) 0 = (xs.getD k nd0).2.2.2.1 ∧ (jx1 xs).getD (k * 5 + 4) 0 = (xs.getD k nd0).2.2.2.2 := by
  intro xs
  induction xs with
  | nil => intro k h; simp at h
  | cons h t ih =>
    intro k hk
    cases k with
    | zero => exact ⟨rfl, rfl, rfl, rfl, rfl⟩
    | succ k =>
      have := ih k (by simpa using hk); rw [show (k + 1) * 5 = k * 5 + 1 + 1 + 1 + 1 + 1 from by omega]; exact this
def IsNd (w : World) (a : Option Addr) (xs : List Nd) : Prop := xs = [] ∨ ∃ g o, a = some ⟨g, o, none⟩ ∧ ∀ i, i < xs.length → w.cell? ⟨g, o + i * 5, none⟩ = some (.int .i64 (xs.getD i nd0).1) ∧ w.cell? ⟨g, o + i * 5 + 1, none⟩ = some (.int .i64 (xs.getD i nd0).2.1) ∧ w.cell? ⟨g, o + i * 5 + 2, none⟩ = some (.int .i64 (xs.getD i nd0).2.2.1) ∧ w.cell? ⟨g, o + i * 5 + 3, none⟩ = some (.int .i64 (xs.getD i nd0).2.2.2.1) ∧ w.cell? ⟨g, o + i * 5 + 4, none⟩ = some (.int .i64 (xs.getD i nd0).2.2.2.2)
theorem jx8 {w w' : World} {a : Option Addr} {xs : List Nd} (h : IsNd w a xs) (hB : Below w.heap.size w w') : IsNd w' a xs := by
 rcases h with h | ⟨g, o, ha, hc⟩
 ·exact .inl h
 ·refine .inr ⟨g, o, ha, fun i hi => ?_⟩
  obtain ⟨c0, c1, c2, c3, c4⟩ := hc i hi
  have kp : ∀ p v, w.cell? ⟨g, p, none⟩ = some v → w'.cell? ⟨g, p, none⟩ = some v := fun p v c => (hB.cell (p := ⟨g, p, none⟩) (World.block_lt_of_cell? w _ c)).trans c
  exact ⟨kp _ _ c0, kp _ _ c1, kp _ _ c2, kp _ _ c3, kp _ _ c4⟩
theorem nd_at {w wr : World} {g o : Nat} {xs : List Nd} (hc : ∀ i, i < xs.length → w.cell? ⟨g, o + i * 5, none⟩ = some (.int .i64 (xs.getD i nd0).1) ∧ w.cell? ⟨g, o + i * 5 + 1, none⟩ = some (.int .i64 (xs.getD i nd0).2.1) ∧ w.cell? ⟨g, o + i * 5 + 2, none⟩ = some (.int .i64 (xs.getD i nd0).2.2.1) ∧ w.cell? ⟨g, o + i * 5 + 3, none⟩ = some (.int .i64 (xs.getD i nd0).2.2.2.1) ∧ w.cell? ⟨g, o + i * 5 + 4, none⟩ = some (.int .i64 (xs.getD i nd0).2.2.2.2)) (hB : Below w.heap.size w wr) {k : Nat} (hk : k < xs.length) :
  wr.cell? ⟨g, o + k * 5, none⟩ = some (.int .i64 (xs.getD k nd0).1) ∧ wr.cell? ⟨g, o + k * 5 + 1, none⟩ = some (.int .i64 (xs.getD k nd0).2.1) ∧ wr.cell? ⟨g, o + k * 5 + 2, none⟩ = some (.int .i64 (xs.getD k nd0).2.2.1) ∧ wr.cell? ⟨g, o + k * 5 + 3, none⟩ = some (.int .i64 (xs.getD k nd0).2.2.2.1) ∧ wr.cell? ⟨g, o + k * 5 + 4, none⟩ = some (.int .i64 (xs.getD k nd0).2.2.2.2) := by
 obtain ⟨c0, c1, c2, c3, c4⟩ := hc k hk
 have kp : ∀ p v, w.cell? ⟨g, p, none⟩ = some v → wr.cell? ⟨g, p, none⟩ = some v := fun p v c => (hB.cell (p := ⟨g, p, none⟩) (World.block_lt_of_cell? w _ c)).trans c
 exact ⟨kp _ _ c0, kp _ _ c1, kp _ _ c2, kp _ _ c3, kp _ _ c4⟩
theorem Flat.nd {w : World} {g : Nat} {t : TypeId} {xs : List Nd} (h : Flat w g t (jx1 xs)) : IsNd w (some ⟨g, 0, none⟩) xs := by
 refine .inr ⟨g, 0, rfl, fun i hi => ?_⟩; obtain ⟨a0, a1, a2, a3, a4⟩ := flatNd_get xs i hi; have hl := flatNd_len xs; rw [Nat.zero_add]; exact ⟨by rw [h.cell (by omega), a0], by rw [h.cell (by omega), a1], by rw [h.cell (by omega), a2], by rw [h.cell (by omega), a3], by rw [h.cell (by omega), a4]⟩
def jja (xs : List Nd) : List Value := (jx1 xs).map (Value.int .i64)
theorem valsNd_len (xs : List Nd) : (jja xs).length = xs.length * 5 := by unfold jja; rw [List.length_map, flatNd_len]
theorem valsNd_one (xs : List Nd) : ∀ u ∈ jja xs, u.oneCell' = true := fun u hu => by
 unfold jja at hu; obtain ⟨z, _, rfl⟩ := List.mem_map.1 hu
 rfl
theorem valsNd_get {xs : List Nd} {k : Nat} (h : k < xs.length) : (jja xs)[k * 5]? = some (.int .i64 (xs.getD k nd0).1) ∧ (jja xs)[k * 5 + 1]? = some (.int .i64 (xs.getD k nd0).2.1) ∧ (jja xs)[k * 5 + 2]? = some (.int .i64 (xs.getD k nd0).2.2.1) ∧ (jja xs)[k * 5 + 3]? = some (.int .i64 (xs.getD k nd0).2.2.2.1) ∧ (jja xs)[k * 5 + 4]? = some (.int .i64 (xs.getD k nd0).2.2.2.2) := by
 obtain ⟨a0, a1, a2, a3, a4⟩ := flatNd_get xs k h; have hl := flatNd_len xs
 have get : ∀ j, j < (jx1 xs).length → (jja xs)[j]? = some (.int .i64 ((jx1 xs).getD j 0)) := fun j hj => by
  unfold jja; rw [List.getElem?_map, List.getElem?_eq_getElem hj, List.getD_eq_getElem?_getD, List.getElem?_eq_getElem hj]; rfl
 rw [get _ (by omega), get _ (by omega), get _ (by omega), get _ (by omega), get _ (by omega), a0, a1, a2, a3, a4]; exact ⟨rfl, rfl, rfl, rfl, rfl⟩
theorem nd_reads {w : World} {a : Option Addr} {xs : List Nd} (h : IsNd w a xs) : jj3 w w.heap.size 5 a xs.length (jja xs) := by
 refine ⟨valsNd_len xs, fun hn => ?_⟩
 rcases h with rfl | ⟨g, o, rfl, hc⟩
 ·exact absurd hn (by simp)
 ·refine ⟨⟨g, o, none⟩, rfl, ?_, fun j u hu => ?_⟩
  ·exact World.block_lt_of_cell? w _ (hc 0 hn).1
  ·have hl := valsNd_len xs
   have hj : j < (jja xs).length := by
    rcases Nat.lt_or_ge j (jja xs).length with h | h
    ·exact h
    ·rw [List.getElem?_eq_none h] at hu; cases hu
   have hk : j / 5 < xs.length := by omega
   obtain ⟨c0, c1, c2, c3, c4⟩ := hc _ hk; obtain ⟨v0, v1, v2, v3, v4⟩ := valsNd_get hk
   have hm : j % 5 = 0 ∨ j % 5 = 1 ∨ j % 5 = 2 ∨ j % 5 = 3 ∨ j % 5 = 4 := by omega
   rw [jv1]
   rcases hm with e | e | e | e | e
   ·have ej : j = j / 5 * 5 := by omega
    rw [ej] at hu ⊢; rw [v0] at hu; rw [c0, ← hu]
   ·have ej : j = j / 5 * 5 + 1 := by omega
    rw [ej] at hu ⊢; rw [v1] at hu; rw [← Nat.add_assoc, c1, ← hu]
   ·have ej : j = j / 5 * 5 + 2 := by omega
    rw [ej] at hu ⊢; rw [v2] at hu; rw [← Nat.add_assoc, c2, ← hu]
   ·have ej : j = j / 5 * 5 + 3 := by omega
    rw [ej] at hu ⊢; rw [v3] at hu; rw [← Nat.add_assoc, c3, ← hu]
   ·have ej : j = j / 5 * 5 + 4 := by omega
    rw [ej] at hu ⊢; rw [v4] at hu; rw [← Nat.add_assoc, c4, ← hu]
theorem infoNd : (Tryz.prog.info? 133).map (fun i => (i.zero, i.size, i.bytes)) = some (some (.agg #[.int .i64 0, .int .i64 0, .int .i64 0, .int .i64 0, .int .i64 0]), 5, 40) := by kernel_rfl
end
def mB (x : Nd) : Bool := (decide (0 ≤ x.2.1) && decide (x.2.1 ≤ 1000)) && (decide (0 ≤ x.2.2.1) && decide (x.2.2.1 ≤ 500)) && (decide (0 ≤ x.2.2.2.1) && decide (x.2.2.2.1 ≤ 500)) && (decide (0 ≤ x.2.2.2.2) && decide (x.2.2.2.2 ≤ 20))
def pB (p : Int) (k : Nat) : Bool := if k = 0 then decide (p = -1) else decide (0 ≤ p) && decide (p < (k : Int))
def okN (ns : List Nd) (k : Nat) : Bool := pB (ns.getD k nd0).1 k && mB (ns.getD k nd0)
def vnB (ns : List Nd) : Bool := decide (1 ≤ ns.length) && decide (ns.length ≤ 12) && (List.range ns.length).all (okN ns)
theorem mB_iff (x : Nd) : mB x = true ↔ (0 ≤ x.2.1 ∧ x.2.1 ≤ 1000) ∧ (0 ≤ x.2.2.1 ∧ x.2.2.1 ≤ 500) ∧ (0 ≤ x.2.2.2.1 ∧ x.2.2.2.1 ≤ 500) ∧ (0 ≤ x.2.2.2.2 ∧ x.2.2.2.2 ≤ 20) := by
 unfold mB; simp only [Bool.and_eq_true, decide_eq_true_eq, and_assoc]
theorem pB_zero (p : Int) : pB p 0 = decide (p = -1) := rfl
theorem pB_pos (p : Int) {k : Nat} (h : 0 < k) : pB p k = (decide (0 ≤ p) && decide (p < (k : Int))) := by unfold pB; rw [if_neg (by omega)]
theorem vn_no0 {ns : List Nd} (h : ns.length < 1) : vnB ns = false := by unfold vnB; rw [decide_eq_false (by omega : ¬ 1 ≤ ns.length)]; rfl
theorem vn_no1 {ns : List Nd} (h : 12 < ns.length) : vnB ns = false := by unfold vnB; rw [decide_eq_false (by omega : ¬ ns.length ≤ 12)]; simp
theorem vn_no2 {ns : List Nd} {k : Nat} (hk : k < ns.length) (h : okN ns k = false) : vnB ns = false := by unfold vnB; rw [rng_no hk h]; simp
theorem vn_end {ns : List Nd} (h3 : ∀ j, j < ns.length → okN ns j = true) : vnB ns = (decide (1 ≤ (ns.length : Int)) && decide ((ns.length : Int) ≤ 12)) := by
 unfold vnB; rw [jv5 h3, Bool.and_true]
 congr 1
 ·by_cases h : 1 ≤ ns.length
  ·rw [decide_eq_true h, decide_eq_true (by omega)]
  ·rw [decide_eq_false h, decide_eq_false (by omega)]
 ·by_cases h : ns.length ≤ 12
  ·rw [decide_eq_true h, decide_eq_true (by omega)]
  ·rw [decide_eq_false h, decide_eq_false (by omega)]
theorem vn_yes {ns : List Nd} (h1 : 1 ≤ ns.length) (h2 : ns.length ≤ 12) (h3 : ∀ j, j < ns.length → okN ns j = true) : vnB ns = true := by
 rw [vn_end h3, decide_eq_true (by omega), decide_eq_true (by omega)]; rfl
theorem vn_is {ns : List Nd} (h : vnB ns = true) : 1 ≤ ns.length ∧ ns.length ≤ 12 ∧ ∀ j, j < ns.length → okN ns j = true := by
 unfold vnB at h; simp only [Bool.and_eq_true, decide_eq_true_eq, jv6] at h; exact ⟨h.1.1, h.1.2, h.2⟩
theorem vn_at {ns : List Nd} (h : vnB ns = true) {k : Nat} (hk : k < ns.length) :
  (0 ≤ (ns.getD k nd0).2.1 ∧ (ns.getD k nd0).2.1 ≤ 1000) ∧ (0 ≤ (ns.getD k nd0).2.2.1 ∧ (ns.getD k nd0).2.2.1 ≤ 500) ∧ (0 ≤ (ns.getD k nd0).2.2.2.1 ∧ (ns.getD k nd0).2.2.2.1 ≤ 500) ∧ (0 ≤ (ns.getD k nd0).2.2.2.2 ∧ (ns.getD k nd0).2.2.2.2 ≤ 20) := by
 have := (vn_is h).2.2 k hk; unfold okN at this; rw [Bool.and_eq_true] at this; exact (mB_iff _).1 this.2
theorem vn_par0 {ns : List Nd} (h : vnB ns = true) : (ns.getD 0 nd0).1 = -1 := by
 have := (vn_is h).2.2 0 (vn_is h).1; unfold okN at this; rw [Bool.and_eq_true, pB_zero, decide_eq_true_eq] at this; exact this.1
theorem vn_par {ns : List Nd} (h : vnB ns = true) {k : Nat} (hk : k < ns.length) (h0 : 0 < k) : 0 ≤ (ns.getD k nd0).1 ∧ (ns.getD k nd0).1 < (k : Int) := by
 have := (vn_is h).2.2 k hk; unfold okN at this; rw [Bool.and_eq_true, pB_pos _ h0, Bool.and_eq_true, decide_eq_true_eq, decide_eq_true_eq] at this; exact this.1
theorem vn_parI {ns : List Nd} (h : vnB ns = true) {k : Nat} (hk : k < ns.length) : -1 ≤ (ns.getD k nd0).1 ∧ (ns.getD k nd0).1 < (k : Int) := by
 by_cases h0 : 0 < k
 ·have := vn_par h hk h0; omega
 ·obtain rfl : k = 0 := by omega
  rw [vn_par0 h]; constructor <;> omega
def inN (n : Nat) (i : Int) : Bool := decide (0 ≤ i) && decide (i < (n : Int))
theorem inN_yes {n : Nat} {i : Int} (h : inN n i = true) : ∃ k : Nat, i = (k : Int) ∧ k < n := by
 unfold inN at h; simp only [Bool.and_eq_true, decide_eq_true_eq] at h; exact ⟨i.toNat, by omega, by omega⟩
theorem inN_is {n k : Nat} (h : k < n) : inN n (k : Int) = true := by
 unfold inN; rw [decide_eq_true (by omega), decide_eq_true (by omega)]; rfl
def jx7 (ns : List Nd) (at_ : Int) : Nat → List Int
 | 0 => []
 | k + 1 => if (ns.getD k nd0).1 = at_ then jx7 ns at_ k ++ [(k : Int)] else jx7 ns at_ k
theorem jva {ns : List Nd} {at_ : Int} {k : Nat} (h : (ns.getD k nd0).1 = at_) : jx7 ns at_ (k + 1) = jx7 ns at_ k ++ [(k : Int)] := if_pos h
theorem kidsTo_no {ns : List Nd} {at_ : Int} {k : Nat} (h : ¬ (ns.getD k nd0).1 = at_) : jx7 ns at_ (k + 1) = jx7 ns at_ k := if_neg h
theorem kidsTo_len (ns : List Nd) (at_ : Int) : ∀ k, (jx7 ns at_ k).length ≤ k := by
  intro k
  induction k with
  | zero => exact Nat.le_refl _
  | succ k ih =>
    by_cases h : (ns.getD k nd0).1 = at_
    · rw [jva h, List.length_append]; show _ + 1 ≤ _; omega
    · rw [kidsTo_no h]; omega
def jz7 (ns : List Nd) (at_ : Int) : List Int := jx7 ns at_ ns.length
def kidsV (ns : List Nd) (at_ : Int) : List Int := if (vnB ns && inN ns.length at_) = true then jz7 ns at_ else []
theorem kids_no {ns : List Nd} {at_ : Int} (h : vnB ns = false ∨ inN ns.length at_ = false) : kidsV ns at_ = [] := by
 unfold kidsV; rw [if_neg]; rcases h with h | h <;> rw [h] <;> simp
theorem kids_yes {ns : List Nd} {at_ : Int} (h : vnB ns = true) (h2 : inN ns.length at_ = true) : kidsV ns at_ = jz7 ns at_ := by
 unfold kidsV; rw [h, h2]; rfl
theorem kidsTo_mem (ns : List Nd) (at_ : Int) : ∀ k, ∀ z ∈ jx7 ns at_ k, ∃ j : Nat, z = (j : Int) ∧ j < k ∧ (ns.getD j nd0).1 = at_ := by
  intro k
  induction k with
  | zero => intro z h; cases h
  | succ k ih =>
    intro z hz
    by_cases h : (ns.getD k nd0).1 = at_
    · rw [jva h, List.mem_append, List.mem_singleton] at hz
      rcases hz with hz | rfl
      · obtain ⟨j, a, b, c⟩ := ih z hz; exact ⟨j, a, by omega, c⟩
      · exact ⟨k, rfl, by omega, h⟩
    · rw [kidsTo_no h] at hz
      obtain ⟨j, a, b, c⟩ := ih z hz; exact ⟨j, a, by omega, c⟩
theorem kidsTo_in {ns : List Nd} {at_ : Int} {j : Nat} (h : (ns.getD j nd0).1 = at_) : ∀ k, j < k → (j : Int) ∈ jx7 ns at_ k := by
  intro k
  induction k with
  | zero => intro h; omega
  | succ k ih =>
    intro hk
    by_cases e : j = k
    · subst e; rw [jva h]; exact List.mem_append_right _ (List.mem_singleton.2 rfl)
    · have := ih (by omega)
      by_cases h2 : (ns.getD k nd0).1 = at_
      · rw [jva h2]; exact List.mem_append_left _ this
      · rw [kidsTo_no h2]; exact this
theorem kids_bd {ns : List Nd} {at_ : Int} {z : Int} (h : z ∈ jz7 ns at_) : ∃ j : Nat, z = (j : Int) ∧ j < ns.length ∧ (ns.getD j nd0).1 = at_ := kidsTo_mem ns at_ _ z h
def leavesTo (ns : List Nd) : Nat → List Int
 | 0 => []
 | k + 1 => if (jz7 ns (k : Int)).length = 0 then leavesTo ns k ++ [(k : Int)] else leavesTo ns k
theorem leavesTo_yes {ns : List Nd} {k : Nat} (h : (jz7 ns (k : Int)).length = 0) : leavesTo ns (k + 1) = leavesTo ns k ++ [(k : Int)] := if_pos h
theorem leavesTo_no {ns : List Nd} {k : Nat} (h : ¬ (jz7 ns (k : Int)).length = 0) : leavesTo ns (k + 1) = leavesTo ns k := if_neg h
def jzh (held c w : Int) : Int := min w (held + c)
def jxd (room held c w : Int) : Int := min room (held + c - jzh held c w)
def jx2 (room held c w : Int) : Int := held + c - jzh held c w - jxd room held c w
abbrev Hrs := List (Int × Int)
def endB (room : Int) : Int → Hrs → Int
 | h, [] => h
 | h, x :: t => endB room (jxd room h x.1 x.2) t
def giveB (room : Int) : Int → Hrs → Int
 | _, [] => 0
 | h, x :: t => jzh h x.1 x.2 + giveB room (jxd room h x.1 x.2) t
def spillB (room : Int) : Int → Hrs → Int
 | _, [] => 0
 | h, x :: t => jx2 room h x.1 x.2 + spillB room (jxd room h x.1 x.2) t
def comeS : Hrs → Int
 | [] => 0
 | x :: t => x.1 + comeS t
def HOk (l : Hrs) : Prop := ∀ x ∈ l, 0 ≤ x.1 ∧ 0 ≤ x.2
theorem hok_cons {x : Int × Int} {t : Hrs} (h : HOk (x :: t)) : 0 ≤ x.1 ∧ 0 ≤ x.2 ∧ HOk t := ⟨(h x (by simp)).1, (h x (by simp)).2, fun y hy => h y (by simp [hy])⟩
theorem step_bd {room held c w : Int} (h : 0 ≤ held ∧ held ≤ room) (hc : 0 ≤ c) (hw : 0 ≤ w) : 0 ≤ jxd room held c w ∧ jxd room held c w ≤ room ∧ 0 ≤ jzh held c w ∧ jzh held c w ≤ w ∧ 0 ≤ jx2 room held c w := by
 unfold jx2 jxd jzh; omega
theorem water (room : Int) : ∀ (l : Hrs) (h : Int), h + comeS l = giveB room h l + spillB room h l + endB room h l := by
  intro l
  induction l with
  | nil => intro h; show h + 0 = 0 + 0 + h; omega
  | cons x t ih =>
    intro h; have := ih (jxd room h x.1 x.2)
    show h + (x.1 + comeS t) = (jzh h x.1 x.2 + giveB room _ t) + (jx2 room h x.1 x.2 + spillB room _ t) + endB room _ t
    unfold jx2
    omega
theorem more {room room2 : Int} (hr : room ≤ room2) : ∀ (l : Hrs) (h h2 : Int), HOk l → 0 ≤ h → h ≤ room → h ≤ h2 → h2 ≤ room2 → endB room h l ≤ endB room2 h2 l ∧ giveB room h l ≤ giveB room2 h2 l := by
  intro l
  induction l with
  | nil => intro h h2 _ _ _ e _; exact ⟨e, Int.le_refl _⟩
  | cons x t ih =>
    intro h h2 ho a b e d; obtain ⟨c1, c2, c3⟩ := hok_cons ho; have s1 := step_bd (room := room) ⟨a, b⟩ c1 c2; have s2 := step_bd (room := room2) (held := h2) ⟨by omega, d⟩ c1 c2
    have m : jxd room h x.1 x.2 ≤ jxd room2 h2 x.1 x.2 ∧ jzh h x.1 x.2 ≤ jzh h2 x.1 x.2 := by unfold jxd jzh; omega
    have := ih (jxd room h x.1 x.2) (jxd room2 h2 x.1 x.2) c3 s1.1 s1.2.1 m.1 s2.2.1; refine ⟨this.1, ?_⟩
    show jzh h x.1 x.2 + giveB room _ t ≤ jzh h2 x.1 x.2 + giveB room2 _ t
    omega
def vbB (room held : Int) : Bool := decide (0 ≤ room) && (decide (room ≤ 20000) && (decide (0 ≤ held) && decide (held ≤ room)))
theorem vb_iff {room held : Int} : vbB room held = true ↔ 0 ≤ room ∧ room ≤ 20000 ∧ 0 ≤ held ∧ held ≤ room := by unfold vbB; simp
theorem vb_no {room held : Int} (h : ¬ (0 ≤ room ∧ room ≤ 20000 ∧ 0 ≤ held ∧ held ≤ room)) : vbB room held = false := by
 rw [Bool.eq_false_iff]; intro k; exact h (vb_iff.1 k)
def okAc (ac : List Ac) (k : Nat) : Bool := decide (1 ≤ (ac.getD k ac0).1) && decide ((ac.getD k ac0).1 ≤ 999) && decide (1 ≤ (ac.getD k ac0).2) && decide ((ac.getD k ac0).2 ≤ 1000000) && (decide (k = 0) || decide ((ac.getD (k - 1) ac0).1 < (ac.getD k ac0).1))
def acB (ac : List Ac) : Bool := (List.range ac.length).all (okAc ac)
theorem okAc_iff (ac : List Ac) (k : Nat) : okAc ac k = true ↔ 1 ≤ (ac.getD k ac0).1 ∧ (ac.getD k ac0).1 ≤ 999 ∧ 1 ≤ (ac.getD k ac0).2 ∧ (ac.getD k ac0).2 ≤ 1000000 ∧ (k = 0 ∨ (ac.getD (k - 1) ac0).1 < (ac.getD k ac0).1) := by
 unfold okAc; simp only [Bool.and_eq_true, Bool.or_eq_true, decide_eq_true_eq, and_assoc]
theorem acB_at {ac : List Ac} (h : acB ac = true) {k : Nat} (hk : k < ac.length) : okAc ac k = true := (jv6 _ _).1 h k hk
def lastA (ac : List Ac) : Nat → Int
 | 0 => 0
 | k + 1 => (ac.getD k ac0).1
theorem okAc_last (ac : List Ac) (k : Nat) : okAc ac k = true ↔ lastA ac k < (ac.getD k ac0).1 ∧ 1 ≤ (ac.getD k ac0).1 ∧ (ac.getD k ac0).1 ≤ 999 ∧ 1 ≤ (ac.getD k ac0).2 ∧ (ac.getD k ac0).2 ≤ 1000000 := by
  rw [okAc_iff]
  cases k with
  | zero =>
    show _ ↔ (0 : Int) < _ ∧ _
    constructor
    · rintro ⟨a, b, c, d, _⟩; exact ⟨by omega, a, b, c, d⟩
    · rintro ⟨_, a, b, c, d⟩; exact ⟨a, b, c, d, .inl rfl⟩
  | succ k =>
    show _ ↔ (ac.getD k ac0).1 < _ ∧ _
    constructor
    · rintro ⟨a, b, c, d, e⟩
      rcases e with e | e
      · omega
      · exact ⟨e, a, b, c, d⟩
    · rintro ⟨e, a, b, c, d⟩; exact ⟨a, b, c, d, .inr e⟩
theorem acB_no {ac : List Ac} {k : Nat} (hk : k < ac.length) (h : ¬ (lastA ac k < (ac.getD k ac0).1 ∧ 1 ≤ (ac.getD k ac0).1 ∧ (ac.getD k ac0).1 ≤ 999 ∧ 1 ≤ (ac.getD k ac0).2 ∧ (ac.getD k ac0).2 ≤ 1000000)) : acB ac = false := by
 refine rng_no hk ?_
 cases e : okAc ac k with
 | false => rfl
 | true => exact absurd ((okAc_last ac k).1 e) h
def acS (ac : List Ac) : Nat → Int
 | 0 => 0
 | k + 1 => acS ac k + (ac.getD k ac0).2
theorem acS_bd {ac : List Ac} (h : acB ac = true) : ∀ k, k ≤ ac.length → 0 ≤ acS ac k ∧ acS ac k ≤ 1000000 * (k : Int) := by
  intro k
  induction k with
  | zero => intro _; exact ⟨Int.le_refl _, by show (0 : Int) ≤ 1000000 * ((0 : Nat) : Int); omega⟩
  | succ k ih =>
    intro hk; have a := ih (by omega); have b := (okAc_iff ac k).1 (acB_at h (k := k) (by omega))
    show 0 ≤ acS ac k + _ ∧ acS ac k + _ ≤ _
    omega
structure Tw where
 hs : List Hd
 ts : List Tn
 ns : List Nd
 r : Int
 hd : Int
 ac : List Ac
 rt : Int
 tm : Int
 ls : Int
 cm : Int
def Tw.zero : Tw := ⟨[], [], [], 0, 0, [], 0, 0, 0, 0⟩
def inB3 (n l h : Int) : Bool := decide (l ≤ n) && decide (n ≤ h)
def twB (t : Tw) : Bool := vlR t.hs && (vtB t.ts && (vnB t.ns && (vbB t.r t.hd && (acB t.ac && (inB3 t.rt 0 500 && (inB3 t.tm 0 5000 && (inB3 t.ls 0 1000000 && (inB3 t.cm 0 1000000 && decide (acS t.ac t.ac.length + t.hd + t.ls = t.cm)))))))))
structure TA where
 a1 : Option Addr
 c1 : Nat
 a2 : Option Addr
 c2 : Nat
 a3 : Option Addr
 c3 : Nat
 a4 : Option Addr
 c4 : Nat
def TA.zero : TA := ⟨none, 0, none, 0, none, 0, none, 0⟩
def twV (p : TA) (t : Tw) : Value := .agg #[.slice p.a1 t.hs.length p.c1, .slice p.a2 t.ts.length p.c2, .slice p.a3 t.ns.length p.c3, .int .i64 t.r, .int .i64 t.hd, .slice p.a4 t.ac.length p.c4, .int .i64 t.rt, .int .i64 t.tm, .int .i64 t.ls, .int .i64 t.cm]
theorem jq0 {w : World} {g : Nat} {t : TypeId} {v0 v1 v2 v3 v4 v5 v6 v7 v8 v9 : Value} (h : Blk w g t #[v0, v1, v2, v3, v4, v5, v6, v7, v8, v9]) : w.cell? ⟨g, 0, none⟩ = some v0 ∧ w.cell? ⟨g, 1, none⟩ = some v1 ∧ w.cell? ⟨g, 2, none⟩ = some v2 ∧ w.cell? ⟨g, 3, none⟩ = some v3 ∧ w.cell? ⟨g, 4, none⟩ = some v4 ∧ w.cell? ⟨g, 5, none⟩ = some v5 ∧ w.cell? ⟨g, 6, none⟩ = some v6 ∧ w.cell? ⟨g, 7, none⟩ = some v7 ∧ w.cell? ⟨g, 8, none⟩ = some v8 ∧ w.cell? ⟨g, 9, none⟩ = some v9 := ⟨h.cell 0, h.cell 1, h.cell 2, h.cell 3, h.cell 4, h.cell 5, h.cell 6, h.cell 7, h.cell 8, h.cell 9⟩
structure IsTw (w : World) (p : TA) (t : Tw) : Prop where
 h1 : IsHs w p.a1 t.hs
 h2 : IsTn w p.a2 t.ts
 h3 : IsNd w p.a3 t.ns
 h4 : IsAc w p.a4 t.ac
 n1 : t.hs.length ≤ 1048576
 n2 : t.ts.length ≤ 1048576
 n3 : t.ns.length ≤ 1048576
 n4 : t.ac.length ≤ 1048576
 k1 : t.hs.length ≤ p.c1
 k2 : t.ts.length ≤ p.c2
 k3 : t.ns.length ≤ p.c3
 k4 : t.ac.length ≤ p.c4
theorem jq7 {w w' : World} {p : TA} {t : Tw} (h : IsTw w p t) (hB : Below w.heap.size w w') : IsTw w' p t :=
 ⟨jqi h.h1 hB, tn_below h.h2 hB, jx8 h.h3 hB, ac_below h.h4 hB, h.n1, h.n2, h.n3, h.n4, h.k1, h.k2, h.k3, h.k4⟩
theorem rowF_hs {w : World} {base c : Nat} {a : Option Addr} {xs : List Hd} (h : RowF w base 123 (.slice a xs.length c) xs.length (jj8 xs)) : IsHs w a xs ∧ xs.length ≤ c := by
 rcases h with ⟨e, h0⟩ | ⟨g, cap, e, hg, F, hc⟩
 ·injection e with e1 e2 e3
  refine ⟨.inl (List.eq_nil_of_length_eq_zero h0), by omega⟩
 ·injection e with e1 e2 e3
  subst e1 e3; exact ⟨F.hs, hc⟩
theorem rowF_tn {w : World} {base c : Nat} {a : Option Addr} {xs : List Tn} (h : RowF w base 137 (.slice a xs.length c) xs.length (jzj xs)) : IsTn w a xs ∧ xs.length ≤ c := by
 rcases h with ⟨e, h0⟩ | ⟨g, cap, e, hg, F, hc⟩
 ·injection e with e1 e2 e3
  refine ⟨.inl (List.eq_nil_of_length_eq_zero h0), by omega⟩
 ·injection e with e1 e2 e3
  subst e1 e3; exact ⟨F.tn, hc⟩
theorem rowF_nd {w : World} {base c : Nat} {a : Option Addr} {xs : List Nd} (h : RowF w base 133 (.slice a xs.length c) xs.length (jx1 xs)) : IsNd w a xs ∧ xs.length ≤ c := by
 rcases h with ⟨e, h0⟩ | ⟨g, cap, e, hg, F, hc⟩
 ·injection e with e1 e2 e3
  refine ⟨.inl (List.eq_nil_of_length_eq_zero h0), by omega⟩
 ·injection e with e1 e2 e3
  subst e1 e3; exact ⟨F.nd, hc⟩
theorem rowF_ac {w : World} {base c : Nat} {a : Option Addr} {xs : List Ac} (h : RowF w base 71 (.slice a xs.length c) xs.length (jx3 xs)) : IsAc w a xs ∧ xs.length ≤ c := by
 rcases h with ⟨e, h0⟩ | ⟨g, cap, e, hg, F, hc⟩
 ·injection e with e1 e2 e3
  refine ⟨.inl (List.eq_nil_of_length_eq_zero h0), by omega⟩
 ·injection e with e1 e2 e3
  subst e1 e3; exact ⟨F.ac, hc⟩
structure TwO (w : World) (base : Nat) (p : TA) (t : Tw) : Prop where
 o1 : RowF w base 123 (.slice p.a1 t.hs.length p.c1) t.hs.length (jj8 t.hs)
 n1 : t.hs.length ≤ 1048576
 o2 : RowF w base 137 (.slice p.a2 t.ts.length p.c2) t.ts.length (jzj t.ts)
 n2 : t.ts.length ≤ 1048576
 o3 : RowF w base 133 (.slice p.a3 t.ns.length p.c3) t.ns.length (jx1 t.ns)
 n3 : t.ns.length ≤ 1048576
 o4 : RowF w base 71 (.slice p.a4 t.ac.length p.c4) t.ac.length (jx3 t.ac)
 n4 : t.ac.length ≤ 1048576
theorem TwO.is {w : World} {base : Nat} {p : TA} {t : Tw} (h : TwO w base p t) : IsTw w p t :=
 ⟨(rowF_hs h.o1).1, (rowF_tn h.o2).1, (rowF_nd h.o3).1, (rowF_ac h.o4).1, h.n1, h.n2, h.n3, h.n4, (rowF_hs h.o1).2, (rowF_tn h.o2).2, (rowF_nd h.o3).2, (rowF_ac h.o4).2⟩
theorem TwO.next {w w' : World} {base : Nat} {p : TA} {t : Tw} (h : TwO w base p t) (hb : Below w.heap.size w w') : TwO w' base p t :=
 ⟨h.o1.next hb, h.n1, h.o2.next hb, h.n2, h.o3.next hb, h.n3, h.o4.next hb, h.n4⟩
theorem TwO.base {w : World} {a b : Nat} {p : TA} {t : Tw} (h : TwO w b p t) (hab : a ≤ b) : TwO w a p t :=
 ⟨h.o1.base hab, h.n1, h.o2.base hab, h.n2, h.o3.base hab, h.n3, h.o4.base hab, h.n4⟩
theorem TwO.zero (w : World) (base : Nat) : TwO w base TA.zero Tw.zero := ⟨.inl ⟨rfl, rfl⟩, by decide, .inl ⟨rfl, rfl⟩, by decide, .inl ⟨rfl, rfl⟩, by decide, .inl ⟨rfl, rfl⟩, by decide⟩
def OutTw (w : World) (t : Tw) (e : Ending) (w' : World) : Prop := ∃ p, e = .returned (twV p t) ∧ TwO w' w.heap.size p t ∧ Below w.heap.size w w'
def jq9 (w : World) (b : Nat) (v0 v1 v2 v3 v4 v5 v6 v7 v8 v9 : Value) : World := (((((((((w.setCell ⟨b, 0, none⟩ v0).setCell ⟨b, 1, none⟩ v1).setCell ⟨b, 2, none⟩ v2).setCell ⟨b, 3, none⟩ v3).setCell ⟨b, 4, none⟩ v4).setCell ⟨b, 5, none⟩ v5).setCell ⟨b, 6, none⟩ v6).setCell ⟨b, 7, none⟩ v7).setCell ⟨b, 8, none⟩ v8).setCell ⟨b, 9, none⟩ v9
theorem jjg {w : World} {g b j : Nat} {t : TypeId} {zs : List Int} {v : Value} (h : Flat w g t zs) (hne : g ≠ b) : Flat (w.setCell ⟨b, j, none⟩ v) g t zs := h.of_block (Below.heap_setCell w ⟨b, j, none⟩ v g hne)
theorem sets10_flat {w : World} {g b : Nat} {t : TypeId} {zs : List Int} {v0 v1 v2 v3 v4 v5 v6 v7 v8 v9 : Value} (h : Flat w g t zs) (hne : g ≠ b) : Flat (jq9 w b v0 v1 v2 v3 v4 v5 v6 v7 v8 v9) g t zs :=
 jjg (jjg (jjg (jjg (jjg (jjg (jjg (jjg (jjg (jjg h hne) hne) hne) hne) hne) hne) hne) hne) hne) hne
theorem sets10_below {w W : World} {b : Nat} {v0 v1 v2 v3 v4 v5 v6 v7 v8 v9 : Value} (h : Below w.heap.size w W) (hb : w.heap.size ≤ b) : Below w.heap.size w (jq9 W b v0 v1 v2 v3 v4 v5 v6 v7 v8 v9) :=
 (((((((((h.setCell (p := ⟨b, 0, none⟩) hb v0).setCell (p := ⟨b, 1, none⟩) hb v1).setCell (p := ⟨b, 2, none⟩) hb v2).setCell (p := ⟨b, 3, none⟩) hb v3).setCell (p := ⟨b, 4, none⟩) hb v4).setCell (p := ⟨b, 5, none⟩) hb v5).setCell (p := ⟨b, 6, none⟩) hb v6).setCell (p := ⟨b, 7, none⟩) hb v7).setCell (p := ⟨b, 8, none⟩) hb v8).setCell (p := ⟨b, 9, none⟩) hb v9
theorem jze {w : World} {b : Nat} {t : TypeId} {u0 u1 u2 u3 u4 u5 u6 u7 u8 u9 v0 v1 v2 v3 v4 v5 v6 v7 v8 v9 : Value} (h : Blk w b t #[u0, u1, u2, u3, u4, u5, u6, u7, u8, u9]) : Blk (jq9 w b v0 v1 v2 v3 v4 v5 v6 v7 v8 v9) b t #[v0, v1, v2, v3, v4, v5, v6, v7, v8, v9] := by
 have k := (((((((((h.set_ 0 v0).set_ 1 v1).set_ 2 v2).set_ 3 v3).set_ 4 v4).set_ 5 v5).set_ 6 v6).set_ 7 v7).set_ 8 v8).set_ 9 v9; simp only [List.setIfInBounds_toArray, List.set_cons_zero, List.set_cons_succ] at k; exact k
theorem flatN_new (w : World) (t : TypeId) (zs : List Int) : Flat (w.alloc (.cells (zs.map (Value.int .i64)).toArray t)) w.heap.size t zs := by
 refine ⟨_, Blk.new w t _, fun j hj => ?_⟩; rw [List.getElem?_toArray, List.getElem?_map, List.getElem?_eq_getElem hj, List.getD_eq_getElem?_getD, List.getElem?_eq_getElem hj]; rfl
theorem flat_alloc {w : World} {g : Nat} {t : TypeId} {zs : List Int} (h : Flat w g t zs) (O : Obj) : Flat (w.alloc O) g t zs := h.next ((Below.refl _ w).alloc (Nat.le_refl _) O)


structure Dd where
 k : Int
 o : Int
 t : Int
 n : Int
 d : Int
 zs : List Int
def dd0 : Dd := ⟨0, 0, 0, 0, 0, []⟩
structure Ev where
 k : Int
 dd : Dd
 at_ : Int
 nu : Int
def ev0 : Ev := ⟨0, dd0, 0, 0⟩
theorem infoEv : (Tryz.prog.info? 37).map (fun i => (i.zero, i.size, i.bytes)) = some (some (.agg #[.int .i64 0, .int .i64 0, .int .i64 0, .int .i64 0, .int .i64 0, .int .i64 0, .slice none 0 0, .int .i64 0, .int .i64 0]), 9, 88) := by kernel_rfl
def evC (v : Value) (x : Ev) : List Value := [.int .i64 x.k, .int .i64 x.dd.k, .int .i64 x.dd.o, .int .i64 x.dd.t, .int .i64 x.dd.n, .int .i64 x.dd.d, v, .int .i64 x.at_, .int .i64 x.nu]
def rowC (V : List Value) (es : List Ev) : List Value := (List.zipWith evC V es).flatten
theorem rowC_snoc {V : List Value} {es : List Ev} (h : V.length = es.length) (v : Value) (x : Ev) : rowC (V ++ [v]) (es ++ [x]) = rowC V es ++ evC v x := by
 unfold rowC; rw [List.zipWith_append h, List.flatten_append]; simp
structure OwnEs (w : World) (base : Nat) (v : Value) (es : List Ev) (V : List Value) : Prop where
 len : V.length = es.length
 row : w.ownsRow base 37 9 v es.length (rowC V es)
 own : ∀ j, j < es.length → OwnI w base (V.getD j undef) (es.getD j ev0).dd.zs
 sep : ∀ i j, i < j → j < es.length → ∀ p q, (V.getD i undef).ownBlock = some p → (V.getD j undef).ownBlock = some q → p < q
theorem ownEs_new {w W : World} (h : Below w.heap.size w W) : OwnEs (W.alloc (.cells #[] 37)) w.heap.size (.slice (some ⟨W.heap.size, 0, none⟩) 0 0) [] [] :=
 ⟨rfl, ⟨by simp [rowC], .inr ⟨W.heap.size, 0, #[], rfl, h.size, Go.Deep.blk_alloc_new _ _, Nat.le_refl _, by unfold maxLen; omega, rfl, rfl⟩⟩, fun j hj => absurd hj (Nat.not_lt_zero _), fun i j _ hj => absurd hj (Nat.not_lt_zero _)⟩
theorem row_of_below {w w' : World} {base n size : Nat} {e : TypeId} {v : Value} {xs : List Value} (h : w.ownsRow base e size v n xs) (hb : Below w.heap.size w w') : w'.ownsRow base e size v n xs := by
 refine ⟨h.1, ?_⟩
 rcases h.2 with h | ⟨g, cap, cur, a, b, c, d⟩
 ·exact .inl h
 ·exact .inr ⟨g, cap, cur, a, b, (hb.block g (Array.getElem?_eq_some_iff.1 c).1).trans c, d⟩
theorem getD_snocE {α : Type} (l : List α) (a d : α) (j : Nat) : (l ++ [a]).getD j d = if j < l.length then l.getD j d else if j = l.length then a else d := by
 rw [List.getD_eq_getElem?_getD, List.getD_eq_getElem?_getD]
 by_cases h : j < l.length
 ·rw [if_pos h, List.getElem?_append_left h]
 ·rw [if_neg h, List.getElem?_append_right (by omega)]
  by_cases h2 : j = l.length
  ·rw [if_pos h2, h2, Nat.sub_self]; rfl
  ·rw [if_neg h2, List.getElem?_eq_none (by simp; omega)]; rfl
theorem evC_one (b2 : Option Addr) (c2 : Nat) (x : Ev) : ∀ u ∈ [Value.int .i64 x.k, Value.int .i64 x.dd.k, Value.int .i64 x.dd.o, Value.int .i64 x.dd.t, Value.int .i64 x.dd.n, Value.int .i64 x.dd.d, Value.slice b2 x.dd.zs.length c2, Value.int .i64 x.at_, Value.int .i64 x.nu], u.oneCell' = true := by
 intro u hu; simp only [List.mem_cons, List.not_mem_nil, or_false] at hu
 rcases hu with rfl | rfl | rfl | rfl | rfl | rfl | rfl | rfl | rfl <;> rfl
theorem ints_grownE {w w' : World} {A : Option Addr} {zs : List Int} {row : Option Nat} (h : jqc w A zs) (hg : w.grownBy w' row) (hlt : ∀ g o s, A = some ⟨g, o, s⟩ → g < w.heap.size ∧ row ≠ some g) : jqc w' A zs := by
 rcases h with h | ⟨g, o, rfl, hc⟩
 ·exact .inl h
 ·obtain ⟨h1, h2⟩ := hlt g o none rfl
  refine .inr ⟨g, o, rfl, fun i hi => ?_⟩; exact hg.cell (hc i hi) (fun c => h2 c.symm)
def Hrz (w : World) (base : Nat) (ex : Option Nat) (u : Value) (zs : List Int) : Prop := ∃ (A : Option Addr) (cz : Nat), u = .slice A zs.length cz ∧ jqc w A zs ∧ zs.length ≤ cz ∧ (zs ≠ [] → ∀ g o s, A = some ⟨g, o, s⟩ → base ≤ g ∧ g < w.heap.size ∧ ex ≠ some g)
structure OwnEz (w : World) (base : Nat) (v : Value) (es : List Ev) (V : List Value) : Prop where
 len : V.length = es.length
 row : w.ownsRow base 37 9 v es.length (rowC V es)
 own : ∀ j, j < es.length → Hrz w base v.ownBlock (V.getD j undef) (es.getD j ev0).dd.zs
theorem ownEz_new {w W : World} (h : Below w.heap.size w W) : OwnEz (W.alloc (.cells #[] 37)) w.heap.size (.slice (some ⟨W.heap.size, 0, none⟩) 0 0) [] [] :=
 ⟨rfl, (ownEs_new h).row, fun j hj => absurd hj (Nat.not_lt_zero _)⟩
theorem Hrz.next {w w' : World} {base : Nat} {ex : Option Nat} {u : Value} {zs : List Int} (h : Hrz w base ex u zs) (hb : Below w.heap.size w w') : Hrz w' base ex u zs := by
 obtain ⟨A, cz, hu, hI, hl, ha⟩ := h; exact ⟨A, cz, hu, jqf hI hb, hl, fun hz g o s e => ⟨(ha hz g o s e).1, Nat.lt_of_lt_of_le (ha hz g o s e).2.1 hb.size, (ha hz g o s e).2.2⟩⟩
theorem OwnEz.next {w w' : World} {base : Nat} {v : Value} {es : List Ev} {V : List Value} (h : OwnEz w base v es V) (hb : Below w.heap.size w w') : OwnEz w' base v es V :=
 ⟨h.len, row_of_below h.row hb, fun j hj => (h.own j hj).next hb⟩
theorem OwnEz.forms {w : World} {base : Nat} {v : Value} {es : List Ev} {V : List Value} (h : OwnEz w base v es V) : ∃ b k, v = .slice b es.length k := by
 rcases Go.Joins.ownsRow_forms h.row with ⟨e, hn⟩ | ⟨g, c, e⟩
 ·exact ⟨none, 0, by rw [hn]; exact e⟩
 ·exact ⟨_, c, e⟩
theorem Hrz.far {w w' : World} {base b : Nat} {ex : Option Nat} {u : Value} {zs : List Int} (h : Hrz w base ex u zs) (hG : w.grownBy w' (some b)) (hb : b < base) : Hrz w' base ex u zs := by
 obtain ⟨A, cz, hu, hI, hl, ha⟩ := h
 by_cases hz : zs = []
 ·exact ⟨A, cz, hu, .inl hz, hl, fun c => absurd hz c⟩
 exact ⟨A, cz, hu, ints_grownE hI hG (fun g o s e => ⟨(ha hz g o s e).2.1, fun c => by injection c with c; have := (ha hz g o s e).1; omega⟩), hl, fun _ g o s e => ⟨(ha hz g o s e).1, Nat.lt_of_lt_of_le (ha hz g o s e).2.1 hG.size, (ha hz g o s e).2.2⟩⟩
theorem hrz_of {w : World} {base B cz : Nat} {A : Option Addr} {v : Value} {zs : List Int} (hI : jqc w A zs) (hl : zs.length ≤ cz) (ha : ∀ ad, A = some ad → B ≤ ad.block) (hB : base ≤ B) (hv : ∀ q, v.ownBlock = some q → q < B) : Hrz w base v.ownBlock (.slice A zs.length cz) zs := by
 refine ⟨A, cz, rfl, hI, hl, fun hz g o s e => ⟨Nat.le_trans hB (ha _ e), ?_, fun c => ?_⟩⟩
 ·rcases hI with h | ⟨g', o', e', hc⟩
  ·exact absurd h hz
  ·rw [e] at e'; injection e' with e'; injection e' with e1 _ _; subst e1
   exact World.block_lt_of_cell? w _ (hc 0 (List.length_pos_iff.2 hz))
 ·have := hv g c; have := ha _ e; dsimp only at this; omega
theorem OwnEz.far {w w' : World} {base b : Nat} {v : Value} {es : List Ev} {V : List Value} (h : OwnEz w base v es V) (hG : w.grownBy w' (some b)) (hb : b < base) : OwnEz w' base v es V :=
 ⟨h.len, World.ownsRow.kept h.row hG (.inr (by intro c; have := (World.ownsRow.lt h.row b c).1; omega)), fun j hj => (h.own j hj).far hG hb⟩
theorem OwnEz.lt {w : World} {base : Nat} {v : Value} {es : List Ev} {V : List Value} (h : OwnEz w base v es V) : ∀ q, v.ownBlock = some q → q < w.heap.size := fun q e => (World.ownsRow.lt h.row q e).2
theorem OwnEz.base {w : World} {a b : Nat} {v : Value} {es : List Ev} {V : List Value} (h : OwnEz w b v es V) (hab : a ≤ b) : OwnEz w a v es V := by
 refine ⟨h.len, ⟨h.row.1, ?_⟩, fun j hj => ?_⟩
 ·rcases h.row.2 with q | ⟨g, cap, cur, hv, hg, r⟩
  ·exact .inl q
  ·exact .inr ⟨g, cap, cur, hv, Nat.le_trans hab hg, r⟩
 ·obtain ⟨A, cz, hu, hI, hl, ha⟩ := h.own j hj
  exact ⟨A, cz, hu, hI, hl, fun hz g o s e => ⟨Nat.le_trans hab (ha hz g o s e).1, (ha hz g o s e).2⟩⟩
theorem OwnEz.snocG {U w2 : World} {base : Nat} {v v2 vz : Value} {es : List Ev} {V : List Value} {x : Ev} (h : OwnEz U base v es V) (hz : Hrz U base v.ownBlock vz x.dd.zs) (hr : w2.ownsRow base 37 9 v2 (es.length + 1) (rowC V es ++ evC vz x)) (hg : U.grownBy w2 v.ownBlock) (hat : v2.ownBlock = v.ownBlock ∨ v2.ownBlock = some U.heap.size) : OwnEz w2 base v2 (es ++ [x]) (V ++ [vz]) := by
 have hVe := h.len; have hgz := hg.size
 have old : ∀ u zs, Hrz U base v.ownBlock u zs → Hrz w2 base v2.ownBlock u zs := fun u zs hh => by
  obtain ⟨A, cz, hu, hI, hl, ha⟩ := hh
  by_cases hz : zs = []
  ·exact ⟨A, cz, hu, .inl hz, hl, fun c => absurd hz c⟩
  refine ⟨A, cz, hu, ints_grownE hI hg (fun g o s e => ⟨(ha hz g o s e).2.1, (ha hz g o s e).2.2⟩), hl, fun _ g o s e => ⟨(ha hz g o s e).1, Nat.lt_of_lt_of_le (ha hz g o s e).2.1 hgz, ?_⟩⟩
  rcases hat with q | q
  ·rw [q]; exact (ha hz g o s e).2.2
  ·rw [q]; intro c; injection c with c; have := (ha hz g o s e).2.1; omega
 refine ⟨by simp [h.len], by rw [rowC_snoc h.len, List.length_append]; exact hr, fun j hj => ?_⟩; rw [getD_snocE, getD_snocE, hVe]
 by_cases hl : j < es.length
 ·rw [if_pos hl, if_pos hl]
  exact old _ _ (h.own j hl)
 ·have : j = es.length := by simp at hj; omega
  rw [if_neg hl, if_neg hl, if_pos this, if_pos this]; exact old _ _ hz
theorem rowF_apartO {w w' : World} {base n b2 m s2 : Nat} {t e2 : TypeId} {v v2 : Value} {zs : List Int} {xs : List Value} (h : RowF w base t v n zs) (h2 : w.ownsRow b2 e2 s2 v2 m xs) (hne : t ≠ e2) (hG : w.grownBy w' v2.ownBlock) : RowF w' base t v n zs := by
 rcases h with h | ⟨g, cap, hv, hg, F, hn⟩
 ·exact .inl h
 ·refine .inr ⟨g, cap, hv, hg, ?_, hn⟩
  obtain ⟨cs, K, hc⟩ := F; refine ⟨cs, (hG.block g (Blk.lt K) (fun c => ?_)).trans K, hc⟩
  rcases h2.2 with ⟨e, _⟩ | ⟨g', cap', cur', e, _, hc', _⟩
  ·rw [e] at c; cases c
  ·rw [e] at c
   injection c with c; have K0 : w.heap[g]? = some (Obj.cells cs t (0, 0)) := K; have K1 : w.heap[g]? = some (Obj.cells cur' e2 (0, 0)) := c ▸ hc'; have K2 := K0.symm.trans K1; injection K2 with K2; injection K2 with _ h3; exact hne h3
theorem TwO.far {w w' : World} {base b : Nat} {p : TA} {t : Tw} (h : TwO w base p t) (hG : w.grownBy w' (some b)) (hb : b < base) : TwO w' base p t :=
 ⟨h.o1.far hG (fun q e => by injection e with e; omega), h.n1, h.o2.far hG (fun q e => by injection e with e; omega), h.n2, h.o3.far hG (fun q e => by injection e with e; omega), h.n3, h.o4.far hG (fun q e => by injection e with e; omega), h.n4⟩
theorem TwO.apartE {w w' : World} {base b2 n : Nat} {p : TA} {t : Tw} {v : Value} {xs : List Value} (h : TwO w base p t) (h2 : w.ownsRow b2 37 9 v n xs) (hG : w.grownBy w' v.ownBlock) : TwO w' base p t :=
 ⟨rowF_apartO h.o1 h2 (by decide) hG, h.n1, rowF_apartO h.o2 h2 (by decide) hG, h.n2, rowF_apartO h.o3 h2 (by decide) hG, h.n3, rowF_apartO h.o4 h2 (by decide) hG, h.n4⟩
theorem TwO.abv {w : World} {base : Nat} {p : TA} {t : Tw} (h : TwO w base p t) : (∀ ad, p.a1 = some ad → base ≤ ad.block) ∧ (∀ ad, p.a2 = some ad → base ≤ ad.block) ∧ (∀ ad, p.a3 = some ad → base ≤ ad.block) ∧ (∀ ad, p.a4 = some ad → base ≤ ad.block) := by
 have key : ∀ (a : Option Addr) (n c : Nat) (t : TypeId) (zs : List Int), RowF w base t (.slice a n c) n zs → ∀ ad, a = some ad → base ≤ ad.block := fun a n c t zs h ad e => by
  rcases h with ⟨hv, _⟩ | ⟨g, cap, hv, hg, _⟩
  ·injection hv with hv; rw [hv] at e; cases e
  ·injection hv with hv; rw [hv] at e; injection e with e; subst e; exact hg
 exact ⟨key _ _ _ _ _ h.o1, key _ _ _ _ _ h.o2, key _ _ _ _ _ h.o3, key _ _ _ _ _ h.o4⟩
theorem sold_two {L : Led} (ha : Asc L) {f t : Int} (hft : t ≠ f) (p : Rat) : setL (setL L f (jq5 L f - p)) t (jq5 (setL L f (jq5 L f - p)) t + p) = soldL L f t p := by
 unfold soldL; rw [share_set ha, if_neg hft]
structure OffW (w w' : World) (S : Nat → Prop) : Prop where
 os : w'.os = w.os
 tape : w'.tape = w.tape
 output : w'.output = w.output
 size : w.heap.size ≤ w'.heap.size
 block : ∀ i, i < w.heap.size → ¬ S i → w'.heap[i]? = w.heap[i]?
theorem OffW.of_grown {w w' : World} {row : Option Nat} {S : Nat → Prop} (h : w.grownBy w' row) (hS : ∀ q, row = some q → S q) : OffW w w' S :=
 ⟨h.os, h.tape, h.output, h.size, fun i hi hn => h.block i hi (fun e => hn (hS i e.symm))⟩
theorem OffW.of_below {w w' : World} {S : Nat → Prop} (h : Below w.heap.size w w') : OffW w w' S := ⟨h.os, h.tape, h.output, h.size, fun i hi _ => h.block i hi⟩
theorem OffW.trans {a b c : World} {S : Nat → Prop} (h : OffW a b S) (g : OffW b c S) : OffW a c S :=
 ⟨g.os.trans h.os, g.tape.trans h.tape, g.output.trans h.output, Nat.le_trans h.size g.size, fun i hi hn => (g.block i (Nat.lt_of_lt_of_le hi h.size) hn).trans (h.block i hi hn)⟩
theorem OffW.set {w W : World} {b j : Nat} {v : Value} {S : Nat → Prop} (h : OffW w W S) (hb : w.heap.size ≤ b) : OffW w (W.setCell ⟨b, j, none⟩ v) S :=
 ⟨h.os, h.tape, h.output, by rw [World.size_setCell]; exact h.size, fun i hi hn => (Below.heap_setCell W ⟨b, j, none⟩ v i (by show i ≠ b; omega)).trans (h.block i hi hn)⟩
theorem own_ge {w : World} {base n size g : Nat} {t : TypeId} {v : Value} {xs : List Value} (h : w.ownsRow base t size v n xs) (e : v.ownBlock = some g) : base ≤ g ∧ g < w.heap.size ∧ ∃ cs, w.heap[g]? = some (Obj.cells cs t (0, 0)) := by
 rcases h.2 with ⟨hv, _⟩ | ⟨q, cap, cur, hv, hg, hb, _⟩
 ·rw [hv] at e; cases e
 ·rw [hv] at e; injection e with e; subst e; exact ⟨hg, Blk.lt hb, cur, hb⟩
theorem own_other {w : World} {base n size b : Nat} {t t' : TypeId} {v : Value} {xs : List Value} {cs : Array Value} (h : w.ownsRow base t size v n xs) (K : w.heap[b]? = some (Obj.cells cs t' (0, 0))) (hne : t' ≠ t) : v.ownBlock ≠ some b := by
 intro e; obtain ⟨_, _, c, hc⟩ := own_ge h e; rw [K] at hc; injection hc with hc; injection hc with _ hc; exact hne hc
theorem own_blk {w w' : World} {base n size b : Nat} {t t' : TypeId} {v : Value} {xs : List Value} {cs : Array Value} (h : w.ownsRow base t size v n xs) (K : Blk w b t' cs) (hne : t' ≠ t) (hG : w.grownBy w' v.ownBlock) : Blk w' b t' cs :=
 K.grown hG (fun e => own_other h K hne e.symm)
theorem own_offW {w w' : World} {base n size : Nat} {t : TypeId} {v : Value} {xs : List Value} (h : w.ownsRow base t size v n xs) (hG : w.grownBy w' v.ownBlock) : OffW w w' (fun q => v.ownBlock = some q) := OffW.of_grown hG (fun _ e => e)
theorem own_row {w w' : World} {base n size base' n' size' : Nat} {t t' : TypeId} {v v' : Value} {xs xs' : List Value} (h : w.ownsRow base t size v n xs) (k : w.ownsRow base' t' size' v' n' xs') (hne : t' ≠ t) (hG : w.grownBy w' v.ownBlock) : w'.ownsRow base' t' size' v' n' xs' :=
 rowH k (fun g cs hg => hG.block g (Blk.lt hg) (fun e => own_other h hg hne e.symm))
theorem jzc {P : Program} {ops : Array Oper} {rest : List Oper} {op : Oper} {a : Act} {w : World} {Q : Exit → Act → World → Prop} (hgd : op.guard = none) (ty : TypeId) (x y : Operand) (ho : op.op = .store ty x y)
  (b : Nat) (v0 v1 v2 v3 v4 v5 v6 v7 v8 v9 : Value) (hx : a.eval x = .pointer (some ⟨b, 0, none⟩)) (hy : a.eval y = .agg #[v0, v1, v2, v3, v4, v5, v6, v7, v8, v9]) {t : TypeId} {u0 u1 u2 u3 u4 u5 u6 u7 u8 u9 : Value} (K : Blk w b t #[u0, u1, u2, u3, u4, u5, u6, u7, u8, u9])
  (hi : (P.info? ty).map (·.size) = some 10) (h1 : (v0.oneCell' && v1.oneCell' && v2.oneCell' && v3.oneCell' && v4.oneCell' && v5.oneCell' && v6.oneCell' && v7.oneCell' && v8.oneCell' && v9.oneCell') = true)
  (h : wpList P ops Q rest (a.put op.dst undef) (jq9 w b v0 v1 v2 v3 v4 v5 v6 v7 v8 v9)) : wpList P ops Q (op :: rest) a w := by
 have h2 : (#[v0, v1, v2, v3, v4, v5, v6, v7, v8, v9] : Array Value).all (·.oneCell') = true := by
  simp only [Bool.and_eq_true] at h1; obtain ⟨⟨⟨⟨⟨⟨⟨⟨⟨a0, a1⟩, a2⟩, a3⟩, a4⟩, a5⟩, a6⟩, a7⟩, a8⟩, a9⟩ := h1
  simp [a0, a1, a2, a3, a4, a5, a6, a7, a8, a9]
 refine wpList_store_mid hgd ty x y ho b 0 #[v0, v1, v2, v3, v4, v5, v6, v7, v8, v9] hx hy (fun j hj => ?_) hi h2 ?_
 ·have hj' : j < 10 := hj
  have hc : ∃ v, (#[u0, u1, u2, u3, u4, u5, u6, u7, u8, u9] : Array Value)[j]? = some v := ⟨_, Array.getElem?_eq_getElem (by simpa using hj')⟩
  rw [Nat.zero_add]; obtain ⟨q0, q1, q2, q3, q4, q5, q6, q7, q8, q9⟩ := jq0 K; refine ⟨?_, K.frozen j⟩
  have hm : j = 0 ∨ j = 1 ∨ j = 2 ∨ j = 3 ∨ j = 4 ∨ j = 5 ∨ j = 6 ∨ j = 7 ∨ j = 8 ∨ j = 9 := by omega
  rcases hm with e | e | e | e | e | e | e | e | e | e <;> subst e <;> simp [*]
 ·exact h
theorem sumT_bd2 {ts : List Tn} (hz : ∀ k, k < ts.length → 0 ≤ (ts.getD k tn0).2 ∧ (ts.getD k tn0).2 ≤ 1000000) : ∀ k, k ≤ ts.length → 0 ≤ sumT (ts.take k) ∧ sumT (ts.take k) ≤ 1000000 * (k : Int) := by
  intro k
  induction k with
  | zero => intro _; exact ⟨Int.le_refl _, by show (0 : Int) ≤ 1000000 * ((0 : Nat) : Int); omega⟩
  | succ k ih =>
    intro hk; have a := ih (by omega); have b := hz k (by omega); rw [sumT_succ (by omega)]
    omega
theorem ihours (a : Option Addr) (cap : Nat) (ts : List Tn) (w : World) (h : IsTn w a ts) (hn : ts.length ≤ 1048576) (hz : ∀ k, k < ts.length → 0 ≤ (ts.getD k tn0).2 ∧ (ts.getD k tn0).2 ≤ 1000000) :
  Calls Tryz.prog 112 #[.slice a ts.length cap] w fun e w' => e = .returned (.int .i64 (sumT ts)) ∧ Below w.heap.size w w' := by
 rcases h with rfl | ⟨g, o, rfl, hc⟩
 ·go_enter Tryz.func112, Tryz.ntmps112
  go_wp2
  go_rounds 1
  go_ret; exact ⟨rfl, by go_grown⟩
 ·have HC := Lib.hid hc
  have HZ := Lib.hid hz; have HB := Lib.hid (sumT_bd2 hz); clear hc hz; go_enter Tryz.func112, Tryz.ntmps112
  go_wp2
  go_loopw [3, 8] (fun s i wr => ∃ k : Nat, k ≤ ts.length ∧ i = .int .i64 k ∧ s = .int .i64 (sumT (ts.take k)) ∧ Below w.heap.size w wr) (fun _ i _ => ts.length - (intOf i).toNat)
  case atStart => exact ⟨0, Nat.zero_le _, rfl, rfl, by go_grown⟩
  case round =>
   obtain ⟨k, hk, rfl, rfl, hB⟩ := hrel; obtain ⟨b0, b1⟩ := HB.out k hk
   by_cases hlt : k < ts.length
   ·obtain ⟨c0, c1⟩ := tn_at HC.out hB hlt
    have ht := sumT_succ hlt; obtain ⟨z0, z1⟩ := HZ.out k hlt; generalize ts.getD k tn0 = hh at c0 c1 ht z0 z1; obtain ⟨x, y⟩ := hh; dsimp only at c0 c1 ht z0 z1; generalize sumT (ts.take k) = s at ht b0 b1; have HT := Lib.hid ht; have HBl := Lib.hid hB; clear ht hB
    go_wp2
    go_roundw
    case rel => exact ⟨k + 1, by omega, by go_num, by rw [HT.out], HBl.out.alloc HBl.out.size _⟩
    case measure => simp [intOf]; omega
   ·go_wp2
    go_ret; exact ⟨jx6 (by rw [List.take_of_length_le (by omega)]), hB⟩
theorem vt_hz {ts : List Tn} (h : ∀ j, j < ts.length → okT ts j = true) : ∀ k, k < ts.length → 0 ≤ (ts.getD k tn0).2 ∧ (ts.getD k tn0).2 ≤ 1000000 := fun k hk => by
 have := (okT_iff ts k).1 (h k hk); omega
theorem iVT (a : Option Addr) (cap : Nat) (ts : List Tn) (w : World) (h : IsTn w a ts) (hn : ts.length ≤ 1048576) :
  Calls Tryz.prog 46 #[.slice a ts.length cap] w fun e w' => e = .returned (.bool (vtB ts)) ∧ Below w.heap.size w w' := by
 by_cases h0 : ts.length < 1
 ·have e0 : decide ((ts.length : Int) < 1) = true := by simp; omega
  have HN := Lib.hid (vt_no0 h0); clear h0; go_enter Tryz.func46, Tryz.ntmps46; go_wp2_with fail; go_ret; exact ⟨jq4 HN.out.symm, by go_grown⟩
 have e0 : decide ((ts.length : Int) < 1) = false := by simp; omega
 by_cases h24 : 24 < ts.length
 ·have e1 : decide (24 < (ts.length : Int)) = true := by simp; omega
  have HN := Lib.hid (vt_no1 h24); clear h24 h0; go_enter Tryz.func46, Tryz.ntmps46; go_wp2_with fail; go_ret; exact ⟨jq4 HN.out.symm, by go_grown⟩
 have e1 : decide (24 < (ts.length : Int)) = false := by simp; omega
 have HS := Lib.hid h
 rcases h with rfl | ⟨g, o, rfl, hc⟩
 ·exact absurd (by simp) h0
 have HC := Lib.hid hc
 have l1 : 1 ≤ ts.length := by omega
 have l24 : ts.length ≤ 24 := by omega
 clear hc h0 h24; go_enter Tryz.func46, Tryz.ntmps46; go_wp2_with fail
 go_loopw [15] (fun i wr => ∃ k : Nat, k ≤ ts.length ∧ i = .int .i64 k ∧ Hid (∀ j, j < k → okT ts j = true) ∧ Below w.heap.size w wr) (fun i _ => ts.length - (intOf i).toNat)
 case atStart => exact ⟨0, Nat.zero_le _, rfl, fun j hj => by omega, by go_grown⟩
 case round =>
  obtain ⟨k, hk, rfl, HA, hB⟩ := hrel
  by_cases hlt : k < ts.length
  ·obtain ⟨c0, c1⟩ := tn_at HC.out hB hlt
   have hno : ¬ (1 ≤ (ts.getD k tn0).1 ∧ (ts.getD k tn0).1 ≤ 999 ∧ 1 ≤ (ts.getD k tn0).2 ∧ (ts.getD k tn0).2 ≤ 336) → vtB ts = false := fun e => vt_no2 hlt (okT_no e)
   have hyes : (1 ≤ (ts.getD k tn0).1 ∧ (ts.getD k tn0).1 ≤ 999 ∧ 1 ≤ (ts.getD k tn0).2 ∧ (ts.getD k tn0).2 ≤ 336) → ∀ j, j < k + 1 → okT ts j = true := fun e => jj5 HA.out ((okT_iff ts k).2 e)
   generalize ts.getD k tn0 = hh at c0 c1 hno hyes; obtain ⟨x, y⟩ := hh; dsimp only at c0 c1 hno hyes; have HN := Lib.hid hno; have HY := Lib.hid hyes; have HB := Lib.hid hB; clear hno hyes hB
   by_cases h2 : 1 ≤ x ∧ x ≤ 999
   ·by_cases h3 : y < 1
    ·have hv : Hid (vtB ts = false) := HN.out (by omega)
     have d3 : decide (y < 1) = true := decide_eq_true h3; go_wp2_with fail; refine (jjd x _ h2.1 h2.2).mono ?_; rintro e w' ⟨rfl, rfl⟩; go_wp2_with fail; go_ret; exact ⟨jq4 hv.out.symm, HB.out.alloc HB.out.size _⟩
    ·have d3 : decide (y < 1) = false := decide_eq_false h3
     by_cases h4 : 336 < y
     ·have hv : Hid (vtB ts = false) := HN.out (by omega)
      have d4 : decide (336 < y) = true := decide_eq_true h4; go_wp2_with fail; refine (jjd x _ h2.1 h2.2).mono ?_; rintro e w' ⟨rfl, rfl⟩; go_wp2_with fail; go_ret; exact ⟨jq4 hv.out.symm, HB.out.alloc HB.out.size _⟩
     ·have d4 : decide (336 < y) = false := decide_eq_false h4
      have HY2 := Lib.hid (HY.out ⟨h2.1, h2.2, by omega, by omega⟩); go_wp2_with fail; refine (jjd x _ h2.1 h2.2).mono ?_; rintro e w' ⟨rfl, rfl⟩; go_wp2_with fail
      go_roundw
      case rel => exact ⟨k + 1, by omega, by go_num, HY2.out, HB.out.alloc HB.out.size _⟩
      case measure => simp [intOf]; omega
   ·have hv : Hid (vtB ts = false) := HN.out (fun c => h2 ⟨c.1, c.2.1⟩)
    go_wp2_with fail; refine (iowner_no x _ (by omega)).mono ?_; rintro e w' ⟨rfl, rfl⟩; go_wp2_with fail; go_ret; exact ⟨jq4 hv.out.symm, HB.out.alloc HB.out.size _⟩
  ·obtain rfl : k = ts.length := by omega
   have HZ := Lib.hid (vt_hz HA.out); have HE := Lib.hid (vt_end l1 l24 HA.out); have HB := Lib.hid hB; clear HA hB; go_wp2_with fail; refine (ihours (some ⟨g, o, none⟩) cap ts _ (tn_below HS.out HB.out) hn HZ.out).mono ?_; rintro e w2 ⟨rfl, C⟩; go_wp2_with fail; go_ret; exact ⟨jq4 HE.out.symm, jq1 HB.out C⟩
theorem itime_yes (n : Int) (w : World) (h1 : 0 ≤ n) (h2 : n ≤ 5000) :
  Calls Tryz.prog 51 #[.int .i64 n] w fun e w' => e = .returned (.bool true) ∧ w = w' := by
 go_enter Tryz.func51, Tryz.ntmps51
 go_wp2
 go_ret; exact ⟨rfl, rfl⟩
theorem itime_no (n : Int) (w : World) (h : n < 0 ∨ 5000 < n) :
  Calls Tryz.prog 51 #[.int .i64 n] w fun e w' => e = .returned (.bool false) ∧ w = w' := by
 by_cases h1 : 0 ≤ n
 ·have hd : decide (n ≤ 5000) = false := by simp; omega
  clear h; go_enter Tryz.func51, Tryz.ntmps51
  go_wp2
  go_ret; exact ⟨rfl, rfl⟩
 ·have hd : decide (0 ≤ n) = false := by simpa using h1
  clear h; go_enter Tryz.func51, Tryz.ntmps51
  go_wp2
  go_ret; exact ⟨rfl, rfl⟩
theorem iturn (a : Option Addr) (n cap : Nat) (i : Int) (w : World) (hn : n ≤ 1048576) :
  Calls Tryz.prog 146 #[.slice a n cap, .int .i64 i] w fun e w' => e = .returned (.bool (decide (0 ≤ i) && decide (i < (n : Int)))) ∧ w = w' := by
 by_cases h1 : 0 ≤ i
 ·have hd : decide (0 ≤ i) = true := decide_eq_true h1
  clear h1; go_enter Tryz.func146, Tryz.ntmps146
  go_wp2
  go_ret; exact ⟨jq4 (by rw [hd]; rfl), rfl⟩
 ·have hd : decide (0 ≤ i) = false := decide_eq_false h1
  clear h1; go_enter Tryz.func146, Tryz.ntmps146
  go_wp2
  go_ret; exact ⟨jq4 (by rw [hd]; rfl), rfl⟩
theorem sumT_le {ts : List Tn} (hp : ∀ j, j < ts.length → 0 ≤ (ts.getD j tn0).2) : ∀ {k : Nat}, k < ts.length → sumT (ts.take (k + 1)) ≤ sumT ts := by
  intro k hk
  obtain ⟨m, hm⟩ : ∃ m, ts.length - (k + 1) = m := ⟨_, rfl⟩
  induction m generalizing k with
  | zero => rw [show k + 1 = ts.length from by omega, sumT_all]; exact Int.le_refl _
  | succ m ih =>
    have a := ih (k := k + 1) (by omega) (by omega); have b := hp (k + 1) (by omega); rw [sumT_succ (by omega)] at a
    omega
def upTo (ts : List Tn) (t : Int) : Nat → Value := fun j => if (j : Int) < t then .int .i64 (whoT ts (j : Int)) else .int .i64 0
theorem iowners (a : Option Addr) (cap : Nat) (ts : List Tn) (w : World) (h : IsTn w a ts) (hv : vtB ts = true) :
  Calls Tryz.prog 53 #[.slice a ts.length cap] w fun e w' => ∃ g : Nat, e = .returned (.slice (some ⟨g, 0, none⟩) (sumT ts).toNat (sumT ts).toNat) ∧ w.heap.size ≤ g ∧ Row w' g (ownT ts) ∧ Below w.heap.size w w' := by
 obtain ⟨l1, l24, ho, s1, s2⟩ := vt_is hv
 obtain ⟨N, hN⟩ : ∃ N : Nat, sumT ts = (N : Int) := ⟨_, (Int.toNat_of_nonneg (by omega)).symm⟩
 have hNt : (sumT ts).toNat = N := by omega
 have hol : (ownT ts).length = N := by rw [ownT_len, hNt]
 rw [hNt]; have HS := Lib.hid h
 rcases h with rfl | ⟨g, o, rfl, hc⟩
 ·simp at l1
 have HC := Lib.hid hc; have HO := Lib.hid ho; have HL := Lib.hid hol; have HT := Lib.hid hNt
 have HP : Hid (∀ j, j < ts.length → 0 ≤ (ts.getD j tn0).2) := fun j hj => (vt_hz ho j hj).1
 have IH := fun W hW => ihours (some ⟨g, o, none⟩) cap ts W hW (by omega) (vt_hz ho)
 rw [hN] at IH; have HN := Lib.hid hN
 have n1 : N ≤ 336 := by omega
 have n0 : 1 ≤ N := by omega
 have hmk := run_make_row' (P := Tryz.prog) 33 3 (.int .i64 0) 8 Tryz.underlying33 jj4 rfl .i64 .i64 N (by omega) (by omega); clear hc ho hol hNt hN s1 s2; go_enter Tryz.func53, Tryz.ntmps53; go_wp2_with fail; refine (IH _ HS.out).mono ?_; rintro e w1 ⟨rfl, C⟩; clear IH; have B0 := C; clear C; go_wp2_with fail; clear hmk; have hS : w.heap.size ≤ w1.heap.size := B0.size; have hrow0 : (w1.alloc (.cells (madeCells #[.int .i64 0] N) 3)).rowIs w1.heap.size 3 N (upTo ts 0) := (World.rowIs_made w1 (.int .i64 0) N _).congr (fun i hi => by unfold upTo; rw [if_neg (by omega)]); have hB0 := B0.alloc B0.size (.cells (madeCells #[.int .i64 0] N) 3); clear B0
 go_loopw [4, 13] (fun t i wr => ∃ k p : Nat, k ≤ ts.length ∧ i = .int .i64 k ∧ t = .int .i64 p ∧ Hid (sumT (ts.take k) = (p : Int)) ∧ wr.rowIs w1.heap.size 3 N (upTo ts p) ∧ Below w.heap.size w wr) (fun _ i _ => ts.length - (intOf i).toNat)
 case atStart => exact ⟨0, 0, Nat.zero_le _, rfl, rfl, rfl, hrow0, hB0⟩
 case round =>
  obtain ⟨k, p, hk, rfl, rfl, hp, hrow, hB⟩ := hrel; clear hrow0 hB0
  by_cases hlt : k < ts.length
  ·obtain ⟨c0, c1⟩ := tn_at HC.out hB hlt
   have ok := (okT_iff ts k).1 (HO.out k hlt); have hs := sumT_succ hlt
   have hidx : Hid (∀ q : Nat, p ≤ q → (q : Int) < p + (ts.getD k tn0).2 → whoT ts (q : Int) = (ts.getD k tn0).1) := fun q h1 h2 => by
    have e := idx_at k ts q hlt HP.out (by rw [hp.out]; omega) (by rw [hs, hp.out]; exact h2); unfold whoT; rw [e]
   have hle : (p : Int) + (ts.getD k tn0).2 ≤ N := by
    rw [← hp.out, ← hs, ← HN.out]; exact sumT_le HP.out hlt
   rw [hp.out] at hs; generalize ts.getD k tn0 = hh at c0 c1 hs hidx hle ok; obtain ⟨x, y⟩ := hh; dsimp only at c0 c1 hs hidx hle ok; have y0 : 1 ≤ y := ok.2.2.1; have y1 : y ≤ 336 := ok.2.2.2; have HS2 := Lib.hid hs; have HB := Lib.hid hB; have hlw := World.rowIs.lt hrow; have HR := Lib.hid hrow; clear hs hB hrow ok; go_wp2_with fail; have K0 : Blk (wr.alloc (.cells #[.int .i64 x, .int .i64 y] 137)) wr.heap.size 137 #[.int .i64 x, .int .i64 y] := Blk.new _ _ _
   have hneS : w1.heap.size ≠ wr.heap.size := by omega
   have hrow1 := World.rowIs.of_block HR.out (Below.heap_alloc wr (.cells #[.int .i64 x, .int .i64 y] 137) w1.heap.size hlw); have hB1 := HB.out.alloc HB.out.size (.cells #[.int .i64 x, .int .i64 y] 137); have hB1' : Hid (Below w.heap.size w (wr.alloc (.cells #[.int .i64 x, .int .i64 y] 137))) := hB1; clear hB1 c0 c1
   go_loopw [4, 7] (fun t l wi => ∃ q : Nat, p ≤ q ∧ (q : Int) ≤ p + y ∧ t = .int .i64 q ∧ l = .int .i64 (p + y - q) ∧ wi.rowIs w1.heap.size 3 N (upTo ts q) ∧ Blk wi wr.heap.size 137 #[.int .i64 x, .int .i64 y] ∧ Below w.heap.size w wi) (fun _ l _ => (intOf l).toNat)
   case atStart => exact ⟨p, Nat.le_refl _, by omega, rfl, by rw [show (p : Int) + y - p = y from by omega], hrow1, K0, hB1'.out⟩
   case round =>
    obtain ⟨q, hq0, hq1, rfl, rfl, hrow, hK, hB⟩ := hrel; clear hrow1 K0
    by_cases hlq : (q : Int) < p + y
    ·have hqN : q < N := by omega
     have hd : wr.cell? ⟨w1.heap.size, q, none⟩ = some (.int .i64 0) := by rw [hrow.cell hqN]; unfold upTo; rw [if_neg (by omega)]
     have hf := hrow.frozen q; have k0 := hK.cell 0
     dsimp at k0
     have hcon : (wr.setCell ⟨w1.heap.size, q, none⟩ (.int .i64 x)).rowIs w1.heap.size 3 N (upTo ts ((q + 1 : Nat) : Int)) := (hrow.set q (.int .i64 x)).congr (fun j hj => by
      show (if j = q then Value.int .i64 x else upTo ts q j) = upTo ts ((q + 1 : Nat) : Int) j
      unfold upTo
      by_cases e : j = q
      ·subst e; rw [if_pos rfl, if_pos (by omega), hidx.out j hq0 hlq]
      ·rw [if_neg e]
       by_cases e2 : (j : Int) < q
       ·rw [if_pos e2, if_pos (by omega)]
       ·rw [if_neg e2, if_neg (by omega)])
     have hK2 : Hid (Blk (wr.setCell ⟨w1.heap.size, q, none⟩ (.int .i64 x)) _ 137 #[.int .i64 x, .int .i64 y]) := hK.far (fun e => hneS e.symm) _; have HR := Lib.hid hcon; have HB2 : Hid (Below w.heap.size w (wr.setCell ⟨w1.heap.size, q, none⟩ (.int .i64 x))) := hB.setCell hS _
     have i0 : (0 : Int) ≤ (q : Int) := by omega
     have i1 : (q : Int) < (N : Int) := by omega
     have i2 : 0 < (p : Int) + y - q := by omega
     clear hcon hrow hB hK
     go_wp2
     go_roundw
     case rel => exact ⟨q + 1, by omega, by omega, by go_num, by rw [show (p : Int) + y - ((q + 1 : Nat) : Int) = p + y - q - 1 from by omega], HR.out, hK2.out, HB2.out⟩
     case measure => simp [intOf]; omega
    ·have i2 : ¬ 0 < (p : Int) + y - q := by omega
     have hqe : (q : Int) = p + y := by omega
     have HR := Lib.hid hrow; have HB := Lib.hid hB; have HQ := Lib.hid hqe; clear hrow hB hK hqe
     go_wp2
     go_roundw
     case rel => exact ⟨k + 1, q, by omega, by go_num, rfl, HS2.out.trans HQ.out.symm, HR.out, HB.out⟩
     case measure => simp [intOf]; omega
  ·obtain rfl : k = ts.length := by omega
   have hpN : p = N := by
    have := hp.out; rw [sumT_all, HN.out] at this
    omega
   have HR := Lib.hid hrow; have HB := Lib.hid hB; have HPN := Lib.hid hpN; clear hrow hB hpN
   go_wp2
   go_ret; refine ⟨w1.heap.size, rfl, hS, ?_, HB.out⟩; unfold Row; rw [HL.out]; refine HR.out.congr (fun j hj => ?_); unfold upTo; rw [if_pos (by rw [HPN.out]; omega), ownT_get _ (by rw [HT.out]; exact hj)]
theorem jzd {n l h : Int} (a : inB3 n l h = true) : l ≤ n ∧ n ≤ h := by unfold inB3 at a; simpa using a
theorem inB3_no {n l h : Int} (a : inB3 n l h = false) : n < l ∨ h < n := by
 unfold inB3 at a
 by_cases b : l ≤ n
 ·by_cases c : n ≤ h
  ·rw [decide_eq_true b, decide_eq_true c] at a; cases a
  ·exact .inr (by omega)
 ·exact .inl (by omega)
theorem srange3 (n l h : Int) (w : World) :
  Calls Tryz.prog 95 #[.int .i64 n, .int .i64 l, .int .i64 h] w fun e w' => e = .returned (.bool (inB3 n l h)) ∧ w = w' := by
 cases a : inB3 n l h with
 | true => exact jz0 n l h w (jzd a).1 (jzd a).2
 | false => exact jzf n l h w (inB3_no a)
theorem iwithin3 (n m : Int) (w : World) :
  Calls Tryz.prog 50 #[.int .i64 n, .int .i64 m] w fun e w' => e = .returned (.bool (inB3 n 0 m)) ∧ w = w' := by
 cases a : inB3 n 0 m with
 | true => exact jj6 n m w (jzd a).1 (jzd a).2
 | false => exact iwithin_no n m w (inB3_no a)
theorem itime3 (n : Int) (w : World) :
  Calls Tryz.prog 51 #[.int .i64 n] w fun e w' => e = .returned (.bool (inB3 n 0 5000)) ∧ w = w' := by
 cases a : inB3 n 0 5000 with
 | true => exact itime_yes n w (jzd a).1 (jzd a).2
 | false => exact itime_no n w (inB3_no a)
theorem iowner3 (n : Int) (w : World) :
  Calls Tryz.prog 111 #[.int .i64 n] w fun e w' => e = .returned (.bool (inB3 n 1 999)) ∧ w = w' := by
 cases a : inB3 n 1 999 with
 | true => exact jjd n w (jzd a).1 (jzd a).2
 | false => exact iowner_no n w (inB3_no a)
theorem itown_last {s hd ls cm : Int} (R : Bool) (h : R = decide (s + hd + ls = cm)) : (Ending.returned (.bool (s + hd + ls == cm))) = .returned (.bool R) := by
 rw [h]; congr 2
def addA : List (Int × Int) → Int → Int → List (Int × Int)
 | [], o, u => if u = 0 then [] else [(o, u)]
 | a :: t, o, u => if u = 0 then a :: t else if o < a.1 then (o, u) :: a :: t else if o = a.1 then (a.1, a.2 + u) :: t else a :: addA t o u
def untV : List (Int × Int) → Int → Int
 | [], _ => 0
 | a :: t, o => if a.1 = o then a.2 else untV t o
def AscA (l : List (Int × Int)) : Prop := l.Pairwise (fun a b => a.1 < b.1)
theorem add_zero (l : List (Int × Int)) (o : Int) : addA l o 0 = l := by
 cases l with
 | nil => rfl
 | cons a t => unfold addA; rw [if_pos rfl]
theorem unt_none {l : List (Int × Int)} {o : Int} (h : ∀ a ∈ l, a.1 ≠ o) : untV l o = 0 := by
  induction l with
  | nil => rfl
  | cons a t ih =>
    unfold untV; rw [if_neg (h a (by simp))]; exact ih (fun b hb => h b (by simp [hb]))
theorem unt_add {l : List (Int × Int)} (h : AscA l) (o u p : Int) : untV (addA l o u) p = untV l p + if p = o then u else 0 := by
  induction l with
  | nil =>
    unfold addA
    by_cases c : u = 0
    · rw [if_pos c, c]; split <;> simp [untV]
    · rw [if_neg c]
      by_cases d : p = o
      · subst d; simp [untV]
      · have e : ¬ o = p := fun e => d e.symm
        simp [untV, d, e]
  | cons a t ih =>
    obtain ⟨h1, h2⟩ := List.pairwise_cons.1 h; unfold addA
    by_cases c : u = 0
    · rw [if_pos c, c]; split <;> simp
    · rw [if_neg c]
      by_cases c1 : o < a.1
      · rw [if_pos c1]
        have hn : untV (a :: t) o = 0 := unt_none (fun b hb => by
          rcases List.mem_cons.1 hb with e | e
          · subst e; omega
          · have := h1 b e; omega)
        by_cases d : p = o
        · subst d
          rw [hn, if_pos rfl]
          show (if p = p then u else _) = _
          rw [if_pos rfl]; omega
        · rw [if_neg d]
          have e : ¬ o = p := fun e => d e.symm
          show (if o = p then u else untV (a :: t) p) = _
          rw [if_neg e]; omega
      · rw [if_neg c1]
        by_cases c2 : o = a.1
        · rw [if_pos c2]
          by_cases d : p = o
          · subst d
            have e : a.1 = p := c2.symm
            show (if a.1 = p then a.2 + u else _) = (if a.1 = p then a.2 else _) + _
            rw [if_pos e, if_pos e, if_pos rfl]
          · rw [if_neg d]
            have e : ¬ a.1 = p := fun e => d (by omega)
            show (if a.1 = p then a.2 + u else untV t p) = (if a.1 = p then a.2 else untV t p) + _
            rw [if_neg e, if_neg e]; omega
        · rw [if_neg c2]
          show (if a.1 = p then a.2 else untV (addA t o u) p) = (if a.1 = p then a.2 else untV t p) + _
          by_cases e : a.1 = p
          · rw [if_pos e, if_pos e, if_neg (by omega)]; omega
          · rw [if_neg e, if_neg e]; exact ih h2
theorem add_len (l : List (Int × Int)) (o u : Int) : (addA l o u).length ≤ l.length + 1 := by
  induction l with
  | nil =>
    unfold addA
    split <;> simp
  | cons a t ih =>
    unfold addA
    by_cases c : u = 0
    · rw [if_pos c]; simp
    · rw [if_neg c]
      by_cases c1 : o < a.1
      · rw [if_pos c1]; simp
      · rw [if_neg c1]
        by_cases c2 : o = a.1
        · rw [if_pos c2]; simp
        · rw [if_neg c2]; simp; omega
theorem unt_mem {l : List (Int × Int)} (h : AscA l) {a : Int × Int} (ha : a ∈ l) : untV l a.1 = a.2 := by
  induction l with
  | nil => cases ha
  | cons b t ih =>
    obtain ⟨h1, h2⟩ := List.pairwise_cons.1 h
    rcases List.mem_cons.1 ha with e | e
    · subst e; unfold untV; rw [if_pos rfl]
    · have := h1 a e
      unfold untV; rw [if_neg (by omega)]; exact ih h2 e
def atA : List (Int × Int) → Int → Nat
 | [], _ => 0
 | a :: t, o => if a.1 < o then atA t o + 1 else 0
theorem at_le (l : List (Int × Int)) (o : Int) : atA l o ≤ l.length := by
 induction l with
 | nil => exact Nat.le_refl _
 | cons a t ih => unfold atA; split <;> simp <;> omega
theorem at_lt {l : List (Int × Int)} {o : Int} : ∀ k, k < atA l o → (l.getD k (0, 0)).1 < o := by
  induction l with
  | nil => intro k h; exact absurd h (Nat.not_lt_zero _)
  | cons a t ih =>
    intro k h; unfold atA at h
    by_cases c : a.1 < o
    · rw [if_pos c] at h
      cases k with
      | zero => exact c
      | succ k => exact ih k (by omega)
    · rw [if_neg c] at h; exact absurd h (Nat.not_lt_zero _)
theorem at_ge {l : List (Int × Int)} {o : Int} (h : atA l o < l.length) : ¬ (l.getD (atA l o) (0, 0)).1 < o := by
  induction l with
  | nil => exact absurd h (Nat.not_lt_zero _)
  | cons a t ih =>
    unfold atA at h ⊢
    by_cases c : a.1 < o
    · rw [if_pos c] at h ⊢; exact ih (by simpa using h)
    · rw [if_neg c]; exact c
theorem at_is {l : List (Int × Int)} {o : Int} {k : Nat} (hk : k ≤ l.length) (h1 : ∀ j, j < k → (l.getD j (0, 0)).1 < o) (h2 : k < l.length → ¬ (l.getD k (0, 0)).1 < o) : atA l o = k := by
 have := at_le l o
 rcases Nat.lt_trichotomy (atA l o) k with c | c | c
 ·exact absurd (h1 _ c) (at_ge (by omega))
 ·exact c
 ·exact absurd (at_lt k c) (h2 (by omega))
def addM (l : List (Int × Int)) (o u : Int) : List (Int × Int) :=
 if atA l o < l.length ∧ (l.getD (atA l o) (0, 0)).1 = o then l.take (atA l o) ++ (if 0 < u + (l.getD (atA l o) (0, 0)).2 then [(o, u + (l.getD (atA l o) (0, 0)).2)] else []) ++ l.drop (atA l o + 1)
 else l.take (atA l o) ++ (if 0 < u then [(o, u)] else []) ++ l.drop (atA l o)
theorem add_mid {l : List (Int × Int)} {o u : Int} (hp : ∀ a ∈ l, 0 < a.2) (hu : 0 ≤ u) : addM l o u = addA l o u := by
  induction l with
  | nil =>
    unfold addM addA atA
    by_cases c : u = 0
    · subst c; simp
    · have : 0 < u := by omega
      simp [c, this]
  | cons a t ih =>
    have hpa := hp a (by simp); have ih' := ih (fun b hb => hp b (by simp [hb])); unfold addA
    by_cases c1 : a.1 < o
    · have e : atA (a :: t) o = atA t o + 1 := by show (if a.1 < o then _ else _) = _; rw [if_pos c1]
      have e2 : addM (a :: t) o u = a :: addM t o u := by
        unfold addM; rw [e]
        by_cases d : atA t o < t.length ∧ (t.getD (atA t o) (0, 0)).1 = o
        · rw [if_pos d, if_pos (by simpa using d)]; simp
        · rw [if_neg d, if_neg (by simpa using d)]; simp
      rw [e2, ih', if_neg (by omega : ¬ o < a.1), if_neg (by omega : ¬ o = a.1)]
      by_cases c : u = 0
      · rw [if_pos c, c, add_zero]
      · rw [if_neg c]
    · have e : atA (a :: t) o = 0 := by show (if a.1 < o then _ else _) = _; rw [if_neg c1]
      unfold addM; rw [e]
      by_cases c2 : o = a.1
      · rw [if_pos ⟨by simp, by simp [c2]⟩]
        have hpos : 0 < u + a.2 := by omega
        simp only [List.getD_cons_zero, List.take_zero, List.nil_append, List.drop_succ_cons, List.drop_zero, Nat.zero_add]; rw [if_pos hpos]
        by_cases c : u = 0
        · rw [if_pos c]; subst c c2; simp
        · rw [if_neg c, if_neg (by omega), if_pos c2, c2, Int.add_comm u a.2]; rfl
      · rw [if_neg (fun h => c2 (by simpa using h.2.symm))]
        simp only [List.take_zero, List.nil_append, List.drop_zero]
        by_cases c : u = 0
        · rw [if_pos c, if_neg (by omega)]; rfl
        · rw [if_neg c, if_pos (by omega : 0 < u), if_pos (by omega : o < a.1)]; rfl
def vwB (zs : List Int) : Bool := allB zs 1000 && decide (zs.length ≤ 12) && decide (0 < zs.sum)
theorem vw_no1 {zs : List Int} (h : allB zs 1000 = false) : vwB zs = false := by unfold vwB; rw [h]; rfl
theorem vw_no2 {zs : List Int} (h : 12 < zs.length) : vwB zs = false := by unfold vwB; rw [decide_eq_false (by omega : ¬ zs.length ≤ 12)]; simp
theorem vw_sum {zs : List Int} (h : allB zs 1000 = true) (h2 : zs.length ≤ 12) : vwB zs = decide (0 < zs.sum) := by unfold vwB; rw [h, decide_eq_true h2]; rfl
theorem all_bd {zs : List Int} {most : Int} (h : allB zs most = true) (hm : most ≤ 1000000) : ∀ z ∈ zs, -1000000 ≤ z ∧ z ≤ 1000000 := fun z hz => by
 have := (allB_iff zs most).1 h z hz; omega
theorem vw_is {ws : List Int} (h : vwB ws = true) : allB ws 1000 = true ∧ ws.length ≤ 12 ∧ 0 < ws.sum := by
 unfold vwB at h; simp only [Bool.and_eq_true, decide_eq_true_eq] at h; exact ⟨h.1.1, h.1.2, h.2⟩
theorem svw (a : Option Addr) (cap : Nat) (zs : List Int) (w : World) (h : jqc w a zs) (hn : zs.length ≤ 1048576) :
  Calls Tryz.prog 183 #[.slice a zs.length cap] w fun e w' => e = .returned (.bool (vwB zs)) ∧ w = w' := by
 have h0 := h
 rcases h with rfl | ⟨g, o, rfl, hc⟩
 ·go_enter Tryz.func183, Tryz.ntmps183
  go_wp2_with fail; refine wp_loop_rounds 1 ?_; rw [rounds_succ]; go_wp2_with fail; refine (stotal a cap [] _ h0 (by simp) (by simp)).mono ?_; rintro e w' ⟨rfl, rfl⟩; go_wp2_with fail; go_ret; exact ⟨rfl, rfl⟩
 ·have HC := Lib.hid hc
  have H0 := Lib.hid h0; clear hc h0; go_enter Tryz.func183, Tryz.ntmps183; go_wp2_with fail
  go_loop [3] (fun i => ∃ k : Nat, k ≤ zs.length ∧ i = .int .i64 k ∧ Hid (∀ j, j < k → 0 ≤ zs.getD j 0 ∧ zs.getD j 0 ≤ 1000)) (fun i => zs.length - (intOf i).toNat)
  case atStart => exact ⟨0, Nat.zero_le _, rfl, fun j hj => by omega⟩
  case round =>
   obtain ⟨k, hk, rfl, HA⟩ := hrel
   by_cases hlt : k < zs.length
   ·have hc := HC.out k hlt
    have hno := allB_no (most := 1000) hlt
    have hyes : 0 ≤ zs.getD k 0 → zs.getD k 0 ≤ 1000 → ∀ j, j < k + 1 → 0 ≤ zs.getD j 0 ∧ zs.getD j 0 ≤ 1000 := fun h0 h1 j hj => by
     by_cases hjk : j = k
     ·subst hjk; exact ⟨h0, h1⟩
     ·exact HA.out j (by omega)
    generalize zs.getD k 0 = z at hc hno hyes; have HN := Lib.hid hno; have HY := Lib.hid hyes; clear hno hyes
    by_cases zb : z < 0 ∨ 1000 < z
    ·have HNN := Lib.hid (vw_no1 (HN.out zb))
     go_wp2_with fail; refine (jzf z 0 1000 _ zb).mono ?_; rintro e w' ⟨rfl, rfl⟩; go_wp2_with fail; go_ret; exact ⟨jq4 HNN.out.symm, rfl⟩
    ·go_wp2_with fail
     refine (jz0 z 0 1000 _ (by omega) (by omega)).mono ?_; rintro e w' ⟨rfl, rfl⟩; go_wp2_with fail
     go_round
     case rel => exact ⟨k + 1, by omega, by go_num, HY.out (by omega) (by omega)⟩
     case measure => simp [intOf]; omega
   ·have hall := allB_yes (most := 1000) (fun j hj => HA.out j (by omega))
    have HL := Lib.hid hall; clear hall
    by_cases h12 : 12 < zs.length
    ·go_wp2_with fail
     go_ret; exact ⟨jq4 (vw_no2 h12).symm, rfl⟩
    ·have HS := Lib.hid (vw_sum HL.out (by omega))
     go_wp2_with fail; refine (stotal _ cap zs _ H0.out (by omega) (all_bd HL.out (by omega))).mono ?_; rintro e w' ⟨rfl, rfl⟩; go_wp2_with fail; go_ret; exact ⟨jq4 HS.out.symm, rfl⟩
theorem iVW (a : Option Addr) (cap : Nat) (zs : List Int) (w : World) (h : jqc w a zs) (hn : zs.length ≤ 1048576) :
    Calls Tryz.prog 144 #[.slice a zs.length cap] w fun e w' => e = .returned (.bool (vwB zs)) ∧ w = w' := by
  by_cases h1 : zs.length < 1
  · have hz : zs = [] := List.eq_nil_of_length_eq_zero (by omega)
    subst hz; go_enter Tryz.func144, Tryz.ntmps144; go_wp2_with fail; go_ret; exact ⟨rfl, rfl⟩
  · have h1' : ¬ (zs.length : Int) < 1 := by omega
    by_cases h2 : 12 < zs.length
    · have h2' : (12 : Int) < (zs.length : Int) := by omega
      go_enter Tryz.func144, Tryz.ntmps144; go_wp2_with fail; go_ret; exact ⟨jq4 (vw_no2 h2).symm, rfl⟩
    · have h2' : ¬ (12 : Int) < (zs.length : Int) := by omega
      cases hall : allB zs 1000 with
      | false =>
        have HN := Lib.hid (vw_no1 hall); go_enter Tryz.func144, Tryz.ntmps144; go_wp2_with fail; refine (iall a cap zs 1000 _ h hn).mono ?_; rintro e w' ⟨rfl, rfl⟩; go_wp2_with fail; go_ret; exact ⟨jq4 HN.out.symm, rfl⟩
      | true =>
        have HS := Lib.hid (vw_sum hall (by omega)); have HZ := Lib.hid (all_bd hall (by omega)); go_enter Tryz.func144, Tryz.ntmps144; go_wp2_with fail; refine (iall a cap zs 1000 _ h hn).mono ?_; rintro e w' ⟨rfl, rfl⟩; go_wp2_with fail; refine (isum a cap zs _ h hn HZ.out).mono ?_; rintro e w' ⟨rfl, rfl⟩; go_wp2_with fail; go_ret; exact ⟨jq4 HS.out.symm, rfl⟩
def csB (n : Int) (ws : List Int) : Bool := decide (0 ≤ n) && decide (n ≤ 500) && vwB ws
theorem cs_no1 {n : Int} (ws : List Int) (h : n < 0 ∨ 500 < n) : csB n ws = false := by
 unfold csB
 rcases h with h | h
 ·rw [decide_eq_false (by omega : ¬ 0 ≤ n)]; rfl
 ·rw [decide_eq_false (by omega : ¬ n ≤ 500)]; simp
theorem cs_is {n : Int} {ws : List Int} (h : 0 ≤ n ∧ n ≤ 500) : csB n ws = vwB ws := by unfold csB; rw [decide_eq_true h.1, decide_eq_true h.2]; rfl
theorem jvb {n : Int} {ws : List Int} (h : csB n ws = true) : (0 ≤ n ∧ n ≤ 500) ∧ vwB ws = true := by
 unfold csB at h; simp only [Bool.and_eq_true, decide_eq_true_eq] at h; exact h
theorem icanSplit (n : Int) (a : Option Addr) (cap : Nat) (ws : List Int) (w : World) (h : jqc w a ws) (hn : ws.length ≤ 1048576) :
  Calls Tryz.prog 177 #[.int .i64 n, .slice a ws.length cap] w fun e w' => e = .returned (.bool (csB n ws)) ∧ w = w' := by
 by_cases h1 : n < 0
 ·go_enter Tryz.func177, Tryz.ntmps177
  go_wp2_with fail; go_ret; exact ⟨jq4 (cs_no1 ws (by omega)).symm, rfl⟩
 ·by_cases h2 : 500 < n
  ·have h3 : decide (n ≤ 500) = false := by simp; omega
   go_enter Tryz.func177, Tryz.ntmps177; go_wp2_with fail; go_ret; exact ⟨jq4 (cs_no1 ws (by omega)).symm, rfl⟩
  ·have HC := Lib.hid (cs_is (n := n) (ws := ws) (by omega))
   go_enter Tryz.func177, Tryz.ntmps177; go_wp2_with fail; refine (iVW a cap ws _ h hn).mono ?_; rintro e w' ⟨rfl, rfl⟩; go_wp2_with fail; go_ret; exact ⟨jq4 HC.out.symm, rfl⟩
theorem svalidSplit (n : Int) (a : Option Addr) (cap : Nat) (ws : List Int) (w : World) (h : jqc w a ws) (hn : ws.length ≤ 1048576) :
  Calls Tryz.prog 151 #[.int .i64 n, .slice a ws.length cap] w fun e w' => e = .returned (.bool (csB n ws)) ∧ w = w' := by
 by_cases h1 : n < 0 ∨ 500 < n
 ·go_enter Tryz.func151, Tryz.ntmps151
  go_wp2_with fail; refine (jzf n 0 500 _ h1).mono ?_; rintro e w' ⟨rfl, rfl⟩; go_wp2_with fail; go_ret; exact ⟨jq4 (cs_no1 ws h1).symm, rfl⟩
 ·have HC := Lib.hid (cs_is (n := n) (ws := ws) (by omega))
  go_enter Tryz.func151, Tryz.ntmps151; go_wp2_with fail; refine (jz0 n 0 500 _ (by omega) (by omega)).mono ?_; rintro e w' ⟨rfl, rfl⟩; go_wp2_with fail; refine (svw a cap ws _ h hn).mono ?_; rintro e w' ⟨rfl, rfl⟩; go_wp2_with fail; go_ret; exact ⟨jq4 HC.out.symm, rfl⟩
def qs (n : Int) (ws : List Int) : List Int := ws.map fun z => n * z / ws.sum
theorem qs_len (n : Int) (ws : List Int) : (qs n ws).length = ws.length := by unfold qs; simp
theorem qs_get (n : Int) (ws : List Int) {k : Nat} (h : k < ws.length) : (qs n ws).getD k 0 = n * ws.getD k 0 / ws.sum := by
 unfold qs; rw [List.getD_eq_getElem?_getD, List.getD_eq_getElem?_getD, List.getElem?_map, List.getElem?_eq_getElem h]; rfl
theorem q_bd {n : Int} {ws : List Int} (h : csB n ws = true) {k : Nat} (hk : k < ws.length) : 0 ≤ ws.getD k 0 ∧ ws.getD k 0 ≤ 1000 ∧ 0 ≤ n * ws.getD k 0 ∧ n * ws.getD k 0 ≤ 500000 := by
 obtain ⟨⟨a, b⟩, c⟩ := jvb h; have e := (allB_iff ws 1000).1 (vw_is c).1 _ (jj7 hk); exact ⟨e.1, e.2, Int.mul_nonneg a e.1, Int.le_trans (Int.mul_le_mul b e.2 e.1 (by omega)) (by omega)⟩
theorem ws_bd {ws : List Int} (h : vwB ws = true) : 1 ≤ ws.sum ∧ ws.sum ≤ 12000000 := by
 obtain ⟨a, b, c⟩ := vw_is h; have := sum_bd ws (all_bd a (by omega)) ws.length (Nat.le_refl _); rw [List.take_of_length_le (Nat.le_refl _)] at this
 omega
def Quot (w : World) (n : Int) (ws : List Int) (e : Ending) (w' : World) : Prop := ∃ g : Nat, e = .returned (.slice (some ⟨g, 0, none⟩) ws.length ws.length) ∧ w.heap.size ≤ g ∧ Row w' g (qs n ws) ∧ Below w.heap.size w w'
theorem iquot (n : Int) (a : Option Addr) (cap : Nat) (ws : List Int) (w : World) (h : jqc w a ws) (hn : ws.length ≤ 1048576) (hcs : csB n ws = true) :
  Calls Tryz.prog 178 #[.int .i64 n, .slice a ws.length cap] w (Quot w n ws) := by
 obtain ⟨⟨n0, n1⟩, hv⟩ := jvb hcs; have h0 := h
 rcases h with rfl | ⟨g, o, rfl, hc⟩
 ·exact absurd (vw_is hv).2.2 (by simp)
 ·have hmk := run_make_row' (P := Tryz.prog) 33 3 (.int .i64 0) 8 Tryz.underlying33 jj4 rfl .i64 .i64 ws.length (by omega) (by omega)
  obtain ⟨s0, s1⟩ := ws_bd hv; have HZ := Lib.hid (all_bd (vw_is hv).1 (by omega)); have HC := Lib.hid hc; have HK := Lib.hid hcs; clear hc hv; go_enter Tryz.func178, Tryz.ntmps178; go_wp2_with fail; refine (icanSplit n _ cap ws _ h0 hn).mono ?_; rintro e w' ⟨rfl, rfl⟩; go_wp2_with fail; refine (isum _ cap ws _ h0 hn HZ.out).mono ?_; rintro e w' ⟨rfl, rfl⟩; go_wp2_with fail; clear hmk hcs
  go_loopw [20] (fun i wr => ∃ k : Nat, k ≤ ws.length ∧ i = .int .i64 k ∧ wr.rowIs w.heap.size 3 ws.length (fun j => if j < k then .int .i64 ((qs n ws).getD j 0) else .int .i64 0) ∧ Below w.heap.size w wr) (fun i _ => ws.length - (intOf i).toNat)
  case atStart => exact ⟨0, Nat.zero_le _, rfl, (World.rowIs_made w (.int .i64 0) ws.length _).congr (fun i hi => by simp), by go_grown⟩
  case round =>
   obtain ⟨k, hk, rfl, hrow, hB⟩ := hrel
   by_cases hlt : k < ws.length
   ·have hc0 := HC.out k hlt
    have hc := (hB.cell (p := ⟨g, o + k, none⟩) (World.block_lt_of_cell? w _ hc0)).trans hc0
    have hd : wr.cell? ⟨w.heap.size, k, none⟩ = some (.int .i64 0) := by rw [hrow.cell hlt, if_neg (Nat.lt_irrefl k)]
    have hf := hrow.frozen k
    have hcon : ∀ z : Int, (qs n ws).getD k 0 = z → (wr.setCell ⟨w.heap.size, k, none⟩ (.int .i64 z)).rowIs w.heap.size 3 ws.length (fun j => if j < k + 1 then .int .i64 ((qs n ws).getD j 0) else .int .i64 0) := fun z hz =>
     (hrow.set k (.int .i64 z)).congr (fun j hj => by
      show (if j = k then Value.int .i64 z else if j < k then .int .i64 ((qs n ws).getD j 0) else .int .i64 0) = _
      by_cases hjk : j = k
      ·subst hjk; rw [if_pos rfl, if_pos (by omega), hz]
      ·rw [if_neg hjk]
       by_cases hl : j < k
       ·rw [if_pos hl, if_pos (by omega)]
       ·rw [if_neg hl, if_neg (by omega)])
    have hcon2 := hcon _ (qs_get n ws hlt); obtain ⟨z0, z1, z2, z3⟩ := q_bd HK.out hlt; clear hcon hc0; generalize ws.getD k 0 = z at hc hcon2 z0 z1 z2 z3; have HR := Lib.hid hcon2; have HB := Lib.hid hB; clear hcon2 hrow hB
    go_wp2
    go_roundw
    case rel => exact ⟨k + 1, by omega, by go_num, HR.out, HB.out.setCell (Nat.le_refl _) _⟩
    case measure => simp [intOf]; omega
   ·have HR := Lib.hid hrow
    have HB := Lib.hid hB; clear hrow hB
    go_wp2
    go_ret; refine ⟨_, rfl, Nat.le_refl _, ?_, HB.out⟩; have e : (qs n ws).length = ws.length := qs_len n ws; unfold Row; rw [e]; exact HR.out.congr (fun i hi => by rw [if_pos (by omega)])
def QuotO (w : World) (n : Int) (ws : List Int) (e : Ending) (w' : World) : Prop := ∃ v, e = .returned v ∧ w'.ownsRow w.heap.size 3 1 v ws.length ((qs n ws).map (Value.int .i64)) ∧ Below w.heap.size w w'
theorem squotasO (n : Int) (a : Option Addr) (cap : Nat) (ws : List Int) (w : World) (h : jqc w a ws) (hn : ws.length ≤ 1048576) (hcs : csB n ws = true) :
  Calls Tryz.prog 184 #[.int .i64 n, .slice a ws.length cap] w (QuotO w n ws) := by
 obtain ⟨⟨n0, n1⟩, hv⟩ := jvb hcs; have h0 := h
 rcases h with rfl | ⟨g, o, rfl, hc⟩
 ·exact absurd (vw_is hv).2.2 (by simp)
 ·obtain ⟨s0, s1⟩ := ws_bd hv
  obtain ⟨i0, hi, hz0, hz1, hz2⟩ := info_parts jj4; have HZ := Lib.hid (all_bd (vw_is hv).1 (by omega)); have HC := Lib.hid hc; have HK := Lib.hid hcs; have H0 := Lib.hid h0; clear hc hv hcs h0; go_enter Tryz.func184, Tryz.ntmps184; go_wp2_with fail; refine (stotal _ cap ws _ (jqf H0.out (by go_grown)) hn HZ.out).mono ?_; rintro e w' ⟨rfl, rfl⟩; go_wp2_with fail
  go_loopw [5, 7] (fun v i wr => ∃ k : Nat, k ≤ ws.length ∧ i = .int .i64 k ∧ wr.ownsRow w.heap.size 3 1 v k (((qs n ws).take k).map (Value.int .i64)) ∧ Below w.heap.size w wr) (fun _ i _ => ws.length - (intOf i).toNat)
  case atStart => exact ⟨0, Nat.zero_le _, rfl, ⟨by simp, .inr ⟨w.heap.size, 0, #[], rfl, Nat.le_refl _, Go.Deep.blk_alloc_new _ _, Nat.le_refl _, by unfold maxLen; omega, rfl, rfl⟩⟩, by go_grown⟩
  case round =>
   obtain ⟨k, hk, rfl, hown, hB⟩ := hrel; have hsz := hB.size
   by_cases hlt : k < ws.length
   ·have hc0 := HC.out k hlt
    have hc := (hB.cell (p := ⟨g, o + k, none⟩) (World.block_lt_of_cell? w _ hc0)).trans hc0; obtain ⟨z0, z1, z2, z3⟩ := q_bd HK.out hlt; have ht := take_map (qs n ws) k (by rw [qs_len]; exact hlt); rw [qs_get n ws hlt] at ht; clear hc0; generalize ws.getD k 0 = z at hc z0 z1 z2 z3 ht; have HT := Lib.hid ht; clear ht
    go_wp2_with (first | (at_builtin; refine wpList_append_own _ rfl _ _ 33 rfl w.heap.size 3 i0 (.int .i64 0) 1 8 Tryz.underlying33 hi hz0 hz1 hz2 rfl (by decide) _ _ _ rfl (hown.alloc _) ⟨wr.heap.size, 0, none⟩ 1 1 [.int .i64 (n * z / ws.sum)] rfl rfl (cell_one_new _ _ _) (fun x hx => by simp at hx; subst hx; rfl) (by unfold maxLen; omega) (by omega) (by simp; omega) ?_; intro v' w3 hown' hgrow3 hnil3))
    have HR : Hid (w3.ownsRow w.heap.size 3 1 v' (k + 1) (((qs n ws).take (k + 1)).map (Value.int .i64)) ∧ Below w.heap.size w w3) := ⟨by rw [HT.out]; exact hown', (hB.alloc hsz _).grown hgrow3 (by simp; omega) (fun q hq => (hown.lt q hq).1)⟩
    clear hown hown' hgrow3 hnil3 hB
    go_roundw
    case rel => exact ⟨k + 1, by omega, by go_num, HR.out.1, HR.out.2⟩
    case measure => simp [intOf]; omega
   ·have HW := Lib.hid hown
    have HB := Lib.hid hB; clear hown hB; go_wp2_with fail; go_ret; have hl := qs_len n ws; have ho := HW.out; rw [List.take_of_length_le (by omega), show k = (qs n ws).length from by omega] at ho; rw [hl] at ho; exact ⟨_, rfl, ho, HB.out⟩
theorem getD_set (l : List Int) (b : Nat) (v : Int) (hb : b < l.length) (i : Nat) : (l.set b v).getD i 0 = if i = b then v else l.getD i 0 := by
 rw [List.getD_eq_getElem?_getD, List.getElem?_set, List.getD_eq_getElem?_getD]
 by_cases h : i = b
 ·subst h; simp [hb]
 ·rw [if_neg (fun e => h e.symm), if_neg h]
theorem sum_set (l : List Int) : ∀ (b : Nat) (v : Int), b < l.length → (l.set b v).sum = l.sum - l.getD b 0 + v := by
  induction l with
  | nil => intro b v h; simp at h
  | cons x l ih =>
    intro b v h
    cases b with
    | zero => simp; omega
    | succ b =>
      have := ih b v (by simpa using h)
      simp at this ⊢
      omega
def jz2 (R : Nat → Nat → Bool) : Nat → Nat
 | 0 => 0
 | k + 1 => if R k (jz2 R k) then k else jz2 R k
theorem pickB_succ (R : Nat → Nat → Bool) (k : Nat) : jz2 R (k + 1) = if R k (jz2 R k) then k else jz2 R k := rfl
theorem pickB_lt (R : Nat → Nat → Bool) (k : Nat) : jz2 R (k + 1) < k + 1 := by
 induction k with
 | zero => rw [pickB_succ]; split <;> simp [jz2]
 | succ k ih => rw [pickB_succ]; split <;> omega
theorem pickB_lt' {R : Nat → Nat → Bool} {k : Nat} (h : 0 < k) : jz2 R k < k := by
 obtain ⟨j, rfl⟩ : ∃ j, k = j + 1 := ⟨k - 1, by omega⟩
 exact pickB_lt R j
theorem pickB_max (R : Nat → Nat → Bool) (ge : Nat → Nat → Prop) (refl : ∀ i, ge i i) (hn : ∀ i b, R i b = false → ge b i) (ht : ∀ i b c, R i b = true → ge b c → ge i c) : ∀ k i, i < k → ge (jz2 R k) i := by
  intro k
  induction k with
  | zero => intro i h; omega
  | succ k ih =>
    intro i h; rw [pickB_succ]
    cases hR : R k (jz2 R k) with
    | true =>
      simp only [if_true]
      by_cases e : i = k
      · subst e; exact refl _
      · exact ht _ _ _ hR (ih i (by omega))
    | false =>
      simp only [Bool.false_eq_true, if_false]
      by_cases e : i = k
      · subst e; exact hn _ _ hR
      · exact ih i (by omega)
def jxi (ok : Nat → Bool) (R : Nat → Nat → Bool) : Nat → Int
 | 0 => -1
 | k + 1 => if ok k && (decide (jxi ok R k < 0) || R k (jxi ok R k).toNat) then k else jxi ok R k
theorem pickS_is (ok : Nat → Bool) (R : Nat → Nat → Bool) (n : Nat) (h1 : ∀ i b, i < n → b < n → ok i = true → ok b = false → R i b = true) (h2 : ∀ i b, i < n → b < n → ok i = false → R i b = false) :
    ∀ k, k ≤ n → (jxi ok R k = -1 ∧ jz2 R k = 0 ∧ ∀ j, j < k → ok j = false) ∨ (jxi ok R k = (jz2 R k : Nat) ∧ ok (jz2 R k) = true ∧ jz2 R k < k) := by
  intro k
  induction k with
  | zero => intro _; exact .inl ⟨rfl, rfl, fun j h => by omega⟩
  | succ k ih =>
    intro hk; rw [pickB_succ]
    show ((if ok k && (decide (jxi ok R k < 0) || R k (jxi ok R k).toNat) then (k : Int) else jxi ok R k) = -1 ∧ _ ∧ _) ∨ ((if ok k && (decide (jxi ok R k < 0) || R k (jxi ok R k).toNat) then (k : Int) else jxi ok R k) = _ ∧ _ ∧ _)
    rcases ih (by omega) with ⟨a, b, c⟩ | ⟨a, b, c⟩
    · rw [a, b]
      cases ho : ok k with
      | true =>
        right
        by_cases h0 : k = 0
        · subst h0; simp [ho]
        · rw [h1 k 0 (by omega) (by omega) ho (c 0 (by omega))]; simp [ho]
      | false =>
        left
        rw [h2 k 0 (by omega) (by omega) ho]; refine ⟨by simp, by simp, fun j hj => ?_⟩
        by_cases e : j = k
        · subst e; exact ho
        · exact c j (by omega)
    · right
      rw [a]
      have e : decide (((jz2 R k : Nat) : Int) < 0) = false := by simp
      rw [e, Int.toNat_natCast]
      cases ho : ok k with
      | true =>
        cases hR : R k (jz2 R k) with
        | true => simp [ho]
        | false => simp [b]; omega
      | false =>
        rw [h2 k _ (by omega) (by omega) ho]
        simp [b]; omega
def rsts (n : Int) (ws : List Int) : List Int := ws.map fun z => n * z % ws.sum
theorem rsts_len (n : Int) (ws : List Int) : (rsts n ws).length = ws.length := by unfold rsts; simp
theorem rsts_get (n : Int) (ws : List Int) {k : Nat} (h : k < ws.length) : (rsts n ws).getD k 0 = n * ws.getD k 0 % ws.sum := by
 unfold rsts; rw [List.getD_eq_getElem?_getD, List.getD_eq_getElem?_getD, List.getElem?_map, List.getElem?_eq_getElem h]; rfl
theorem sum_parts (n S : Int) : ∀ ws : List Int, n * ws.sum = S * (ws.map fun z => n * z / S).sum + (ws.map fun z => n * z % S).sum := by
  intro ws
  induction ws with
  | nil => simp
  | cons x l ih =>
    simp only [List.map_cons, List.sum_cons, Int.mul_add]; have := Int.mul_ediv_add_emod (n * x) S
    omega
theorem qr_sum (n : Int) (ws : List Int) : n * ws.sum = ws.sum * (qs n ws).sum + (rsts n ws).sum := sum_parts n ws.sum ws
def jzi (l : List Int) (i b : Nat) : Bool := decide (l.getD i 0 > l.getD b 0)
def stepR (s : List Int × List Int) : List Int × List Int :=
 (s.1.set (jz2 (jzi s.2) s.2.length) (s.1.getD (jz2 (jzi s.2) s.2.length) 0 + 1), s.2.set (jz2 (jzi s.2) s.2.length) (-1))
def jz6 (n : Int) (ws : List Int) : Nat → List Int × List Int
 | 0 => (qs n ws, rsts n ws)
 | j + 1 => stepR (jz6 n ws j)
theorem restTo_len (n : Int) (ws : List Int) : ∀ j, (jz6 n ws j).1.length = ws.length ∧ (jz6 n ws j).2.length = ws.length := by
 intro j
 induction j with
 | zero => exact ⟨qs_len n ws, rsts_len n ws⟩
 | succ j ih => exact ⟨by show (List.set _ _ _).length = _; simp [ih.1], by show (List.set _ _ _).length = _; simp [ih.2]⟩
theorem moreB_max (l : List Int) {i : Nat} (h : i < l.length) : l.getD i 0 ≤ l.getD (jz2 (jzi l) l.length) 0 := by
 refine pickB_max (jzi l) (fun b i => l.getD i 0 ≤ l.getD b 0) (fun i => Int.le_refl _) (fun i b h => ?_) (fun i b c h h' => ?_) l.length i h
 ·unfold jzi at h; simp only [decide_eq_false_iff_not] at h; omega
 ·unfold jzi at h; simp only [decide_eq_true_eq] at h; omega
def jv0 (n : Int) (ws : List Int) : Nat := (n - (qs n ws).sum).toNat
def sr (n : Int) (ws : List Int) : List Int := (jz6 n ws (jv0 n ws)).1
theorem sr_len (n : Int) (ws : List Int) : (sr n ws).length = ws.length := (restTo_len n ws _).1
def posS (l : List Int) : Int := (l.map fun z => if z < 0 then 0 else z).sum
theorem posS_pos {l : List Int} (h : 0 < posS l) : ∃ i, i < l.length ∧ 0 < l.getD i 0 := by
  unfold posS at h
  induction l with
  | nil => simp at h
  | cons x l ih =>
    by_cases hx : 0 < x
    · exact ⟨0, by simp, by simpa using hx⟩
    · simp only [List.map_cons, List.sum_cons] at h
      obtain ⟨i, hi, hg⟩ := ih (by split at h <;> omega); exact ⟨i + 1, by simpa using hi, by simpa using hg⟩
theorem posS_set {l : List Int} {b : Nat} (h : b < l.length) (h0 : 0 ≤ l.getD b 0) : posS (l.set b (-1)) = posS l - l.getD b 0 := by
 unfold posS; rw [List.map_set, sum_set _ _ _ (by simpa using h)]
 have e : (l.map fun z => if z < 0 then 0 else z).getD b 0 = l.getD b 0 := by
  rw [List.getD_eq_getElem?_getD, List.getElem?_map, List.getElem?_eq_getElem h]; rw [List.getD_eq_getElem?_getD, List.getElem?_eq_getElem h] at h0 ⊢
  simp at h0 ⊢; omega
 rw [e]; simp
theorem posS_all {l : List Int} (h : ∀ i, i < l.length → 0 ≤ l.getD i 0) : posS l = l.sum := by
  unfold posS
  induction l with
  | nil => rfl
  | cons x l ih =>
    have h0 := h 0 (by simp); have := ih (fun i hi => by simpa using h (i + 1) (by simpa using hi)); simp only [List.getD_cons_zero] at h0; simp only [List.map_cons, List.sum_cons, this, if_neg (by omega : ¬ x < 0)]
structure Rest (n : Int) (ws : List Int) (j : Nat) : Prop where
 each : ∀ i, i < ws.length → ((jz6 n ws j).1.getD i 0 = (qs n ws).getD i 0 ∧ (jz6 n ws j).2.getD i 0 = (rsts n ws).getD i 0) ∨ ((jz6 n ws j).1.getD i 0 = (qs n ws).getD i 0 + 1 ∧ (jz6 n ws j).2.getD i 0 = -1 ∧ 0 < (rsts n ws).getD i 0)
 order : ∀ i k, i < ws.length → k < ws.length → (jz6 n ws j).2.getD i 0 = -1 → (jz6 n ws j).2.getD k 0 ≠ -1 → (rsts n ws).getD k 0 ≤ (rsts n ws).getD i 0
 sum : (jz6 n ws j).1.sum = (qs n ws).sum + j
 pos : ws.sum * ((jv0 n ws : Int) - j) ≤ posS (jz6 n ws j).2
theorem rsts_bd {n : Int} {ws : List Int} (hcs : csB n ws = true) {i : Nat} (hi : i < ws.length) : 0 ≤ (rsts n ws).getD i 0 ∧ (rsts n ws).getD i 0 < ws.sum ∧ ws.sum ≤ 12000000 := by
 obtain ⟨s0, s1⟩ := ws_bd (jvb hcs).2; rw [rsts_get n ws hi]; exact ⟨Int.emod_nonneg _ (by omega), Int.emod_lt_of_pos _ (by omega), s1⟩
theorem list_nonneg {l : List Int} (h : ∀ i, i < l.length → 0 ≤ l.getD i 0) : 0 ≤ l.sum := by
  induction l with
  | nil => simp
  | cons x l ih =>
    have h0 := h 0 (by simp); have := ih (fun i hi => by simpa using h (i + 1) (by simpa using hi)); simp only [List.getD_cons_zero] at h0; rw [List.sum_cons]; omega
theorem q_sum {n : Int} {ws : List Int} (hcs : csB n ws = true) : 0 ≤ (qs n ws).sum ∧ (qs n ws).sum ≤ n := by
 obtain ⟨s0, s1⟩ := ws_bd (jvb hcs).2
 have hq : 0 ≤ (qs n ws).sum := list_nonneg (fun i hi => by
  rw [qs_len] at hi; rw [qs_get n ws hi]
  exact Int.ediv_nonneg (q_bd hcs hi).2.2.1 (by omega))
 have hr : 0 ≤ (rsts n ws).sum := list_nonneg (fun i hi => by rw [rsts_len] at hi; exact (rsts_bd hcs hi).1); have e := qr_sum n ws; refine ⟨hq, ?_⟩
 have : ws.sum * (qs n ws).sum ≤ ws.sum * n := by rw [Int.mul_comm ws.sum n]; omega
 exact Int.le_of_mul_le_mul_left this (by omega)
theorem left_is {n : Int} {ws : List Int} (hcs : csB n ws = true) : (jv0 n ws : Int) = n - (qs n ws).sum := by
 have := q_sum hcs; unfold jv0; omega
theorem q_le {n : Int} {ws : List Int} (hcs : csB n ws = true) {i : Nat} (hi : i < ws.length) : 0 ≤ (qs n ws).getD i 0 ∧ (qs n ws).getD i 0 ≤ 500000 := by
 obtain ⟨s0, s1⟩ := ws_bd (jvb hcs).2; obtain ⟨a, b, c, d⟩ := q_bd hcs hi; rw [qs_get n ws hi]; exact ⟨Int.ediv_nonneg c (by omega), Int.le_trans (Int.ediv_le_self _ c) d⟩
theorem ws_ne {ws : List Int} (h : vwB ws = true) : 0 < ws.length := by
 have := (ws_bd h).1
 cases ws with
 | nil => simp at this
 | cons x l => simp
theorem rest_best {n : Int} {ws : List Int} (hcs : csB n ws = true) {j : Nat} (h : Rest n ws j) (hj : j < jv0 n ws) :
  jz2 (jzi (jz6 n ws j).2) ws.length < ws.length ∧ 0 < (jz6 n ws j).2.getD (jz2 (jzi (jz6 n ws j).2) ws.length) 0 := by
 obtain ⟨s0, s1⟩ := ws_bd (jvb hcs).2; have hl := (restTo_len n ws j).2; have hp := h.pos
 have : 0 < posS (jz6 n ws j).2 := by
  have : ws.sum * 1 ≤ ws.sum * ((jv0 n ws : Int) - j) := Int.mul_le_mul_of_nonneg_left (by omega) (by omega)
  omega
 obtain ⟨i, hi, hg⟩ := posS_pos this; have hm := moreB_max _ hi; rw [hl] at hm; exact ⟨pickB_lt' (by omega), by omega⟩
theorem restTo_succ1 (n : Int) (ws : List Int) (j : Nat) : (jz6 n ws (j + 1)).1 = (jz6 n ws j).1.set (jz2 (jzi (jz6 n ws j).2) ws.length) ((jz6 n ws j).1.getD (jz2 (jzi (jz6 n ws j).2) ws.length) 0 + 1) := by
 show (stepR (jz6 n ws j)).1 = _
 unfold stepR; rw [(restTo_len n ws j).2]
theorem restTo_succ2 (n : Int) (ws : List Int) (j : Nat) : (jz6 n ws (j + 1)).2 = (jz6 n ws j).2.set (jz2 (jzi (jz6 n ws j).2) ws.length) (-1) := by
 show (stepR (jz6 n ws j)).2 = _
 unfold stepR; rw [(restTo_len n ws j).2]
theorem rest_is {n : Int} {ws : List Int} (hcs : csB n ws = true) : ∀ j, j ≤ jv0 n ws → Rest n ws j := by
  obtain ⟨s0, s1⟩ := ws_bd (jvb hcs).2; intro j
  induction j with
  | zero =>
    intro _; refine ⟨fun i hi => .inl ⟨rfl, rfl⟩, fun i k hi hk h => ?_, by simp [jz6], ?_⟩
    · have : (rsts n ws).getD i 0 = -1 := h
      have := rsts_bd hcs hi
      omega
    · show _ ≤ posS (rsts n ws)
      rw [posS_all (fun i hi => by rw [rsts_len] at hi; exact (rsts_bd hcs hi).1), left_is hcs]; have := qr_sum n ws; rw [Int.mul_comm n] at this; simp only [Int.mul_sub, Int.natCast_zero, Int.mul_zero]
      omega
  | succ j ih =>
    intro hj; have H := ih (by omega); obtain ⟨hb, hpos⟩ := rest_best hcs H (by omega); obtain ⟨l1, l2⟩ := restTo_len n ws j
    have hmax := fun i (hi : i < ws.length) => moreB_max (jz6 n ws j).2 (i := i) (by omega)
    rw [l2] at hmax; have e1 := restTo_succ1 n ws j; have e2 := restTo_succ2 n ws j; generalize jz2 (jzi (jz6 n ws j).2) ws.length = b at hb hpos hmax e1 e2
    have g1 := fun i => getD_set (jz6 n ws j).1 b ((jz6 n ws j).1.getD b 0 + 1) (by omega) i
    have g2 := fun i => getD_set (jz6 n ws j).2 b (-1) (by omega) i
    rw [← e1] at g1; rw [← e2] at g2
    have hbe : (jz6 n ws j).1.getD b 0 = (qs n ws).getD b 0 ∧ (jz6 n ws j).2.getD b 0 = (rsts n ws).getD b 0 := by
      rcases H.each b hb with h | h
      · exact h
      · omega
    refine ⟨fun i hi => ?_, fun i k hi hk h1 h2 => ?_, ?_, ?_⟩
    · rw [g1 i, g2 i]
      by_cases e : i = b
      · subst e; rw [if_pos rfl, if_pos rfl]; right; refine ⟨by omega, rfl, by omega⟩
      · rw [if_neg e, if_neg e]; exact H.each i hi
    · rw [g2 i] at h1
      rw [g2 k] at h2
      have ek : k ≠ b := fun e => h2 (by rw [if_pos e])
      rw [if_neg ek] at h2
      have hk' : (jz6 n ws j).2.getD k 0 = (rsts n ws).getD k 0 := by
        rcases H.each k hk with h | h
        · exact h.2
        · exact absurd h.2.1 h2
      by_cases e : i = b
      · subst e; have := hmax k hk; omega
      · rw [if_neg e] at h1; exact H.order i k hi hk h1 h2
    · rw [e1, sum_set _ _ _ (by omega), H.sum]; simp; omega
    · rw [e2, posS_set (by omega) (by omega)]
      have hp := H.pos; have hr := (rsts_bd hcs hb).2.1
      have e : ws.sum * ((jv0 n ws : Int) - (j + 1 : Nat)) = ws.sum * ((jv0 n ws : Int) - j) - ws.sum := by
        rw [show ((jv0 n ws : Int) - (j + 1 : Nat)) = ((jv0 n ws : Int) - j) - 1 by omega, Int.mul_sub]; omega
      rw [e]; omega
def avgB (step : Int) (ws gs : List Int) (i b : Nat) : Bool := decide (ws.getD i 0 * (step * gs.getD b 0 + 1) > ws.getD b 0 * (step * gs.getD i 0 + 1))
theorem avgB_true {step : Int} {ws gs : List Int} {i b : Nat} (h : avgB step ws gs i b = true) : ws.getD b 0 * (step * gs.getD i 0 + 1) < ws.getD i 0 * (step * gs.getD b 0 + 1) := by
 unfold avgB at h; simpa using h
theorem avgB_false {step : Int} {ws gs : List Int} {i b : Nat} (h : avgB step ws gs i b = false) : ws.getD i 0 * (step * gs.getD b 0 + 1) ≤ ws.getD b 0 * (step * gs.getD i 0 + 1) := by
 unfold avgB at h; simpa using h
def jx4 (step : Int) (ws : List Int) : Nat → List Int
 | 0 => List.replicate ws.length 0
 | j + 1 => (jx4 step ws j).set (jz2 (avgB step ws (jx4 step ws j)) ws.length) ((jx4 step ws j).getD (jz2 (avgB step ws (jx4 step ws j)) ws.length) 0 + 1)
theorem avgTo_succ (step : Int) (ws : List Int) (j : Nat) : jx4 step ws (j + 1) = (jx4 step ws j).set (jz2 (avgB step ws (jx4 step ws j)) ws.length) ((jx4 step ws j).getD (jz2 (avgB step ws (jx4 step ws j)) ws.length) 0 + 1) := rfl
theorem avgTo_len (step : Int) (ws : List Int) : ∀ j, (jx4 step ws j).length = ws.length := by
 intro j
 induction j with
 | zero => simp [jx4]
 | succ j ih => rw [avgTo_succ]; simp [ih]
def sa (step n : Int) (ws : List Int) : List Int := jx4 step ws n.toNat
theorem sa_len (step n : Int) (ws : List Int) : (sa step n ws).length = ws.length := avgTo_len step ws _
structure Avg (step : Int) (ws : List Int) (j : Nat) : Prop where
 bd : ∀ i, i < ws.length → 0 ≤ (jx4 step ws j).getD i 0 ∧ (jx4 step ws j).getD i 0 ≤ j
 zero : ∀ i, i < ws.length → ws.getD i 0 = 0 → (jx4 step ws j).getD i 0 = 0
 sum : (jx4 step ws j).sum = j
theorem all_get {ws : List Int} (h : vwB ws = true) {i : Nat} (hi : i < ws.length) : 0 ≤ ws.getD i 0 ∧ ws.getD i 0 ≤ 1000 := (allB_iff ws 1000).1 (vw_is h).1 _ (jj7 hi)
theorem pos_some {ws : List Int} (h : vwB ws = true) : ∃ i, i < ws.length ∧ 0 < ws.getD i 0 := by
 have e := posS_all (fun i hi => (all_get h (i := i) hi).1); exact posS_pos (by rw [e]; exact (ws_bd h).1)
theorem fac_bd {step g j : Int} (h : 1 ≤ step ∧ step ≤ 2) (hg : 0 ≤ g ∧ g ≤ j) (hj : j ≤ 1000) : 0 < step * g + 1 ∧ step * g + 1 ≤ 2001 := by
 have a := Int.mul_nonneg (a := step) (by omega) hg.1; have b : step * g ≤ 2 * 1000 := Int.mul_le_mul h.2 (by omega) hg.1 (by omega)
 omega
theorem avg_trans {x y z a b c : Int} (hy : 0 < b) (ha : 0 < a) (hc : 0 < c)(h1 : x * b ≥ y * a) (h2 : y * c ≥ z * b) : x * c ≥ z * a := by
 have k1 : y * a * c ≤ x * b * c := Int.mul_le_mul_of_nonneg_right h1 (by omega); have k2 : z * b * a ≤ y * c * a := Int.mul_le_mul_of_nonneg_right h2 (by omega)
 have k3 : z * a * b ≤ x * c * b := by
  rw [Int.mul_right_comm z a b, Int.mul_right_comm x c b]; rw [Int.mul_right_comm y c a] at k2
  omega
 exact Int.le_of_mul_le_mul_right k3 hy
theorem avg_max {step : Int} {ws : List Int} {j : Nat} (hv : vwB ws = true) (hs : 1 ≤ step ∧ step ≤ 2) (hj : j ≤ 1000) (H : Avg step ws j) {i : Nat} (hi : i < ws.length) :
    ws.getD i 0 * (step * (jx4 step ws j).getD (jz2 (avgB step ws (jx4 step ws j)) ws.length) 0 + 1) ≤ ws.getD (jz2 (avgB step ws (jx4 step ws j)) ws.length) 0 * (step * (jx4 step ws j).getD i 0 + 1) := by
  have hb := fun i (hi : i < ws.length) => fac_bd hs (H.bd i hi) (by omega)
  have hall := fun i (hi : i < ws.length) => all_get hv hi
  have key : ∀ k, k ≤ ws.length → ∀ i, i < k → ws.getD i 0 * (step * (jx4 step ws j).getD (jz2 (avgB step ws (jx4 step ws j)) k) 0 + 1) ≤ ws.getD (jz2 (avgB step ws (jx4 step ws j)) k) 0 * (step * (jx4 step ws j).getD i 0 + 1) := by
    intro k
    induction k with
    | zero => intro _ i h; omega
    | succ k ih =>
      intro hk i hik; rw [pickB_succ]
      cases hR : avgB step ws (jx4 step ws j) k (jz2 (avgB step ws (jx4 step ws j)) k) with
      | true =>
        simp only [if_true]; have hR := avgB_true hR
        by_cases e : i = k
        · subst e; exact Int.le_refl _
        · have hp : jz2 (avgB step ws (jx4 step ws j)) k < k := pickB_lt' (by omega)
          have := ih (by omega) i (by omega); exact avg_trans (hb _ (by omega)).1 (hb _ (by omega)).1 (hb _ (by omega)).1 (Int.le_of_lt hR) this
      | false =>
        simp only [Bool.false_eq_true, if_false]; have hR := avgB_false hR
        by_cases e : i = k
        · subst e; exact hR
        · exact ih (by omega) i (by omega)
  exact key ws.length (Nat.le_refl _) i hi
theorem avg_pos {step : Int} {ws : List Int} {j : Nat} (hv : vwB ws = true) (hs : 1 ≤ step ∧ step ≤ 2) (hj : j ≤ 1000) (H : Avg step ws j) :
  jz2 (avgB step ws (jx4 step ws j)) ws.length < ws.length ∧ 0 < ws.getD (jz2 (avgB step ws (jx4 step ws j)) ws.length) 0 := by
 have hp : jz2 (avgB step ws (jx4 step ws j)) ws.length < ws.length := pickB_lt' (ws_ne hv); refine ⟨hp, ?_⟩; obtain ⟨i, hi, hw⟩ := pos_some hv; have hm := avg_max hv hs hj H hi; have h1 := (fac_bd hs (H.bd _ hp) (by omega)).1; have h2 := (fac_bd hs (H.bd _ hi) (by omega)).1; have h3 := Int.mul_pos hw h1
 by_cases h : 0 < ws.getD (jz2 (avgB step ws (jx4 step ws j)) ws.length) 0
 ·exact h
 ·have : ws.getD (jz2 (avgB step ws (jx4 step ws j)) ws.length) 0 = 0 := by have := (all_get hv hp).1; omega
  rw [this, Int.zero_mul] at hm; omega
theorem avg_is {step : Int} {ws : List Int} (hv : vwB ws = true) (hs : 1 ≤ step ∧ step ≤ 2) : ∀ j, j ≤ 1000 → Avg step ws j := by
  intro j
  induction j with
  | zero =>
    intro _
    have hz : ∀ i, (jx4 step ws 0).getD i 0 = 0 := fun i => by
      show (List.replicate ws.length (0 : Int)).getD i 0 = 0
      rw [List.getD_eq_getElem?_getD, List.getElem?_replicate]; split <;> rfl
    refine ⟨fun i hi => ?_, fun i hi _ => hz i, ?_⟩
    · rw [hz i]; omega
    · show (List.replicate ws.length (0 : Int)).sum = _
      simp
  | succ j ih =>
    intro hj; have H := ih (by omega); obtain ⟨hp, hw⟩ := avg_pos hv hs (by omega) H; have hl := avgTo_len step ws j; have e := avgTo_succ step ws j; generalize jz2 (avgB step ws (jx4 step ws j)) ws.length = b at hp hw e
    have g1 := fun i => getD_set (jx4 step ws j) b ((jx4 step ws j).getD b 0 + 1) (by omega) i
    rw [← e] at g1; refine ⟨fun i hi => ?_, fun i hi h0 => ?_, ?_⟩
    · rw [g1 i]
      have hb := H.bd b hp; have hi' := H.bd i hi
      split <;> omega
    · rw [g1 i]
      by_cases eb : i = b
      · subst eb; omega
      · rw [if_neg eb]; exact H.zero i hi h0
    · rw [e, sum_set _ _ _ (by omega), H.sum]; simp; omega

theorem sr_each {n : Int} {ws : List Int} (hcs : csB n ws = true) {i : Nat} (hi : i < ws.length) :
  (qs n ws).getD i 0 ≤ (sr n ws).getD i 0 ∧ (sr n ws).getD i 0 ≤ (qs n ws).getD i 0 + 1 ∧ (ws.getD i 0 = 0 → (sr n ws).getD i 0 = 0) := by
 have H := rest_is hcs (jv0 n ws) (Nat.le_refl _); have he := H.each i hi
 have hz : ws.getD i 0 = 0 → (qs n ws).getD i 0 = 0 ∧ (rsts n ws).getD i 0 = 0 := fun e => by
  rw [qs_get n ws hi, rsts_get n ws hi, e]; simp
 unfold sr
 rcases he with ⟨a, b⟩ | ⟨a, b, c⟩
 ·exact ⟨by omega, by omega, fun e => by have := hz e; omega⟩
 ·exact ⟨by omega, by omega, fun e => by have := hz e; omega⟩
theorem sr_sum {n : Int} {ws : List Int} (hcs : csB n ws = true) : (sr n ws).sum = n := by
 have H := (rest_is hcs (jv0 n ws) (Nat.le_refl _)).sum; have := left_is hcs; unfold sr; omega
theorem q_le_n {n : Int} {ws : List Int} (hcs : csB n ws = true) {i : Nat} (hi : i < ws.length) : 0 ≤ (qs n ws).getD i 0 ∧ (qs n ws).getD i 0 ≤ n := by
 obtain ⟨s0, s1⟩ := ws_bd (jvb hcs).2; have hq := q_le hcs hi; have hw := all_get (jvb hcs).2 hi
 have hle : ws.getD i 0 ≤ ws.sum := by
  have := posS_all (l := ws) (fun i hi => (all_get (jvb hcs).2 hi).1); have h2 := posS_set (l := ws) hi hw.1
  have h3 : 0 ≤ posS (ws.set i (-1)) := by
   unfold posS; refine list_nonneg (fun j hj => ?_)
   have : ∀ l : List Int, ∀ j, 0 ≤ (l.map fun z => if z < 0 then 0 else z).getD j 0 := fun l j => by
    rw [List.getD_eq_getElem?_getD, List.getElem?_map]
    cases l[j]? with
    | none => simp
    | some z => simp; split <;> omega
   exact this _ j
  omega
 rw [qs_get n ws hi] at hq ⊢; refine ⟨hq.1, ?_⟩; have h1 : n * ws.getD i 0 ≤ n * ws.sum := Int.mul_le_mul_of_nonneg_left hle (jvb hcs).1.1; have h2 := Int.ediv_le_ediv (c := ws.sum) (by omega) h1
 rwa [Int.mul_ediv_cancel _ (by omega)] at h2
theorem sr_bd {n : Int} {ws : List Int} (hcs : csB n ws = true) {i : Nat} (hi : i < ws.length) : 0 ≤ (sr n ws).getD i 0 ∧ (sr n ws).getD i 0 ≤ 501 := by
 have a := sr_each hcs hi; have b := q_le_n hcs hi; have c := (jvb hcs).1
 omega
def Env (step : Int) (ws gs : List Int) : Prop := ∀ i k, i < ws.length → k < ws.length → 0 < gs.getD k 0 → ws.getD i 0 * (step * (gs.getD k 0 - 1) + 1) ≤ ws.getD k 0 * (step * gs.getD i 0 + 1)
theorem env_is {step : Int} {ws : List Int} (hv : vwB ws = true) (hs : 1 ≤ step ∧ step ≤ 2) : ∀ j, j ≤ 1000 → Env step ws (jx4 step ws j) := by
  intro j
  induction j with
  | zero =>
    intro _ i k hi hk h; have := (avg_is hv hs 0 (by omega)).bd k hk
    omega
  | succ j ih =>
    intro hj i k hi hk; have E := ih (by omega); have A := avg_is hv hs j (by omega); have hb := (avg_pos hv hs (by omega) A).1
    have hmax := fun i (hi : i < ws.length) => avg_max hv hs (by omega) A hi
    have e := avgTo_succ step ws j; have hl := avgTo_len step ws j; generalize jz2 (avgB step ws (jx4 step ws j)) ws.length = b at *
    have g1 := fun i => getD_set (jx4 step ws j) b ((jx4 step ws j).getD b 0 + 1) (by omega) i
    rw [← e] at g1; have hw := (all_get hv hk).1
    have mono : ws.getD k 0 * (step * (jx4 step ws j).getD i 0 + 1) ≤ ws.getD k 0 * (step * (jx4 step ws (j + 1)).getD i 0 + 1) := by
      refine Int.mul_le_mul_of_nonneg_left ?_ hw
      have : step * (jx4 step ws j).getD i 0 ≤ step * (jx4 step ws (j + 1)).getD i 0 := by
        refine Int.mul_le_mul_of_nonneg_left ?_ (by omega); rw [g1 i]; split
        · next h => subst h; omega
        · omega
      omega
    intro h; refine Int.le_trans ?_ mono; rw [g1 k] at h ⊢
    by_cases ek : k = b
    · subst ek
      rw [if_pos rfl]; have := hmax i hi; rw [show (jx4 step ws j).getD k 0 + 1 - 1 = (jx4 step ws j).getD k 0 by omega]; exact this
    · rw [if_neg ek] at h ⊢
      exact E i k hi hk h
theorem sa_facts {step n : Int} {ws : List Int} (hcs : csB n ws = true) (hs : 1 ≤ step ∧ step ≤ 2) :
  (sa step n ws).sum = n ∧ Env step ws (sa step n ws) ∧ ∀ i, i < ws.length → 0 ≤ (sa step n ws).getD i 0 ∧ (sa step n ws).getD i 0 ≤ n := by
 obtain ⟨⟨a, b⟩, hv⟩ := jvb hcs
 have A := avg_is hv hs n.toNat (by omega)
 unfold sa; refine ⟨by rw [A.sum]; omega, env_is hv hs _ (by omega), fun i hi => by have := A.bd i hi; omega⟩
theorem iownersN (a : Option Addr) (cap : Nat) (ts : List Tn) (w : World) (h : IsTn w a ts) (hv : vtB ts = true) (N : Nat) (hN : (sumT ts).toNat = N) :
  Calls Tryz.prog 53 #[.slice a ts.length cap] w fun e w' => ∃ g : Nat, e = .returned (.slice (some ⟨g, 0, none⟩) N N) ∧ Row w' g (ownT ts) ∧ Below w.heap.size w w' := by
 refine (iowners a cap ts w h hv).mono ?_; rintro e w1 ⟨g, rfl, _, R, C⟩; rw [hN]; exact ⟨g, rfl, R, C⟩
theorem who_cell {w : World} {g N : Nat} {ts : List Tn} (R : Row w g (ownT ts)) (hN : (sumT ts).toNat = N) (h1 : 1 ≤ sumT ts) {a : Int} (ha : 0 ≤ a) : ∃ q : Nat, a % (N : Int) = (q : Int) ∧ q < N ∧ w.cell? ⟨g, q, none⟩ = some (.int .i64 (whoM ts a)) := by
 have e : (N : Int) = sumT ts := by omega
 have r0 := Int.emod_nonneg a (show (N : Int) ≠ 0 by omega); have r1 := Int.emod_lt_of_pos a (show 0 < (N : Int) by omega)
 obtain ⟨q, hq⟩ : ∃ q : Nat, a % (N : Int) = (q : Int) := ⟨_, (Int.toNat_of_nonneg r0).symm⟩
 have hqN : q < N := by omega
 refine ⟨q, hq, hqN, ?_⟩; have := World.rowIs.cell R (i := q) (by rw [ownT_len, hN]; exact hqN); rw [ownT_get ts (by rw [hN]; exact hqN)] at this; rw [this]; unfold whoM; rw [← e, hq]
theorem speriod (a : Option Addr) (cap : Nat) (ts : List Tn) (w : World) (h : IsTn w a ts) (hn : ts.length ≤ 1048576) (hz : ∀ k, k < ts.length → 0 ≤ (ts.getD k tn0).2 ∧ (ts.getD k tn0).2 ≤ 1000000) :
  Calls Tryz.prog 189 #[.slice a ts.length cap] w fun e w' => e = .returned (.int .i64 (sumT ts)) ∧ w = w' := by
 rcases h with rfl | ⟨g, o, rfl, hc⟩
 ·go_enter Tryz.func189, Tryz.ntmps189
  go_wp2
  go_rounds 1
  go_ret; exact ⟨rfl, rfl⟩
 ·have HC := Lib.hid hc
  have HZ := Lib.hid hz; have HB := Lib.hid (sumT_bd2 hz); clear hc hz; go_enter Tryz.func189, Tryz.ntmps189
  go_wp2
  go_loop [3, 4] (fun s i => ∃ k : Nat, k ≤ ts.length ∧ i = .int .i64 k ∧ s = .int .i64 (sumT (ts.take k))) (fun _ i => ts.length - (intOf i).toNat)
  case atStart => exact ⟨0, Nat.zero_le _, rfl, rfl⟩
  case round =>
   obtain ⟨k, hk, rfl, rfl⟩ := hrel; obtain ⟨b0, b1⟩ := HB.out k hk
   by_cases hlt : k < ts.length
   ·obtain ⟨c0, c1⟩ := HC.out k hlt
    have ht := sumT_succ hlt; obtain ⟨z0, z1⟩ := HZ.out k hlt; generalize ts.getD k tn0 = hh at c0 c1 ht z0 z1; obtain ⟨x, y⟩ := hh; dsimp only at c0 c1 ht z0 z1; generalize sumT (ts.take k) = s at ht b0 b1; have HT := Lib.hid ht; clear ht
    go_wp2
    go_round
    case rel => exact ⟨k + 1, by omega, by go_num, by rw [HT.out]⟩
    case measure => simp [intOf]; omega
   ·go_wp2
    go_ret; exact ⟨jx6 (by rw [List.take_of_length_le (by omega)]), rfl⟩
theorem okT_bd {ts : List Tn} {k : Nat} (hk : k ≤ ts.length) (hn : ts.length ≤ 1048576) (h : ∀ j, j < k → okT ts j = true) : 0 ≤ sumT (ts.take k) ∧ sumT (ts.take k) ≤ 352321536 := by
 have := sumT_bd k hk h; omega
theorem svt (a : Option Addr) (cap : Nat) (ts : List Tn) (w : World) (h : IsTn w a ts) (hn : ts.length ≤ 1048576) :
  Calls Tryz.prog 91 #[.slice a ts.length cap] w fun e w' => e = .returned (.bool (vtB ts)) ∧ w = w' := by
 rcases h with rfl | ⟨g, o, rfl, hc⟩
 ·go_enter Tryz.func91, Tryz.ntmps91
  go_wp2_with fail; refine wp_loop_rounds 1 ?_; rw [rounds_succ]; go_wp2_with fail; refine (jzf 0 1 24 _ (by omega)).mono ?_; rintro e w' ⟨rfl, rfl⟩; go_wp2_with fail; go_ret; exact ⟨rfl, rfl⟩
 ·have HC := Lib.hid hc
  clear hc; go_enter Tryz.func91, Tryz.ntmps91; go_wp2_with fail
  go_loop [3, 4] (fun s i => ∃ k : Nat, k ≤ ts.length ∧ i = .int .i64 k ∧ s = .int .i64 (sumT (ts.take k)) ∧ Hid (∀ j, j < k → okT ts j = true)) (fun _ i => ts.length - (intOf i).toNat)
  case atStart => exact ⟨0, Nat.zero_le _, rfl, rfl, fun j hj => by omega⟩
  case round =>
   obtain ⟨k, hk, rfl, rfl, HA⟩ := hrel
   by_cases hlt : k < ts.length
   ·obtain ⟨c0, c1⟩ := HC.out k hlt
    obtain ⟨b0, b1⟩ := okT_bd hk hn HA.out; have ht := sumT_succ hlt
    have hno : ¬ (1 ≤ (ts.getD k tn0).1 ∧ (ts.getD k tn0).1 ≤ 999 ∧ 1 ≤ (ts.getD k tn0).2 ∧ (ts.getD k tn0).2 ≤ 336) → vtB ts = false := fun e => vt_no2 hlt (okT_no e)
    have hyes : (1 ≤ (ts.getD k tn0).1 ∧ (ts.getD k tn0).1 ≤ 999 ∧ 1 ≤ (ts.getD k tn0).2 ∧ (ts.getD k tn0).2 ≤ 336) → ∀ j, j < k + 1 → okT ts j = true := fun e => jj5 HA.out ((okT_iff ts k).2 e)
    generalize ts.getD k tn0 = hh at c0 c1 hno hyes ht; obtain ⟨x, y⟩ := hh; dsimp only at c0 c1 hno hyes ht; generalize sumT (ts.take k) = s at ht b0 b1; have HT := Lib.hid ht; have HN := Lib.hid hno; have HY := Lib.hid hyes; clear hno hyes ht HA
    by_cases h2 : 1 ≤ x ∧ x ≤ 999
    ·by_cases h3 : 1 ≤ y ∧ y ≤ 336
     ·have HY2 := Lib.hid (HY.out ⟨h2.1, h2.2, h3.1, h3.2⟩)
      have y0 := h3.1; have y1 := h3.2; go_wp2_with fail; refine (jz0 x 1 999 _ h2.1 h2.2).mono ?_; rintro e w' ⟨rfl, rfl⟩; go_wp2_with fail; refine (jz0 y 1 336 _ h3.1 h3.2).mono ?_; rintro e w' ⟨rfl, rfl⟩; go_wp2_with fail
      go_round
      case rel => exact ⟨k + 1, by omega, by go_num, by rw [HT.out], HY2.out⟩
      case measure => simp [intOf]; omega
     ·have hv : Hid (vtB ts = false) := HN.out (fun c => h3 ⟨c.2.2.1, c.2.2.2⟩)
      go_wp2_with fail; refine (jz0 x 1 999 _ h2.1 h2.2).mono ?_; rintro e w' ⟨rfl, rfl⟩; go_wp2_with fail; refine (jzf y 1 336 _ (by omega)).mono ?_; rintro e w' ⟨rfl, rfl⟩; go_wp2_with fail; go_ret; exact ⟨jq4 hv.out.symm, rfl⟩
    ·have hv : Hid (vtB ts = false) := HN.out (fun c => h2 ⟨c.1, c.2.1⟩)
     go_wp2_with fail; refine (jzf x 1 999 _ (by omega)).mono ?_; rintro e w' ⟨rfl, rfl⟩; go_wp2_with fail; go_ret; exact ⟨jq4 hv.out.symm, rfl⟩
   ·obtain rfl : k = ts.length := by omega
    rw [sumT_all]; have HA2 := HA; clear HA
    by_cases h24 : 1 ≤ ts.length ∧ ts.length ≤ 24
    ·have HE := Lib.hid (vt_end h24.1 h24.2 HA2.out)
     go_wp2_with fail; refine (jz0 (ts.length : Int) 1 24 _ (by omega) (by omega)).mono ?_; rintro e w' ⟨rfl, rfl⟩; go_wp2_with fail; go_ret; exact ⟨jq4 HE.out.symm, rfl⟩
    ·have hv : Hid (vtB ts = false) := by
      by_cases c : 1 ≤ ts.length
      ·exact vt_no1 (by omega)
      ·exact vt_no0 (by omega)
     go_wp2_with fail; refine (jzf (ts.length : Int) 1 24 _ (by omega)).mono ?_; rintro e w' ⟨rfl, rfl⟩; go_wp2_with fail; go_ret; exact ⟨jq4 hv.out.symm, rfl⟩
theorem flatTn_set : ∀ (ts : List Tn) (k : Nat) (x : Tn), k < ts.length → ((jzj ts).set (k * 2) x.1).set (k * 2 + 1) x.2 = jzj (ts.set k x) := by
  intro ts
  induction ts with
  | nil => intro k x h; simp at h
  | cons h t ih =>
    intro k x hk
    cases k with
    | zero => rfl
    | succ k =>
      have := ih k x (by simpa using hk); rw [show (k + 1) * 2 = k * 2 + 1 + 1 from by omega]
      show h.1 :: h.2 :: ((jzj t).set (k * 2) x.1).set (k * 2 + 1) x.2 = _
      rw [this]; rfl
def OutTn (w : World) (b : Bool) (L : List Tn) (e : Ending) (w' : World) : Prop := (b = false → e = .returned (.slice none 0 0)) ∧ (b = true → ∃ g cap, e = .returned (.slice (some ⟨g, 0, none⟩) L.length cap) ∧ w.heap.size ≤ g ∧ Flat w' g 137 (jzj L) ∧ L.length ≤ cap) ∧ Below w.heap.size w w'
theorem out_no {w w' : World} {L : List Tn} {e : Ending} (he : e = .returned (.slice none 0 0)) (h : Below w.heap.size w w') : OutTn w false L e w' := ⟨fun _ => he, (fun c => by cases c), h⟩
theorem out_yes {w w' : World} {L : List Tn} {g cap n : Nat} {e : Ending} (he : e = .returned (.slice (some ⟨g, 0, none⟩) n cap)) (hn : n = L.length) (hg : w.heap.size ≤ g) (hF : Flat w' g 137 (jzj L)) (hc : L.length ≤ cap) (h : Below w.heap.size w w') : OutTn w true L e w' := ⟨(fun c => by cases c), fun _ => ⟨g, cap, by rw [he, hn], hg, hF, hc⟩, h⟩
def inB (ts : List Tn) (i : Int) : Bool := decide (0 ≤ i) && decide (i < (ts.length : Int))
def swB (ts : List Tn) (i k : Int) : Bool := vtB ts && inB ts i && inB ts k
def swL (ts : List Tn) (i k : Int) : List Tn := (ts.set i.toNat (ts.getD k.toNat tn0)).set k.toNat (ts.getD i.toNat tn0)
theorem in_no {ts : List Tn} {i : Int} (h : inB ts i = false) : i < 0 ∨ (ts.length : Int) - 1 < i := by
 have : ¬ (0 ≤ i ∧ i < (ts.length : Int)) := fun c => by unfold inB at h; rw [decide_eq_true c.1, decide_eq_true c.2] at h; cases h
 omega
theorem in_yes {ts : List Tn} {i : Int} (h : inB ts i = true) : ∃ k : Nat, i = (k : Int) ∧ k < ts.length := by
 unfold inB at h; simp only [Bool.and_eq_true, decide_eq_true_eq] at h; exact ⟨i.toNat, by omega, by omega⟩
theorem swB_no {ts : List Tn} {i k : Int} (h : vtB ts = false ∨ inB ts i = false ∨ inB ts k = false) : swB ts i k = false := by
 unfold swB
 rcases h with h | h | h <;> rw [h] <;> simp
theorem flat_new {w1 : World} {base : Nat} {v1 : Value} {ts : List Tn} (h : w1.ownsRow base 137 2 v1 (0 + ts.length) ([] ++ jxc ts)) (hn : 1 ≤ ts.length) : ∃ g cap, v1 = .slice (some ⟨g, 0, none⟩) ts.length cap ∧ base ≤ g ∧ Flat w1 g 137 (jzj ts) ∧ ts.length ≤ cap := by
 rw [Nat.zero_add, List.nil_append] at h
 rcases Flat.own (zs := jzj ts) h with ⟨_, hz⟩ | r
 ·omega
 ·exact r
theorem swapped {w1 : World} {g i k : Nat} {ts : List Tn} {x y : Tn} (hF : Flat w1 g 137 (jzj ts)) (hi : i < ts.length) (hk : k < ts.length) :
  Flat ((w1.setCell ⟨g, i * 2, none⟩ (.int .i64 x.1)).setCell ⟨g, i * 2 + 1, none⟩ (.int .i64 x.2)) g 137 (jzj (ts.set i x)) ∧
  Flat ((((w1.setCell ⟨g, i * 2, none⟩ (.int .i64 x.1)).setCell ⟨g, i * 2 + 1, none⟩ (.int .i64 x.2)).setCell ⟨g, k * 2, none⟩ (.int .i64 y.1)).setCell ⟨g, k * 2 + 1, none⟩ (.int .i64 y.2)) g 137 (jzj ((ts.set i x).set k y)) := by
 have hl := flatTn_len ts; have a := (hF.set_ (i := i * 2) (by omega) x.1).set_ (i := i * 2 + 1) (by rw [List.length_set]; omega) x.2; rw [flatTn_set ts i x hi] at a; have hl2 := flatTn_len (ts.set i x); rw [List.length_set] at hl2; have b := (a.set_ (i := k * 2) (by omega) y.1).set_ (i := k * 2 + 1) (by rw [List.length_set]; omega) y.2; rw [flatTn_set (ts.set i x) k y (by rw [List.length_set]; exact hk)] at b; exact ⟨a, b⟩
theorem swap_facts {w W w2 : World} {g0 o i k : Nat} {ts : List Tn} {v2 : Value} (hB : Below w.heap.size w W)
  (hc : ∀ i, i < ts.length → w.cell? ⟨g0, o + i * 2, none⟩ = some (.int .i64 (ts.getD i tn0).1) ∧ w.cell? ⟨g0, o + i * 2 + 1, none⟩ = some (.int .i64 (ts.getD i tn0).2))
  (hown : w2.ownsRow W.heap.size 137 2 v2 (0 + ts.length) ([] ++ jxc ts)) (hg : (W.alloc (.cells #[] 137)).grownBy w2 (some W.heap.size)) (hi : i < ts.length) (hk : k < ts.length) :
  ∃ (g cp : Nat) (x0 x1 y0 y1 q0 q1 q2 q3 : Int), v2 = .slice (some ⟨g, 0, none⟩) ts.length cp ∧ w.heap.size ≤ g ∧ ts.length ≤ cp ∧
   w2.cell? ⟨g0, o + k * 2, none⟩ = some (.int .i64 x0) ∧ w2.cell? ⟨g0, o + k * 2 + 1, none⟩ = some (.int .i64 x1) ∧
   ((w2.setCell ⟨g, i * 2, none⟩ (.int .i64 x0)).setCell ⟨g, i * 2 + 1, none⟩ (.int .i64 x1)).cell? ⟨g0, o + i * 2, none⟩ = some (.int .i64 y0) ∧ ((w2.setCell ⟨g, i * 2, none⟩ (.int .i64 x0)).setCell ⟨g, i * 2 + 1, none⟩ (.int .i64 x1)).cell? ⟨g0, o + i * 2 + 1, none⟩ = some (.int .i64 y1) ∧
   w2.cell? ⟨g, i * 2, none⟩ = some (.int .i64 q0) ∧ w2.cell? ⟨g, i * 2 + 1, none⟩ = some (.int .i64 q1) ∧
   ((w2.setCell ⟨g, i * 2, none⟩ (.int .i64 x0)).setCell ⟨g, i * 2 + 1, none⟩ (.int .i64 x1)).cell? ⟨g, k * 2, none⟩ = some (.int .i64 q2) ∧ ((w2.setCell ⟨g, i * 2, none⟩ (.int .i64 x0)).setCell ⟨g, i * 2 + 1, none⟩ (.int .i64 x1)).cell? ⟨g, k * 2 + 1, none⟩ = some (.int .i64 q3) ∧
   w2.frozen? ⟨g, i * 2, none⟩ = false ∧ w2.frozen? ⟨g, i * 2 + 1, none⟩ = false ∧
   ((w2.setCell ⟨g, i * 2, none⟩ (.int .i64 x0)).setCell ⟨g, i * 2 + 1, none⟩ (.int .i64 x1)).frozen? ⟨g, k * 2, none⟩ = false ∧ ((w2.setCell ⟨g, i * 2, none⟩ (.int .i64 x0)).setCell ⟨g, i * 2 + 1, none⟩ (.int .i64 x1)).frozen? ⟨g, k * 2 + 1, none⟩ = false ∧
   Flat ((((w2.setCell ⟨g, i * 2, none⟩ (.int .i64 x0)).setCell ⟨g, i * 2 + 1, none⟩ (.int .i64 x1)).setCell ⟨g, k * 2, none⟩ (.int .i64 y0)).setCell ⟨g, k * 2 + 1, none⟩ (.int .i64 y1)) g 137 (jzj ((ts.set i (ts.getD k tn0)).set k (ts.getD i tn0))) ∧
   Below w.heap.size w ((((w2.setCell ⟨g, i * 2, none⟩ (.int .i64 x0)).setCell ⟨g, i * 2 + 1, none⟩ (.int .i64 x1)).setCell ⟨g, k * 2, none⟩ (.int .i64 y0)).setCell ⟨g, k * 2 + 1, none⟩ (.int .i64 y1)) := by
 obtain ⟨g, cp, rfl, lg, F2, hcc⟩ := flat_new hown (by omega); have hsz := hB.size
 have lg2 : w.heap.size ≤ g := by omega
 have hB2 : Below w.heap.size w w2 := (hB.alloc hB.size _).grown hg (by simp; omega) (fun q hq => by have e : W.heap.size = q := Option.some.inj hq; omega); obtain ⟨F3, F4⟩ := swapped (x := ts.getD k tn0) (y := ts.getD i tn0) F2 hi hk; have hB3 := (hB2.setCell (p := ⟨g, i * 2, none⟩) lg2 (.int .i64 (ts.getD k tn0).1)).setCell (p := ⟨g, i * 2 + 1, none⟩) lg2 (.int .i64 (ts.getD k tn0).2); have hB4 := (hB3.setCell (p := ⟨g, k * 2, none⟩) lg2 (.int .i64 (ts.getD i tn0).1)).setCell (p := ⟨g, k * 2 + 1, none⟩) lg2 (.int .i64 (ts.getD i tn0).2); obtain ⟨c0, c1⟩ := tn_at hc hB2 hk; obtain ⟨d0, d1⟩ := tn_at hc hB3 hi; have l2 := flatTn_len ts; have l3 := flatTn_len (ts.set i (ts.getD k tn0)); rw [List.length_set] at l3; exact ⟨g, cp, _, _, _, _, _, _, _, _, rfl, lg2, hcc, c0, c1, d0, d1, F2.cell (j := i * 2) (by omega), F2.cell (j := i * 2 + 1) (by omega), F3.cell (j := k * 2) (by omega), F3.cell (j := k * 2 + 1) (by omega), F2.frozen _, F2.frozen _, F3.frozen _, F3.frozen _, F4, hB4⟩
theorem iSwap (a : Option Addr) (cap : Nat) (ts : List Tn) (i k : Int) (w : World) (h : IsTn w a ts) (hn : ts.length ≤ 1048576) (hc : ts.length ≤ cap) :
    Calls Tryz.prog 99 #[.slice a ts.length cap, .int .i64 i, .int .i64 k] w (OutTn w (swB ts i k) (swL ts i k)) := by
  have VT := iVT a cap ts w h hn; have H := Lib.hid h
  have ITi := fun W => iturn a ts.length cap i W hn
  have ITk := fun W => iturn a ts.length cap k W hn
  change ∀ W, Calls _ _ _ W (fun e w' => e = .returned (.bool (inB ts i)) ∧ W = w') at ITi; change ∀ W, Calls _ _ _ W (fun e w' => e = .returned (.bool (inB ts k)) ∧ W = w') at ITk
  cases hv : vtB ts with
  | false =>
    rw [swB_no (.inl hv)]; rw [hv] at VT; clear hv h; go_enter Tryz.func99, Tryz.ntmps99; go_wp2_with fail; refine VT.mono ?_; rintro e w1 ⟨rfl, C⟩; go_wp2_with fail; go_ret; exact out_no rfl (C)
  | true =>
    rw [hv] at VT
    cases hi : inB ts i with
    | false =>
      rw [swB_no (.inr (.inl hi))]; rw [hi] at ITi; clear hv h; go_enter Tryz.func99, Tryz.ntmps99; go_wp2_with fail; refine VT.mono ?_; rintro e w1 ⟨rfl, C⟩; go_wp2_with fail; refine (ITi _).mono ?_; rintro e w' ⟨rfl, rfl⟩; go_wp2_with fail; go_ret; exact out_no rfl (C)
    | true =>
      obtain ⟨i, rfl, hil⟩ := in_yes hi; rw [hi] at ITi
      cases hk : inB ts k with
      | false =>
        rw [swB_no (.inr (.inr hk))]; rw [hk] at ITk; clear hv h; go_enter Tryz.func99, Tryz.ntmps99; go_wp2_with fail; refine VT.mono ?_; rintro e w1 ⟨rfl, C⟩; go_wp2_with fail; refine (ITi _).mono ?_; rintro e w' ⟨rfl, rfl⟩; go_wp2_with fail; refine (ITk _).mono ?_; rintro e w' ⟨rfl, rfl⟩; go_wp2_with fail; go_ret; exact out_no rfl (C)
      | true =>
        obtain ⟨k, rfl, hkl⟩ := in_yes hk; rw [hk] at ITk
        have hb : swB ts (i : Int) (k : Int) = true := by unfold swB; rw [hv, hi, hk]; rfl
        have hL : swL ts (i : Int) (k : Int) = (ts.set i (ts.getD k tn0)).set k (ts.getD i tn0) := by unfold swL; rw [Int.toNat_natCast, Int.toNat_natCast]
        rw [hb, hL]
        obtain ⟨L, hLL⟩ : ∃ L, (ts.set i (ts.getD k tn0)).set k (ts.getD i tn0) = L := ⟨_, rfl⟩
        rw [hLL]; have HLL := Lib.hid hLL
        rcases h with rfl | ⟨g0, o, rfl, hcl⟩
        · simp at hil
        obtain ⟨i0, hi0, hz0, hz1, hz2⟩ := info_parts infoTn
        have i1 : (0 : Int) ≤ (i : Int) := by omega
        have i2 : (i : Int) < (ts.length : Int) := by omega
        have k1 : (0 : Int) ≤ (k : Int) := by omega
        have k2 : (k : Int) < (ts.length : Int) := by omega
        have l1 : 1 ≤ ts.length := by omega
        have HC := Lib.hid hcl; have HX := Lib.hid hi; have HY := Lib.hid hk; clear hv hcl hi hk hb hL hLL; go_enter Tryz.func99, Tryz.ntmps99; go_wp2_with fail; refine VT.mono ?_; rintro e w1 ⟨rfl, C⟩; have HB := Lib.hid C; clear C; have hR := tn_reads (tn_below H.out HB.out); have HR := Lib.hid hR; have hsz := HB.out.size; clear hR; go_wp2_with fail; refine (ITi _).mono ?_; rintro e w' ⟨rfl, rfl⟩; go_wp2_with fail; refine (ITk _).mono ?_; rintro e w' ⟨rfl, rfl⟩
        go_wp2_with (first | (at_builtin; refine jq2 _ rfl (.tmp 23) (.tmp 24) _ rfl w1.heap.size 137 i0 _ 2 16 Tryz.underlying24 hi0 hz0 hz1 hz2 rfl (by omega) _ 0 [] rfl ⟨rfl, .inr ⟨w1.heap.size, 0, #[], rfl, Nat.le_refl _, Blk.new _ _ _, Nat.le_refl _, by unfold maxLen; omega, rfl, rfl⟩⟩ w1.heap.size (some ⟨g0, o, none⟩) ts.length cap (jxc ts) rfl (HR.out.alloc (Nat.le_refl _) _) (valsTn_one ts) (by unfold maxLen; omega) (by omega) (by simp) ?_; intro v2 w2 hown2 hg2 hat2; obtain ⟨g, cp, x0, x1, y0, y1, q0, q1, q2, q3, rfl, lg2, hcc, c0, c1, d0, d1, m0, m1, n0, n1, fz0, fz1, fz2, fz3, F4, B4⟩ := swap_facts HB.out HC.out hown2 hg2 hil hkl; rw [HLL.out] at F4; have HF4 := Lib.hid F4; have HB4 := Lib.hid B4; clear hown2 hg2 hat2 F4 B4 HR H))
        go_ret
        have hlen : L.length = ts.length := by rw [← HLL.out]; simp
        exact out_yes rfl hlen.symm lg2 HF4.out (by omega) HB4.out
theorem sSwap (a : Option Addr) (cap : Nat) (ts : List Tn) (i k : Int) (w : World) (h : IsTn w a ts) (hn : ts.length ≤ 1048576) (hc : ts.length ≤ cap) :
    Calls Tryz.prog 105 #[.slice a ts.length cap, .int .i64 i, .int .i64 k] w (OutTn w (swB ts i k) (swL ts i k)) := by
  have VT := svt a cap ts w h hn; have H := Lib.hid h
  cases hv : vtB ts with
  | false =>
    rw [swB_no (.inl hv)]; rw [hv] at VT; clear hv h; go_enter Tryz.func105, Tryz.ntmps105; go_wp2_with fail; refine VT.mono ?_; rintro e w' ⟨rfl, rfl⟩; go_wp2_with fail; go_ret; exact out_no rfl (by go_grown)
  | true =>
    rw [hv] at VT
    cases hi : inB ts i with
    | false =>
      rw [swB_no (.inr (.inl hi))]
      clear hv h; go_enter Tryz.func105, Tryz.ntmps105; go_wp2_with fail; refine VT.mono ?_; rintro e w' ⟨rfl, rfl⟩; go_wp2_with fail; refine (jzf i 0 ((ts.length : Int) - 1) _ (in_no hi)).mono ?_; rintro e w' ⟨rfl, rfl⟩; go_wp2_with fail; go_ret; exact out_no rfl (by go_grown)
    | true =>
      obtain ⟨i, rfl, hil⟩ := in_yes hi
      cases hk : inB ts k with
      | false =>
        rw [swB_no (.inr (.inr hk))]
        clear hv h; go_enter Tryz.func105, Tryz.ntmps105; go_wp2_with fail; refine VT.mono ?_; rintro e w' ⟨rfl, rfl⟩; go_wp2_with fail; refine (jz0 (i : Int) 0 ((ts.length : Int) - 1) _ (by omega) (by omega)).mono ?_; rintro e w' ⟨rfl, rfl⟩; go_wp2_with fail; refine (jzf k 0 ((ts.length : Int) - 1) _ (in_no hk)).mono ?_; rintro e w' ⟨rfl, rfl⟩; go_wp2_with fail; go_ret; exact out_no rfl (by go_grown)
      | true =>
        obtain ⟨k, rfl, hkl⟩ := in_yes hk
        have hb : swB ts (i : Int) (k : Int) = true := by unfold swB; rw [hv, hi, hk]; rfl
        have hL : swL ts (i : Int) (k : Int) = (ts.set i (ts.getD k tn0)).set k (ts.getD i tn0) := by unfold swL; rw [Int.toNat_natCast, Int.toNat_natCast]
        rw [hb, hL]
        obtain ⟨L, hLL⟩ : ∃ L, (ts.set i (ts.getD k tn0)).set k (ts.getD i tn0) = L := ⟨_, rfl⟩
        rw [hLL]; have HLL := Lib.hid hLL
        rcases h with rfl | ⟨g0, o, rfl, hcl⟩
        · simp at hil
        obtain ⟨i0, hi0, hz0, hz1, hz2⟩ := info_parts infoTn
        have i1 : (0 : Int) ≤ (i : Int) := by omega
        have i2 : (i : Int) < (ts.length : Int) := by omega
        have k1 : (0 : Int) ≤ (k : Int) := by omega
        have k2 : (k : Int) < (ts.length : Int) := by omega
        have l1 : 1 ≤ ts.length := by omega
        have HC := Lib.hid hcl; have HX := Lib.hid hi; have HY := Lib.hid hk; clear hv hcl hi hk hb hL hLL; go_enter Tryz.func105, Tryz.ntmps105; go_wp2_with fail; refine VT.mono ?_; rintro e w' ⟨rfl, rfl⟩; have HB := Lib.hid (Below.refl w.heap.size w); have hR := tn_reads H.out; have HR := Lib.hid hR; have hsz := HB.out.size; clear hR; go_wp2_with fail; refine (jz0 (i : Int) 0 ((ts.length : Int) - 1) _ (by omega) (by omega)).mono ?_; rintro e w' ⟨rfl, rfl⟩; go_wp2_with fail; refine (jz0 (k : Int) 0 ((ts.length : Int) - 1) _ (by omega) (by omega)).mono ?_; rintro e w' ⟨rfl, rfl⟩
        go_wp2_with (first | (at_builtin; refine jq2 _ rfl (.tmp 27) (.tmp 28) _ rfl w.heap.size 137 i0 _ 2 16 Tryz.underlying24 hi0 hz0 hz1 hz2 rfl (by omega) _ 0 [] rfl ⟨rfl, .inr ⟨w.heap.size, 0, #[], rfl, Nat.le_refl _, Blk.new _ _ _, Nat.le_refl _, by unfold maxLen; omega, rfl, rfl⟩⟩ w.heap.size (some ⟨g0, o, none⟩) ts.length cap (jxc ts) rfl (HR.out.alloc (Nat.le_refl _) _) (valsTn_one ts) (by unfold maxLen; omega) (by omega) (by simp) ?_; intro v2 w2 hown2 hg2 hat2; obtain ⟨g, cp, x0, x1, y0, y1, q0, q1, q2, q3, rfl, lg2, hcc, c0, c1, d0, d1, m0, m1, n0, n1, fz0, fz1, fz2, fz3, F4, B4⟩ := swap_facts HB.out HC.out hown2 hg2 hil hkl; rw [HLL.out] at F4; have HF4 := Lib.hid F4; have HB4 := Lib.hid B4; clear hown2 hg2 hat2 F4 B4 HR H))
        go_ret
        have hlen : L.length = ts.length := by rw [← HLL.out]; simp
        exact out_yes rfl hlen.symm lg2 HF4.out (by omega) HB4.out

theorem iwithin (n m : Int) (w : World) :
  Calls Tryz.prog 50 #[.int .i64 n, .int .i64 m] w fun e w' => e = .returned (.bool (decide (0 ≤ n) && decide (n ≤ m))) ∧ w = w' := by
 by_cases h : n < 0 ∨ m < n
 ·have e : (decide (0 ≤ n) && decide (n ≤ m)) = false := by
   rcases h with h | h
   ·rw [decide_eq_false (by omega : ¬ 0 ≤ n)]; rfl
   ·rw [decide_eq_false (by omega : ¬ n ≤ m)]; simp
  rw [e]; exact iwithin_no n m w h
 ·rw [decide_eq_true (by omega : 0 ≤ n), decide_eq_true (by omega : n ≤ m)]; exact jj6 n m w (by omega) (by omega)
theorem iisNode (a : Option Addr) (n cap : Nat) (i : Int) (w : World) (hn : n ≤ 1048576) :
  Calls Tryz.prog 113 #[.slice a n cap, .int .i64 i] w fun e w' => e = .returned (.bool (inN n i)) ∧ w = w' := by
 by_cases h1 : 0 ≤ i
 ·have hd : decide (0 ≤ i) = true := decide_eq_true h1
  clear h1; go_enter Tryz.func113, Tryz.ntmps113
  go_wp2
  go_ret; exact ⟨jq4 (by unfold inN; rw [hd]; rfl), rfl⟩
 ·have hd : decide (0 ≤ i) = false := decide_eq_false h1
  clear h1; go_enter Tryz.func113, Tryz.ntmps113
  go_wp2
  go_ret; exact ⟨jq4 (by unfold inN; rw [hd]; rfl), rfl⟩
theorem imeasures (x0 x1 x2 x3 x4 : Int) (w : World) :
    Calls Tryz.prog 114 #[.agg #[.int .i64 x0, .int .i64 x1, .int .i64 x2, .int .i64 x3, .int .i64 x4]] w fun e w' => e = .returned (.bool (mB (x0, x1, x2, x3, x4))) ∧ Below w.heap.size w w' := by
  obtain ⟨b1, h1⟩ : ∃ b, (decide (0 ≤ x1) && decide (x1 ≤ 1000)) = b := ⟨_, rfl⟩
  obtain ⟨b2, h2⟩ : ∃ b, (decide (0 ≤ x2) && decide (x2 ≤ 500)) = b := ⟨_, rfl⟩
  obtain ⟨b3, h3⟩ : ∃ b, (decide (0 ≤ x3) && decide (x3 ≤ 500)) = b := ⟨_, rfl⟩
  obtain ⟨b4, h4⟩ : ∃ b, (decide (0 ≤ x4) && decide (x4 ≤ 20)) = b := ⟨_, rfl⟩
  have HM : Hid (mB (x0, x1, x2, x3, x4) = (b1 && b2 && b3 && b4)) := by show mB _ = _; rw [← h1, ← h2, ← h3, ← h4]; rfl
  have C1 := fun W => iwithin x1 1000 W
  have C2 := fun W => iwithin x2 500 W
  have C3 := fun W => iwithin x3 500 W
  have C4 := fun W => iwithin x4 20 W
  rw [h1] at C1; rw [h2] at C2; rw [h3] at C3; rw [h4] at C4; clear h1 h2 h3 h4
  cases b1 with
  | false =>
    go_enter Tryz.func114, Tryz.ntmps114; go_wp2_with fail; refine (C1 _).mono ?_; rintro e w' ⟨rfl, rfl⟩; go_wp2_with fail; go_ret; exact ⟨jq4 (by rw [HM.out]; simp), by go_grown⟩
  | true =>
    cases b2 with
    | false =>
      go_enter Tryz.func114, Tryz.ntmps114; go_wp2_with fail; refine (C1 _).mono ?_; rintro e w' ⟨rfl, rfl⟩; go_wp2_with fail; refine (C2 _).mono ?_; rintro e w' ⟨rfl, rfl⟩; go_wp2_with fail; go_ret; exact ⟨jq4 (by rw [HM.out]; simp), by go_grown⟩
    | true =>
      cases b3 with
      | false =>
        go_enter Tryz.func114, Tryz.ntmps114; go_wp2_with fail; refine (C1 _).mono ?_; rintro e w' ⟨rfl, rfl⟩; go_wp2_with fail; refine (C2 _).mono ?_; rintro e w' ⟨rfl, rfl⟩; go_wp2_with fail; refine (C3 _).mono ?_; rintro e w' ⟨rfl, rfl⟩; go_wp2_with fail; go_ret; exact ⟨jq4 (by rw [HM.out]; simp), by go_grown⟩
      | true =>
        cases b4 with
        | false =>
          go_enter Tryz.func114, Tryz.ntmps114; go_wp2_with fail; refine (C1 _).mono ?_; rintro e w' ⟨rfl, rfl⟩; go_wp2_with fail; refine (C2 _).mono ?_; rintro e w' ⟨rfl, rfl⟩; go_wp2_with fail; refine (C3 _).mono ?_; rintro e w' ⟨rfl, rfl⟩; go_wp2_with fail; refine (C4 _).mono ?_; rintro e w' ⟨rfl, rfl⟩; go_wp2_with fail; go_ret; exact ⟨jq4 (by rw [HM.out]; simp), by go_grown⟩
        | true =>
          go_enter Tryz.func114, Tryz.ntmps114; go_wp2_with fail; refine (C1 _).mono ?_; rintro e w' ⟨rfl, rfl⟩; go_wp2_with fail; refine (C2 _).mono ?_; rintro e w' ⟨rfl, rfl⟩; go_wp2_with fail; refine (C3 _).mono ?_; rintro e w' ⟨rfl, rfl⟩; go_wp2_with fail; refine (C4 _).mono ?_; rintro e w' ⟨rfl, rfl⟩; go_wp2_with fail; go_ret; exact ⟨jq4 (by rw [HM.out]; simp), by go_grown⟩
theorem ok_first {ns : List Nd} (h : ¬ (ns.getD 0 nd0).1 = -1) : okN ns 0 = false := by
 unfold okN; rw [pB_zero, decide_eq_false h]; rfl
theorem iVN (a : Option Addr) (cap : Nat) (ns : List Nd) (w : World) (h : IsNd w a ns) (hn : ns.length ≤ 1048576) (hcap : ns.length ≤ cap) :
    Calls Tryz.prog 47 #[.slice a ns.length cap] w fun e w' => e = .returned (.bool (vnB ns)) ∧ Below w.heap.size w w' := by
  by_cases h0 : ns.length < 1
  · have e0 : decide ((ns.length : Int) < 1) = true := by simp; omega
    have HN := Lib.hid (vn_no0 h0); clear h0; go_enter Tryz.func47, Tryz.ntmps47; go_wp2_with fail; go_ret; exact ⟨jq4 HN.out.symm, by go_grown⟩
  have e0 : decide ((ns.length : Int) < 1) = false := by simp; omega
  by_cases h24 : 12 < ns.length
  · have e1 : decide (12 < (ns.length : Int)) = true := by simp; omega
    have HN := Lib.hid (vn_no1 h24); clear h24 h0; go_enter Tryz.func47, Tryz.ntmps47; go_wp2_with fail; go_ret; exact ⟨jq4 HN.out.symm, by go_grown⟩
  have e1 : decide (12 < (ns.length : Int)) = false := by simp; omega
  rcases h with rfl | ⟨g, o, rfl, hc⟩
  · exact absurd (by simp) h0
  have HC := Lib.hid hc
  have l0 : (0 : Int) < (ns.length : Int) := by omega
  have l1 : 1 ≤ ns.length := by omega
  have l12 : ns.length ≤ 12 := by omega
  have c00 := (hc 0 (by omega)).1; rw [show o + 0 * 5 = o from by omega] at c00
  have hfirst := fun e => vn_no2 (ns := ns) (k := 0) (by omega) (ok_first e)
  have hf0 : ∀ p, (ns.getD 0 nd0).1 = p → p = -1 → pB p 0 = true := fun p _ e => by rw [pB_zero]; exact decide_eq_true e
  by_cases hp : (ns.getD 0 nd0).1 = -1
  rotate_left
  · have HF := Lib.hid (hfirst hp)
    have ep : ((ns.getD 0 nd0).1 == -1) = false := by simpa using hp
    generalize (ns.getD 0 nd0).1 = p at c00 ep; clear hc hp h0 h24 hfirst hf0; go_enter Tryz.func47, Tryz.ntmps47; go_wp2_with fail; go_ret; exact ⟨jq4 HF.out.symm, by go_grown⟩
  rw [hp] at c00; clear hc h0 h24 hfirst hf0; have HP := Lib.hid hp; clear hp; go_enter Tryz.func47, Tryz.ntmps47; go_wp2_with fail
  go_loopw [22] (fun i wr => ∃ k : Nat, k ≤ ns.length ∧ i = .int .i64 k ∧ Hid (∀ j, j < k → okN ns j = true) ∧ Below w.heap.size w wr) (fun i _ => ns.length - (intOf i).toNat)
  case atStart => exact ⟨0, Nat.zero_le _, rfl, fun j hj => by omega, by go_grown⟩
  case round =>
    obtain ⟨k, hk, rfl, HA, hB⟩ := hrel
    by_cases hlt : k < ns.length
    · obtain ⟨c0, c1, c2, c3, c4⟩ := nd_at HC.out hB hlt
      obtain ⟨q, hq⟩ : ∃ q, mB (ns.getD k nd0) = q := ⟨_, rfl⟩
      have hk0 : k = 0 → (ns.getD k nd0).1 = -1 := fun e => by subst e; exact HP.out
      have hno : (pB (ns.getD k nd0).1 k = false ∨ q = false) → vnB ns = false := fun e => vn_no2 hlt (by unfold okN; rcases e with e | e <;> rw [hq, e] <;> simp)
      have hyes : pB (ns.getD k nd0).1 k = true → q = true → ∀ j, j < k + 1 → okN ns j = true := fun e1 e2 => jj5 HA.out (by unfold okN; rw [hq, e1, e2]; rfl)
      have CM := fun W => imeasures (ns.getD k nd0).1 (ns.getD k nd0).2.1 (ns.getD k nd0).2.2.1 (ns.getD k nd0).2.2.2.1 (ns.getD k nd0).2.2.2.2 W
      have hq' : mB ((ns.getD k nd0).1, (ns.getD k nd0).2.1, (ns.getD k nd0).2.2.1, (ns.getD k nd0).2.2.2.1, (ns.getD k nd0).2.2.2.2) = q := hq; rw [hq'] at CM; clear hq hq'; generalize (ns.getD k nd0).1 = x0 at c0 hno hyes CM hk0; generalize (ns.getD k nd0).2.1 = x1 at c1 CM; generalize (ns.getD k nd0).2.2.1 = x2 at c2 CM; generalize (ns.getD k nd0).2.2.2.1 = x3 at c3 CM; generalize (ns.getD k nd0).2.2.2.2 = x4 at c4 CM; have HN := Lib.hid hno; have HY := Lib.hid hyes; have HB := Lib.hid hB
      have kb0 : (0 : Int) ≤ (k : Int) := by omega
      have kb1 : (k : Int) ≤ (cap : Int) := by omega
      have kb2 : (k : Int) < (ns.length : Int) := by omega
      clear hno hyes hB
      by_cases k0 : k = 0
      · have d0 : decide (0 < (k : Int)) = false := decide_eq_false (by omega)
        have d1 : decide (0 < k) = false := decide_eq_false (by omega)
        have HP2 : Hid (pB x0 k = true) := by show pB x0 k = true; rw [hk0 k0, k0]; rfl
        clear hk0 k0
        cases q with
        | false =>
          have HV := Lib.hid (HN.out (.inr rfl)); go_wp2_with fail
          go_quiet (fail)
          go_wp2_with fail; refine (CM _).mono ?_; rintro e w1 ⟨rfl, C⟩; go_wp2_with fail; go_ret; exact ⟨jq4 HV.out.symm, jq1 (jqb (HB.out.alloc HB.out.size _) _) C⟩
        | true =>
          have HV := Lib.hid (HY.out HP2.out rfl); go_wp2_with fail
          go_quiet (fail)
          go_wp2_with fail; refine (CM _).mono ?_; rintro e w1 ⟨rfl, C⟩; go_wp2_with fail
          go_roundw
          case rel => exact ⟨k + 1, by omega, by go_num, HV.out, jq1 (jqb (HB.out.alloc HB.out.size _) _) C⟩
          case measure => simp [intOf]; omega
      · have d0 : decide (0 < (k : Int)) = true := decide_eq_true (by omega)
        have d1 : decide (0 < k) = true := decide_eq_true (by omega)
        have hpb : pB x0 k = inN k x0 := by rw [pB_pos _ (by omega)]; rfl
        have CI := fun W => iisNode (some ⟨g, o, none⟩) k cap x0 W (by omega)
        obtain ⟨t, ht⟩ : ∃ t, inN k x0 = t := ⟨_, rfl⟩
        rw [ht] at CI hpb; have HP2 := Lib.hid hpb; have KI := Lib.hid (fun (W : World) (j : Nat) => Calls.quiet_of_same (w := W) (n := j) ((CI _).mono (fun _ _ h => ⟨h.1, h.2.symm⟩))); clear hk0 k0 hpb ht CI
        cases t with
        | false =>
          have HV := Lib.hid (HN.out (.inl HP2.out)); go_wp2_with fail
          go_quiet (first | (go_at_call_of 113 (Value.slice (some ⟨g, o, none⟩) k cap); exact KI.out _ _))
          go_wp2_with fail; go_ret; exact ⟨jq4 HV.out.symm, jqb (HB.out.alloc HB.out.size _) _⟩
        | true =>
          cases q with
          | false =>
            have HV := Lib.hid (HN.out (.inr rfl)); go_wp2_with fail
            go_quiet (first | (go_at_call_of 113 (Value.slice (some ⟨g, o, none⟩) k cap); exact KI.out _ _))
            go_wp2_with fail; refine (CM _).mono ?_; rintro e w1 ⟨rfl, C⟩; go_wp2_with fail; go_ret; exact ⟨jq4 HV.out.symm, jq1 (jqb (HB.out.alloc HB.out.size _) _) C⟩
          | true =>
            have HV := Lib.hid (HY.out HP2.out rfl); go_wp2_with fail
            go_quiet (first | (go_at_call_of 113 (Value.slice (some ⟨g, o, none⟩) k cap); exact KI.out _ _))
            go_wp2_with fail; refine (CM _).mono ?_; rintro e w1 ⟨rfl, C⟩; go_wp2_with fail
            go_roundw
            case rel => exact ⟨k + 1, by omega, by go_num, HV.out, jq1 (jqb (HB.out.alloc HB.out.size _) _) C⟩
            case measure => simp [intOf]; omega
    · obtain rfl : k = ns.length := by omega
      have HE := Lib.hid (vn_yes l1 l12 HA.out); have HB := Lib.hid hB; clear HA hB; go_wp2_with fail; go_ret; exact ⟨jq4 HE.out.symm, HB.out⟩
theorem sinRange (n l h : Int) (w : World) :
  Calls Tryz.prog 95 #[.int .i64 n, .int .i64 l, .int .i64 h] w fun e w' => e = .returned (.bool (decide (l ≤ n) && decide (n ≤ h))) ∧ w = w' := by
 by_cases c : n < l ∨ h < n
 ·have e : (decide (l ≤ n) && decide (n ≤ h)) = false := by
   rcases c with c | c
   ·rw [decide_eq_false (by omega : ¬ l ≤ n)]; rfl
   ·rw [decide_eq_false (by omega : ¬ n ≤ h)]; simp
  rw [e]; exact jzf n l h w c
 ·rw [decide_eq_true (by omega : l ≤ n), decide_eq_true (by omega : n ≤ h)]; exact jz0 n l h w (by omega) (by omega)
theorem inN_range (n : Nat) (i : Int) : (decide (0 ≤ i) && decide (i ≤ (n : Int) - 1)) = inN n i := by
 unfold inN
 by_cases h : i < (n : Int)
 ·rw [decide_eq_true h, decide_eq_true (by omega : i ≤ (n : Int) - 1)]
 ·rw [decide_eq_false h, decide_eq_false (by omega : ¬ i ≤ (n : Int) - 1)]
theorem svn (a : Option Addr) (cap : Nat) (ns : List Nd) (w : World) (h : IsNd w a ns) (hn : ns.length ≤ 1048576) :
    Calls Tryz.prog 92 #[.slice a ns.length cap] w fun e w' => e = .returned (.bool (vnB ns)) ∧ Below w.heap.size w w' := by
  rcases h with rfl | ⟨g, o, rfl, hc⟩
  · go_enter Tryz.func92, Tryz.ntmps92
    go_wp2_with fail; refine wp_loop_rounds 1 ?_; rw [rounds_succ]; go_wp2_with fail; refine (jzf 0 1 12 _ (by omega)).mono ?_; rintro e w' ⟨rfl, rfl⟩; go_wp2_with fail; go_ret; exact ⟨rfl, by go_grown⟩
  have HC := Lib.hid hc; have HP := Lib.hid (fun (k : Nat) (_ : k = 0) (p : Int) (e : ¬ p = -1) => (by rw [pB_zero]; exact decide_eq_false e : pB p 0 = false)); clear hc; go_enter Tryz.func92, Tryz.ntmps92; go_wp2_with fail
  go_loopw [3] (fun i wr => ∃ k : Nat, k ≤ ns.length ∧ i = .int .i64 k ∧ Hid (∀ j, j < k → okN ns j = true) ∧ Below w.heap.size w wr) (fun i _ => ns.length - (intOf i).toNat)
  case atStart => exact ⟨0, Nat.zero_le _, rfl, fun j hj => by omega, by go_grown⟩
  case round =>
    obtain ⟨k, hk, rfl, HA, hB⟩ := hrel
    by_cases hlt : k < ns.length
    · obtain ⟨c0, c1, c2, c3, c4⟩ := nd_at HC.out hB hlt
      have hnp : pB (ns.getD k nd0).1 k = false → vnB ns = false := fun e => vn_no2 hlt (by unfold okN; rw [e]; rfl)
      have hnm : mB (ns.getD k nd0) = false → vnB ns = false := fun e => vn_no2 hlt (by unfold okN; rw [e]; simp)
      have hyes : pB (ns.getD k nd0).1 k = true → mB (ns.getD k nd0) = true → ∀ j, j < k + 1 → okN ns j = true := fun e1 e2 => jj5 HA.out (by unfold okN; rw [e1, e2]; rfl)
      generalize ns.getD k nd0 = nd at c0 c1 c2 c3 c4 hnp hnm hyes; obtain ⟨x0, x1, x2, x3, x4⟩ := nd; dsimp only at c0 c1 c2 c3 c4 hnp hnm hyes
      obtain ⟨b1, h1⟩ : ∃ b, (decide (0 ≤ x1) && decide (x1 ≤ 1000)) = b := ⟨_, rfl⟩
      obtain ⟨b2, h2⟩ : ∃ b, (decide (0 ≤ x2) && decide (x2 ≤ 500)) = b := ⟨_, rfl⟩
      obtain ⟨b3, h3⟩ : ∃ b, (decide (0 ≤ x3) && decide (x3 ≤ 500)) = b := ⟨_, rfl⟩
      obtain ⟨b4, h4⟩ : ∃ b, (decide (0 ≤ x4) && decide (x4 ≤ 20)) = b := ⟨_, rfl⟩
      have hmm : mB (x0, x1, x2, x3, x4) = (b1 && b2 && b3 && b4) := by rw [← h1, ← h2, ← h3, ← h4]; rfl
      have C1 := fun W => sinRange x1 0 1000 W
      have C2 := fun W => sinRange x2 0 500 W
      have C3 := fun W => sinRange x3 0 500 W
      have C4 := fun W => sinRange x4 0 20 W
      rw [h1] at C1; rw [h2] at C2; rw [h3] at C3; rw [h4] at C4; rw [hmm] at hnm hyes; have HNP := Lib.hid hnp; have HNM := Lib.hid hnm; have HY := Lib.hid hyes; have HB := Lib.hid hB; clear h1 h2 h3 h4 hmm hnp hnm hyes hB
      by_cases k0 : k = 0
      · have e0 : ((k : Int) == 0) = true := by simp; omega
        have e1 : (k == 0) = true := by simpa using k0
        have e2 : decide (0 < (k : Int)) = false := decide_eq_false (by omega); have e3 : decide (0 < k) = false := decide_eq_false (by omega)
        by_cases hp : x0 = -1
        · have HP2 : Hid (pB x0 k = true) := by show pB x0 k = true; rw [k0, pB_zero]; exact decide_eq_true hp
          clear k0 HNP; subst hp
          cases b1 with
          | false =>
            have HV : Hid (vnB ns = false) := HNM.out (by simp); go_wp2_with fail; refine (C1 _).mono ?_; rintro e w' ⟨rfl, rfl⟩; go_wp2_with fail; go_ret; exact ⟨jq4 HV.out.symm, HB.out.alloc HB.out.size _⟩
          | true =>
            cases b2 with
            | false =>
              have HV : Hid (vnB ns = false) := HNM.out (by simp); go_wp2_with fail; refine (C1 _).mono ?_; rintro e w' ⟨rfl, rfl⟩; go_wp2_with fail; refine (C2 _).mono ?_; rintro e w' ⟨rfl, rfl⟩; go_wp2_with fail; go_ret; exact ⟨jq4 HV.out.symm, HB.out.alloc HB.out.size _⟩
            | true =>
              cases b3 with
              | false =>
                have HV : Hid (vnB ns = false) := HNM.out (by simp); go_wp2_with fail; refine (C1 _).mono ?_; rintro e w' ⟨rfl, rfl⟩; go_wp2_with fail; refine (C2 _).mono ?_; rintro e w' ⟨rfl, rfl⟩; go_wp2_with fail; refine (C3 _).mono ?_; rintro e w' ⟨rfl, rfl⟩; go_wp2_with fail; go_ret; exact ⟨jq4 HV.out.symm, HB.out.alloc HB.out.size _⟩
              | true =>
                cases b4 with
                | false =>
                  have HV : Hid (vnB ns = false) := HNM.out (by simp); go_wp2_with fail; refine (C1 _).mono ?_; rintro e w' ⟨rfl, rfl⟩; go_wp2_with fail; refine (C2 _).mono ?_; rintro e w' ⟨rfl, rfl⟩; go_wp2_with fail; refine (C3 _).mono ?_; rintro e w' ⟨rfl, rfl⟩; go_wp2_with fail; refine (C4 _).mono ?_; rintro e w' ⟨rfl, rfl⟩; go_wp2_with fail; go_ret; exact ⟨jq4 HV.out.symm, HB.out.alloc HB.out.size _⟩
                | true =>
                  have HV := Lib.hid (HY.out HP2.out (by simp)); go_wp2_with fail; refine (C1 _).mono ?_; rintro e w' ⟨rfl, rfl⟩; go_wp2_with fail; refine (C2 _).mono ?_; rintro e w' ⟨rfl, rfl⟩; go_wp2_with fail; refine (C3 _).mono ?_; rintro e w' ⟨rfl, rfl⟩; go_wp2_with fail; refine (C4 _).mono ?_; rintro e w' ⟨rfl, rfl⟩; go_wp2_with fail
                  go_roundw
                  case rel => exact ⟨k + 1, by omega, by go_num, HV.out, HB.out.alloc HB.out.size _⟩
                  case measure => simp [intOf]; omega
        · have HV : Hid (vnB ns = false) := HNP.out (by rw [k0]; exact HP.out 0 rfl x0 hp)
          have ep : (x0 == -1) = false := by simpa using hp
          have ep2 : (x0 != -1) = true := by simpa using hp
          have ep3 : decide (x0 = -1) = false := decide_eq_false hp; clear k0 HNP; go_wp2_with fail; go_ret; exact ⟨jq4 HV.out.symm, HB.out.alloc HB.out.size _⟩
      · have e0 : ((k : Int) == 0) = false := by simp; omega
        have e1 : (k == 0) = false := by simpa using k0
        have e2 : decide (0 < (k : Int)) = true := decide_eq_true (by omega); have e3 : decide (0 < k) = true := decide_eq_true (by omega)
        have e4 : IntKind.i64.wrap ((k : Int) - 1) = (k : Int) - 1 := by rw [IntKind.wrap_i64]; omega
        have hpb : pB x0 k = (decide (0 ≤ x0) && decide (x0 ≤ (k : Int) - 1)) := by rw [pB_pos _ (by omega), inN_range]; rfl
        have C0 := fun W => sinRange x0 0 ((k : Int) - 1) W
        obtain ⟨b0, h0⟩ : ∃ b, (decide (0 ≤ x0) && decide (x0 ≤ (k : Int) - 1)) = b := ⟨_, rfl⟩
        rw [h0] at hpb C0; have HPB := Lib.hid hpb; clear h0 hpb k0
        cases b0 with
        | false =>
          have HV : Hid (vnB ns = false) := HNP.out HPB.out; clear HNP; go_wp2_with fail; refine (C0 _).mono ?_; rintro e w' ⟨rfl, rfl⟩; go_wp2_with fail; go_ret; exact ⟨jq4 HV.out.symm, HB.out.alloc HB.out.size _⟩
        | true =>
          have HP2 : Hid (pB x0 k = true) := HPB.out; clear HNP HPB
          cases b1 with
          | false =>
            have HV : Hid (vnB ns = false) := HNM.out (by simp); go_wp2_with fail; refine (C0 _).mono ?_; rintro e w' ⟨rfl, rfl⟩; go_wp2_with fail; refine (C1 _).mono ?_; rintro e w' ⟨rfl, rfl⟩; go_wp2_with fail; go_ret; exact ⟨jq4 HV.out.symm, HB.out.alloc HB.out.size _⟩
          | true =>
            cases b2 with
            | false =>
              have HV : Hid (vnB ns = false) := HNM.out (by simp); go_wp2_with fail; refine (C0 _).mono ?_; rintro e w' ⟨rfl, rfl⟩; go_wp2_with fail; refine (C1 _).mono ?_; rintro e w' ⟨rfl, rfl⟩; go_wp2_with fail; refine (C2 _).mono ?_; rintro e w' ⟨rfl, rfl⟩; go_wp2_with fail; go_ret; exact ⟨jq4 HV.out.symm, HB.out.alloc HB.out.size _⟩
            | true =>
              cases b3 with
              | false =>
                have HV : Hid (vnB ns = false) := HNM.out (by simp); go_wp2_with fail; refine (C0 _).mono ?_; rintro e w' ⟨rfl, rfl⟩; go_wp2_with fail; refine (C1 _).mono ?_; rintro e w' ⟨rfl, rfl⟩; go_wp2_with fail; refine (C2 _).mono ?_; rintro e w' ⟨rfl, rfl⟩; go_wp2_with fail; refine (C3 _).mono ?_; rintro e w' ⟨rfl, rfl⟩; go_wp2_with fail; go_ret; exact ⟨jq4 HV.out.symm, HB.out.alloc HB.out.size _⟩
              | true =>
                cases b4 with
                | false =>
                  have HV : Hid (vnB ns = false) := HNM.out (by simp); go_wp2_with fail; refine (C0 _).mono ?_; rintro e w' ⟨rfl, rfl⟩; go_wp2_with fail; refine (C1 _).mono ?_; rintro e w' ⟨rfl, rfl⟩; go_wp2_with fail; refine (C2 _).mono ?_; rintro e w' ⟨rfl, rfl⟩; go_wp2_with fail; refine (C3 _).mono ?_; rintro e w' ⟨rfl, rfl⟩; go_wp2_with fail; refine (C4 _).mono ?_; rintro e w' ⟨rfl, rfl⟩; go_wp2_with fail; go_ret; exact ⟨jq4 HV.out.symm, HB.out.alloc HB.out.size _⟩
                | true =>
                  have HV := Lib.hid (HY.out HP2.out (by simp)); go_wp2_with fail; refine (C0 _).mono ?_; rintro e w' ⟨rfl, rfl⟩; go_wp2_with fail; refine (C1 _).mono ?_; rintro e w' ⟨rfl, rfl⟩; go_wp2_with fail; refine (C2 _).mono ?_; rintro e w' ⟨rfl, rfl⟩; go_wp2_with fail; refine (C3 _).mono ?_; rintro e w' ⟨rfl, rfl⟩; go_wp2_with fail; refine (C4 _).mono ?_; rintro e w' ⟨rfl, rfl⟩; go_wp2_with fail
                  go_roundw
                  case rel => exact ⟨k + 1, by omega, by go_num, HV.out, HB.out.alloc HB.out.size _⟩
                  case measure => simp [intOf]; omega
    · obtain rfl : k = ns.length := by omega
      have CE := fun W => sinRange (ns.length : Int) 1 12 W
      rw [← vn_end HA.out] at CE; have HB := Lib.hid hB; clear HA hB; go_wp2_with fail; refine (CE _).mono ?_; rintro e w' ⟨rfl, rfl⟩; go_wp2_with fail; go_ret; exact ⟨rfl, HB.out⟩
theorem kids_len (ns : List Nd) (at_ : Int) : (jz7 ns at_).length ≤ ns.length := kidsTo_len ns at_ _
theorem skids (a : Option Addr) (cap : Nat) (ns : List Nd) (at_ : Int) (w : World) (h : IsNd w a ns) (hv : vnB ns = true) :
  Calls Tryz.prog 187 #[.slice a ns.length cap, .int .i64 at_] w (OutI w (jz7 ns at_)) := by
 obtain ⟨l1, l12, _⟩ := vn_is hv; obtain ⟨i0, hi0, hz0, hz1, hz2⟩ := info_parts jj4
 rcases h with rfl | ⟨g, o, rfl, hc⟩
 ·simp at l1
 have HC := Lib.hid hc; clear hc hv; go_enter Tryz.func187, Tryz.ntmps187; go_wp2_with fail
 go_loopw [5, 6] (fun v i wr => ∃ k : Nat, k ≤ ns.length ∧ i = .int .i64 k ∧ OwnI wr w.heap.size v (jx7 ns at_ k) ∧ Below w.heap.size w wr) (fun _ i _ => ns.length - (intOf i).toNat)
 case atStart => exact ⟨0, Nat.zero_le _, rfl, OwnI.new (Below.refl _ w), by go_grown⟩
 case round =>
  obtain ⟨k, hk, rfl, hO, hB⟩ := hrel; have hsz := hB.size
  by_cases hlt : k < ns.length
  ·have c0 := (nd_at HC.out hB hlt).1
   have hyes : (ns.getD k nd0).1 = at_ → jx7 ns at_ (k + 1) = jx7 ns at_ k ++ [(k : Int)] := fun e => jva e
   have hno : ¬ (ns.getD k nd0).1 = at_ → jx7 ns at_ (k + 1) = jx7 ns at_ k := fun e => kidsTo_no e
   have hll := kidsTo_len ns at_ k; generalize (ns.getD k nd0).1 = x0 at c0 hyes hno; generalize jx7 ns at_ k = ks at hyes hno hll hO
   by_cases hp : x0 = at_
   ·have HY := Lib.hid (hyes hp)
    subst hp; clear hyes hno
    go_wp2_with (first | (at_builtin; refine wpList_append_own _ rfl (.tmp 21) (.tmp 23) _ rfl w.heap.size 3 i0 (.int .i64 0) 1 8 Tryz.underlying33 hi0 hz0 hz1 hz2 rfl (by decide) _ _ _ rfl (hO.alloc _) ⟨wr.heap.size, 0, none⟩ 1 1 [.int .i64 (k : Int)] rfl rfl (cell_one_new _ _ _) (fun x hx => by simp at hx; subst hx; rfl) (by unfold maxLen; omega) (by omega) (by simp; omega) ?_; intro v3 w3 hown3 hgrow3 hnil3))
    have HR : Hid (OwnI w3 w.heap.size v3 (jx7 ns x0 (k + 1)) ∧ Below w.heap.size w w3) := ⟨by rw [HY.out]; exact OwnI.snoc hown3, (hB.alloc hsz _).grown hgrow3 (by simp; omega) hO.grow⟩
    clear hO hown3 hgrow3 hnil3 hB
    go_roundw
    case rel => exact ⟨k + 1, by omega, by go_num, HR.out.1, HR.out.2⟩
    case measure => simp [intOf]; omega
   ·have HY := Lib.hid (hno hp)
    have eb : (x0 == at_) = false := by simpa using hp
    have HO := Lib.hid hO; have HB := Lib.hid hB; clear hyes hno hp hO hB; go_wp2_with fail
    go_roundw
    case rel => exact ⟨k + 1, by omega, by go_num, by rw [HY.out]; exact HO.out, HB.out⟩
    case measure => simp [intOf]; omega
  ·have HO := Lib.hid hO
   have HB := Lib.hid hB; clear hO hB; go_wp2_with fail; go_ret; exact ⟨_, rfl, by rw [show k = ns.length from by omega] at HO; exact HO.out, HB.out⟩
theorem iKids (a : Option Addr) (cap : Nat) (ns : List Nd) (at_ : Int) (w : World) (h : IsNd w a ns) (hn : ns.length ≤ 1048576) (hcap : ns.length ≤ cap) :
    Calls Tryz.prog 117 #[.slice a ns.length cap, .int .i64 at_] w (OutI w (kidsV ns at_)) := by
  have VN := iVN a cap ns _ h hn hcap
  have CI := fun W => iisNode a ns.length cap at_ W hn
  skip
  skip
  cases hv : vnB ns with
  | false =>
    rw [kids_no (.inl hv)]; rw [hv] at VN; clear hv h; go_enter Tryz.func117, Tryz.ntmps117; go_wp2_with fail; refine VN.mono ?_; rintro e w1 ⟨rfl, C⟩; go_wp2_with fail; go_ret; exact outI_nil C
  | true =>
  rw [hv] at VN
  cases hi : inN ns.length at_ with
  | false =>
    rw [kids_no (.inr hi)]; rw [hi] at CI; clear hv hi h; go_enter Tryz.func117, Tryz.ntmps117; go_wp2_with fail; refine VN.mono ?_; rintro e w1 ⟨rfl, C⟩; go_wp2_with fail; refine (CI _).mono ?_; rintro e w' ⟨rfl, rfl⟩; go_wp2_with fail; go_ret; exact outI_nil C
  | true =>
    rw [hi] at CI; rw [kids_yes hv hi]; obtain ⟨i0, hi0, hz0, hz1, hz2⟩ := info_parts jj4; have HH := Lib.hid h; obtain ⟨l1, l12, _⟩ := vn_is hv
    rcases h with rfl | ⟨g, o, rfl, hc⟩
    · simp at l1
    have HC := Lib.hid hc; clear hi hc hv; go_enter Tryz.func117, Tryz.ntmps117; go_wp2_with fail; refine VN.mono ?_; rintro e w1 ⟨rfl, C⟩; go_wp2_with fail; refine (CI _).mono ?_; rintro e w' ⟨rfl, rfl⟩; clear VN CI; go_wp2_with fail
    go_loopw [5, 20] (fun v i wr => ∃ k : Nat, k ≤ ns.length ∧ i = .int .i64 k ∧ OwnI wr w.heap.size v (jx7 ns at_ k) ∧ Below w.heap.size w wr) (fun _ i _ => ns.length - (intOf i).toNat)
    case atStart => exact ⟨0, Nat.zero_le _, rfl, OwnI.new C, C.alloc C.size _⟩
    case round =>
      clear C; obtain ⟨k, hk, rfl, hO, hB⟩ := hrel; have hsz := hB.size
      by_cases hlt : k < ns.length
      · obtain ⟨c0, c1, c2, c3, c4⟩ := nd_at HC.out hB hlt
        have hyes : (ns.getD k nd0).1 = at_ → jx7 ns at_ (k + 1) = jx7 ns at_ k ++ [(k : Int)] := fun e => jva e
        have hno : ¬ (ns.getD k nd0).1 = at_ → jx7 ns at_ (k + 1) = jx7 ns at_ k := fun e => kidsTo_no e
        have hll := kidsTo_len ns at_ k; generalize ns.getD k nd0 = nd at c0 c1 c2 c3 c4 hyes hno; obtain ⟨x0, x1, x2, x3, x4⟩ := nd; dsimp only at c0 c1 c2 c3 c4 hyes hno; generalize jx7 ns at_ k = ks at hyes hno hll hO
        obtain ⟨Wa, hWa⟩ : ∃ Wa, wr.alloc (.cells #[.int .i64 x0, .int .i64 x1, .int .i64 x2, .int .i64 x3, .int .i64 x4] 133) = Wa := ⟨_, rfl⟩
        have K0 : Blk Wa wr.heap.size 133 #[.int .i64 x0, .int .i64 x1, .int .i64 x2, .int .i64 x3, .int .i64 x4] := by rw [← hWa]; exact Blk.new _ _ _
        have kb0 := K0.cell 0
        dsimp at kb0
        have hOa : OwnI Wa w.heap.size u5 ks := by rw [← hWa]; exact World.ownsRow.alloc hO _
        have hBa : Below w.heap.size w Wa := by rw [← hWa]; exact hB.alloc hsz _
        have hsa := hBa.size; clear hO hB K0
        by_cases hp : x0 = at_
        · have HY := Lib.hid (hyes hp)
          subst hp; clear hyes hno
          go_wp2_with (first | (at_builtin; refine wpList_append_own _ rfl (.tmp 29) (.tmp 31) _ rfl w.heap.size 3 i0 (.int .i64 0) 1 8 Tryz.underlying33 hi0 hz0 hz1 hz2 rfl (by decide) _ _ _ rfl (hOa.alloc _) ⟨Wa.heap.size, 0, none⟩ 1 1 [.int .i64 (k : Int)] rfl rfl (cell_one_new _ _ _) (fun x hx => by simp at hx; subst hx; rfl) (by unfold maxLen; omega) (by omega) (by simp; omega) ?_; intro v3 w3 hown3 hgrow3 hnil3))
          have HR : Hid (OwnI w3 w.heap.size v3 (jx7 ns x0 (k + 1)) ∧ Below w.heap.size w w3) := ⟨by rw [HY.out]; exact OwnI.snoc hown3, (hBa.alloc hsa _).grown hgrow3 (by simp; omega) hOa.grow⟩
          clear hOa hown3 hgrow3 hnil3 hBa hWa kb0
          go_roundw
          case rel => exact ⟨k + 1, by omega, by go_num, HR.out.1, HR.out.2⟩
          case measure => simp [intOf]; omega
        · have HY := Lib.hid (hno hp)
          have eb : (x0 == at_) = false := by simpa using hp
          have HO := Lib.hid hOa; have HB := Lib.hid hBa; clear hyes hno hp hOa hBa; go_wp2_with fail
          go_roundw
          case rel => exact ⟨k + 1, by omega, by go_num, by rw [HY.out]; exact HO.out, HB.out⟩
          case measure => simp [intOf]; omega
      · have HO := Lib.hid hO
        have HB := Lib.hid hB; clear hO hB; go_wp2_with fail; go_ret; exact ⟨_, rfl, by rw [show k = ns.length from by omega] at HO; exact HO.out, HB.out⟩
theorem flatNd_gate : ∀ (ns : List Nd) (k : Nat) (x : Int), k < ns.length → (jx1 ns).set (k * 5 + 1) x = jx1 (ns.set k ((ns.getD k nd0).1, x, (ns.getD k nd0).2.2)) := by
  intro ns
  induction ns with
  | nil => intro k x h; simp at h
  | cons h t ih =>
    intro k x hk
    cases k with
    | zero => rfl
    | succ k =>
      have := ih k x (by simpa using hk); rw [show (k + 1) * 5 + 1 = k * 5 + 1 + 1 + 1 + 1 + 1 + 1 from by omega]
      show h.1 :: h.2.1 :: h.2.2.1 :: h.2.2.2.1 :: h.2.2.2.2 :: ((jx1 t).set (k * 5 + 1) x) = _
      rw [this]; rfl
def sgB (ns : List Nd) (at_ wt : Int) : Bool := vnB ns && inN ns.length at_ && (decide (0 ≤ wt) && decide (wt ≤ 1000))
def sgL (ns : List Nd) (at_ wt : Int) : List Nd := ns.set at_.toNat ((ns.getD at_.toNat nd0).1, wt, (ns.getD at_.toNat nd0).2.2)
theorem gate_no {ns : List Nd} {at_ wt : Int} (h : vnB ns = false ∨ inN ns.length at_ = false ∨ (decide (0 ≤ wt) && decide (wt ≤ 1000)) = false) : sgB ns at_ wt = false := by
 unfold sgB; rcases h with h | h | h <;> rw [h] <;> simp
def OutNd (w : World) (b : Bool) (L : List Nd) (e : Ending) (w' : World) : Prop := (b = false → e = .returned (.slice none 0 0)) ∧ (b = true → ∃ g cap, e = .returned (.slice (some ⟨g, 0, none⟩) L.length cap) ∧ w.heap.size ≤ g ∧ Flat w' g 133 (jx1 L) ∧ L.length ≤ cap) ∧ Below w.heap.size w w'
theorem outNd_no {w w' : World} {L : List Nd} {e : Ending} (he : e = .returned (.slice none 0 0)) (h : Below w.heap.size w w') : OutNd w false L e w' := ⟨fun _ => he, (fun c => by cases c), h⟩
theorem outNd_yes {w w' : World} {L : List Nd} {g cap n : Nat} {e : Ending} (he : e = .returned (.slice (some ⟨g, 0, none⟩) n cap)) (hn : n = L.length) (hg : w.heap.size ≤ g) (hF : Flat w' g 133 (jx1 L)) (hc : L.length ≤ cap) (h : Below w.heap.size w w') : OutNd w true L e w' :=
 ⟨(fun c => by cases c), fun _ => ⟨g, cap, by rw [he, hn], hg, hF, hc⟩, h⟩
theorem flat_newNd {w1 : World} {base : Nat} {v1 : Value} {ns : List Nd} (h : w1.ownsRow base 133 5 v1 (0 + ns.length) ([] ++ jja ns)) (hn : 1 ≤ ns.length) : ∃ g cap, v1 = .slice (some ⟨g, 0, none⟩) ns.length cap ∧ base ≤ g ∧ Flat w1 g 133 (jx1 ns) ∧ ns.length ≤ cap := by
 rw [Nat.zero_add, List.nil_append] at h
 rcases Flat.own (zs := jx1 ns) h with ⟨_, hz⟩ | r
 ·omega
 ·exact r
theorem gate_flat {w : World} {g k : Nat} {ns : List Nd} {x : Int} (hF : Flat w g 133 (jx1 ns)) (hk : k < ns.length) : Flat (w.setCell ⟨g, k * 5 + 1, none⟩ (.int .i64 x)) g 133 (jx1 (sgL ns (k : Int) x)) := by
 have hl := flatNd_len ns; have a := hF.set_ (i := k * 5 + 1) (by omega) x; rw [flatNd_gate ns k x hk] at a; exact a
theorem iSetGate (a : Option Addr) (cap : Nat) (ns : List Nd) (at_ wt : Int) (w : World) (h : IsNd w a ns) (hn : ns.length ≤ 1048576) (hcap : ns.length ≤ cap) :
    Calls Tryz.prog 100 #[.slice a ns.length cap, .int .i64 at_, .int .i64 wt] w (OutNd w (sgB ns at_ wt) (sgL ns at_ wt)) := by
  have VN := iVN a cap ns _ h hn hcap
  have CI := fun W => iisNode a ns.length cap at_ W hn
  skip
  skip
  have CW := fun W => iwithin wt 1000 W
  cases hv : vnB ns with
  | false =>
    rw [gate_no (.inl hv)]; rw [hv] at VN; clear hv h; go_enter Tryz.func100, Tryz.ntmps100; go_wp2_with fail; refine VN.mono ?_; rintro e w1 ⟨rfl, C⟩; go_wp2_with fail; go_ret; exact outNd_no rfl C
  | true =>
  rw [hv] at VN
  cases hi : inN ns.length at_ with
  | false =>
    rw [gate_no (.inr (.inl hi))]; rw [hi] at CI; clear hv hi h; go_enter Tryz.func100, Tryz.ntmps100; go_wp2_with fail; refine VN.mono ?_; rintro e w1 ⟨rfl, C⟩; go_wp2_with fail; refine (CI _).mono ?_; rintro e w' ⟨rfl, rfl⟩; go_wp2_with fail; go_ret; exact outNd_no rfl C
  | true =>
    rw [hi] at CI; have HH := Lib.hid h
    cases hw : (decide (0 ≤ wt) && decide (wt ≤ 1000)) with
    | false =>
      rw [gate_no (.inr (.inr hw))]; rw [hw] at CW; clear hw hi hv h; go_enter Tryz.func100, Tryz.ntmps100; go_wp2_with fail; refine VN.mono ?_; rintro e w1 ⟨rfl, C⟩; go_wp2_with fail; refine (CI _).mono ?_; rintro e w' ⟨rfl, rfl⟩; go_wp2_with fail; refine (CW _).mono ?_; rintro e w' ⟨rfl, rfl⟩; clear VN CI CW; go_wp2_with fail; go_ret; exact outNd_no rfl C
    | true =>
      rw [show sgB ns at_ wt = true from by unfold sgB; rw [hv, hi, hw]; rfl]; rw [hw] at CW; obtain ⟨k, rfl, hk⟩ := inN_yes hi; obtain ⟨i0, hi0, hz0, hz1, hz2⟩ := info_parts infoNd
      have b0 : (0 : Int) ≤ (k : Int) := by omega
      have b1 : (k : Int) < (ns.length : Int) := by omega
      have hl5 := flatNd_len ns; clear hw hi hv h; go_enter Tryz.func100, Tryz.ntmps100; go_wp2_with fail; refine VN.mono ?_; rintro e w1 ⟨rfl, C⟩; go_wp2_with fail; refine (CI _).mono ?_; rintro e w' ⟨rfl, rfl⟩; go_wp2_with fail; refine (CW _).mono ?_; rintro e w' ⟨rfl, rfl⟩; clear VN CI CW; have hrd := (nd_reads (jx8 HH.out C)).alloc (Nat.le_refl _) (.cells #[] 133); have hsz := C.size
      have HB : Hid (∀ W, (w1.alloc (.cells #[] 133)).grownBy W (some w1.heap.size) → Below w.heap.size w W) := fun W hg => (C.alloc hsz _).grown hg (by simp; omega) (fun q hq => by have e : w1.heap.size = q := Option.some.inj hq; omega)
      clear C
      go_wp2_with (first | (at_builtin; refine jq2 _ rfl (.tmp 22) (.tmp 23) _ rfl w.heap.size 133 i0 _ 5 40 Tryz.underlying25 hi0 hz0 hz1 hz2 rfl (by omega) _ 0 [] rfl ⟨rfl, .inr ⟨w1.heap.size, 0, #[], rfl, hsz, Blk.new _ _ _, Nat.le_refl _, by unfold maxLen; omega, rfl, rfl⟩⟩ w1.heap.size a ns.length cap (jja ns) rfl hrd (valsNd_one ns) (by unfold maxLen; omega) (by omega) (by simp; omega) ?_; intro v3 w3 hown3 hgrow3 hat3; obtain ⟨g3, cp, rfl, lg3, F3, hcc⟩ := flat_newNd hown3 (by omega); have kc := F3.cell (j := k * 5 + 1) (by omega); have kf := F3.frozen (k * 5 + 1); have hB3 := HB.out w3 hgrow3; replace F3 := Lib.hid F3; replace hB3 := Lib.hid hB3; clear hown3 hgrow3 hat3 hrd))
      go_ret; exact outNd_yes rfl (by unfold sgL; rw [List.length_set]) lg3 (gate_flat F3.out hk) (by unfold sgL; rw [List.length_set]; exact hcc) (hB3.out.setCell (p := ⟨g3, k * 5 + 1, none⟩) lg3 _)
theorem sSetGate (a : Option Addr) (cap : Nat) (ns : List Nd) (at_ wt : Int) (w : World) (h : IsNd w a ns) (hn : ns.length ≤ 1048576) (hcap : ns.length ≤ cap) :
    Calls Tryz.prog 106 #[.slice a ns.length cap, .int .i64 at_, .int .i64 wt] w (OutNd w (sgB ns at_ wt) (sgL ns at_ wt)) := by
  have VN := svn a cap ns _ h hn
  have CI := fun W => sinRange at_ 0 ((ns.length : Int) - 1) W
  rw [inN_range] at CI
  have wn : IntKind.i64.wrap ((ns.length : Int) - 1) = (ns.length : Int) - 1 := by rw [IntKind.wrap_i64]; omega
  have CW := fun W => sinRange wt 0 1000 W
  cases hv : vnB ns with
  | false =>
    rw [gate_no (.inl hv)]; rw [hv] at VN; clear hv h; go_enter Tryz.func106, Tryz.ntmps106; go_wp2_with fail; refine VN.mono ?_; rintro e w1 ⟨rfl, C⟩; go_wp2_with fail; go_ret; exact outNd_no rfl C
  | true =>
  rw [hv] at VN
  cases hi : inN ns.length at_ with
  | false =>
    rw [gate_no (.inr (.inl hi))]; rw [hi] at CI; clear hv hi h; go_enter Tryz.func106, Tryz.ntmps106; go_wp2_with fail; refine VN.mono ?_; rintro e w1 ⟨rfl, C⟩; go_wp2_with fail; refine (CI _).mono ?_; rintro e w' ⟨rfl, rfl⟩; go_wp2_with fail; go_ret; exact outNd_no rfl C
  | true =>
    rw [hi] at CI; have HH := Lib.hid h
    cases hw : (decide (0 ≤ wt) && decide (wt ≤ 1000)) with
    | false =>
      rw [gate_no (.inr (.inr hw))]; rw [hw] at CW; clear hw hi hv h; go_enter Tryz.func106, Tryz.ntmps106; go_wp2_with fail; refine VN.mono ?_; rintro e w1 ⟨rfl, C⟩; go_wp2_with fail; refine (CI _).mono ?_; rintro e w' ⟨rfl, rfl⟩; go_wp2_with fail; refine (CW _).mono ?_; rintro e w' ⟨rfl, rfl⟩; clear VN CI CW; go_wp2_with fail; go_ret; exact outNd_no rfl C
    | true =>
      rw [show sgB ns at_ wt = true from by unfold sgB; rw [hv, hi, hw]; rfl]; rw [hw] at CW; obtain ⟨k, rfl, hk⟩ := inN_yes hi; obtain ⟨i0, hi0, hz0, hz1, hz2⟩ := info_parts infoNd
      have b0 : (0 : Int) ≤ (k : Int) := by omega
      have b1 : (k : Int) < (ns.length : Int) := by omega
      have hl5 := flatNd_len ns; clear hw hi hv h; go_enter Tryz.func106, Tryz.ntmps106; go_wp2_with fail; refine VN.mono ?_; rintro e w1 ⟨rfl, C⟩; go_wp2_with fail; refine (CI _).mono ?_; rintro e w' ⟨rfl, rfl⟩; go_wp2_with fail; refine (CW _).mono ?_; rintro e w' ⟨rfl, rfl⟩; clear VN CI CW; have hrd := (nd_reads (jx8 HH.out C)).alloc (Nat.le_refl _) (.cells #[] 133); have hsz := C.size
      have HB : Hid (∀ W, (w1.alloc (.cells #[] 133)).grownBy W (some w1.heap.size) → Below w.heap.size w W) := fun W hg => (C.alloc hsz _).grown hg (by simp; omega) (fun q hq => by have e : w1.heap.size = q := Option.some.inj hq; omega)
      clear C
      go_wp2_with (first | (at_builtin; refine jq2 _ rfl (.tmp 24) (.tmp 25) _ rfl w.heap.size 133 i0 _ 5 40 Tryz.underlying25 hi0 hz0 hz1 hz2 rfl (by omega) _ 0 [] rfl ⟨rfl, .inr ⟨w1.heap.size, 0, #[], rfl, hsz, Blk.new _ _ _, Nat.le_refl _, by unfold maxLen; omega, rfl, rfl⟩⟩ w1.heap.size a ns.length cap (jja ns) rfl hrd (valsNd_one ns) (by unfold maxLen; omega) (by omega) (by simp; omega) ?_; intro v3 w3 hown3 hgrow3 hat3; obtain ⟨g3, cp, rfl, lg3, F3, hcc⟩ := flat_newNd hown3 (by omega); have kc := F3.cell (j := k * 5 + 1) (by omega); have kf := F3.frozen (k * 5 + 1); have hB3 := HB.out w3 hgrow3; replace F3 := Lib.hid F3; replace hB3 := Lib.hid hB3; clear hown3 hgrow3 hat3 hrd))
      go_ret; exact outNd_yes rfl (by unfold sgL; rw [List.length_set]) lg3 (gate_flat F3.out hk) (by unfold sgL; rw [List.length_set]; exact hcc) (hB3.out.setCell (p := ⟨g3, k * 5 + 1, none⟩) lg3 _)
end Go.Proofs.YtaehemmjemhgpabGreat
