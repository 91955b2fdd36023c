/- Contracts and facts of functions of this program, in build order. Conditions: those stated in each. -/
import Derived.Test.YtclpbbhhaclgbaaPkFnTurnsFord
import Derived.BigRegion
import Derived.Maps.AppendAt
import Derived.Deep.AppendLies
import Derived.Deep.RegionHeld3
import Derived.Deep.DeepCutAuto
namespace Go.Proofs.Ytclpbbhhaclgbaa
open Go.RowKit
set_option linter.unusedSimpArgs false
set_option linter.unusedVariables false

theorem flatTn_set : ∀ (ts : List Tn) (k : Nat) (x : Tn), k < ts.length → ((flatTn ts).set (k * 2) x.1).set (k * 2 + 1) x.2 = flatTn (ts.set k x) := by
  intro ts
  induction ts with
  | nil => intro k x h; simp at h
  | cons h t ih =>
    intro k x hk
    cases k with
    | zero => rfl
    | succ k =>
      have := ih k x (by simpa using hk)
      rw [show (k + 1) * 2 = k * 2 + 1 + 1 from by omega]
      show h.1 :: h.2 :: ((flatTn t).set (k * 2) x.1).set (k * 2 + 1) x.2 = _
      rw [this]; rfl
/-- what a function that hands back turns leaves: nil, or turns in memory of its own -/
def OutTn (w : World) (b : Bool) (L : List Tn) (e : Ending) (w' : World) : Prop := (b = false → e = .returned (.slice none 0 0)) ∧ (b = true → ∃ g cap, e = .returned (.slice (some ⟨g, 0, none⟩) L.length cap) ∧ w.heap.size ≤ g ∧ Flat w' g 84 (flatTn L) ∧ L.length ≤ cap) ∧ Below w.heap.size w w'
theorem out_no {w w' : World} {L : List Tn} {e : Ending} (he : e = .returned (.slice none 0 0)) (h : Below w.heap.size w w') : OutTn w false L e w' := ⟨fun _ => he, (fun c => by cases c), h⟩
theorem out_yes {w w' : World} {L : List Tn} {g cap n : Nat} {e : Ending} (he : e = .returned (.slice (some ⟨g, 0, none⟩) n cap)) (hn : n = L.length) (hg : w.heap.size ≤ g) (hF : Flat w' g 84 (flatTn L)) (hc : L.length ≤ cap) (h : Below w.heap.size w w') : OutTn w true L e w' := ⟨(fun c => by cases c), fun _ => ⟨g, cap, by rw [he, hn], hg, hF, hc⟩, h⟩
def inB (ts : List Tn) (i : Int) : Bool := decide (0 ≤ i) && decide (i < (ts.length : Int))
def swB (ts : List Tn) (i k : Int) : Bool := vtB ts && inB ts i && inB ts k
def swL (ts : List Tn) (i k : Int) : List Tn := (ts.set i.toNat (ts.getD k.toNat tn0)).set k.toNat (ts.getD i.toNat tn0)
theorem in_no {ts : List Tn} {i : Int} (h : inB ts i = false) : i < 0 ∨ (ts.length : Int) - 1 < i := by
  have : ¬ (0 ≤ i ∧ i < (ts.length : Int)) := fun c => by unfold inB at h; rw [decide_eq_true c.1, decide_eq_true c.2] at h; cases h
  omega
theorem in_yes {ts : List Tn} {i : Int} (h : inB ts i = true) : ∃ k : Nat, i = (k : Int) ∧ k < ts.length := by
  unfold inB at h
  simp only [Bool.and_eq_true, decide_eq_true_eq] at h
  exact ⟨i.toNat, by omega, by omega⟩
theorem swB_no {ts : List Tn} {i k : Int} (h : vtB ts = false ∨ inB ts i = false ∨ inB ts k = false) : swB ts i k = false := by
  unfold swB
  rcases h with h | h | h <;> rw [h] <;> simp
/-- a copy by append to an empty slice of its own -/
theorem flat_new {w1 : World} {base : Nat} {v1 : Value} {ts : List Tn} (h : w1.ownsRow base 84 2 v1 (0 + ts.length) ([] ++ valsTn ts)) (hn : 1 ≤ ts.length) : ∃ g cap, v1 = .slice (some ⟨g, 0, none⟩) ts.length cap ∧ base ≤ g ∧ Flat w1 g 84 (flatTn ts) ∧ ts.length ≤ cap := by
  rw [Nat.zero_add, List.nil_append] at h
  rcases Flat.own (zs := flatTn ts) h with ⟨_, hz⟩ | r
  · omega
  · exact r
/-- two stores of turns -/
theorem swapped {w1 : World} {g i k : Nat} {ts : List Tn} {x y : Tn} (hF : Flat w1 g 84 (flatTn ts)) (hi : i < ts.length) (hk : k < ts.length) :
    Flat ((w1.setCell ⟨g, i * 2, none⟩ (.int .i64 x.1)).setCell ⟨g, i * 2 + 1, none⟩ (.int .i64 x.2)) g 84 (flatTn (ts.set i x)) ∧
    Flat ((((w1.setCell ⟨g, i * 2, none⟩ (.int .i64 x.1)).setCell ⟨g, i * 2 + 1, none⟩ (.int .i64 x.2)).setCell ⟨g, k * 2, none⟩ (.int .i64 y.1)).setCell ⟨g, k * 2 + 1, none⟩ (.int .i64 y.2)) g 84 (flatTn ((ts.set i x).set k y)) := by
  have hl := flatTn_len ts
  have a := (hF.set_ (i := i * 2) (by omega) x.1).set_ (i := i * 2 + 1) (by rw [List.length_set]; omega) x.2
  rw [flatTn_set ts i x hi] at a
  have hl2 := flatTn_len (ts.set i x)
  rw [List.length_set] at hl2
  have b := (a.set_ (i := k * 2) (by omega) y.1).set_ (i := k * 2 + 1) (by rw [List.length_set]; omega) y.2
  rw [flatTn_set (ts.set i x) k y (by rw [List.length_set]; exact hk)] at b
  exact ⟨a, b⟩
/-- all that the walk of an exchange wants behind its copy -/
theorem swap_facts {w W w2 : World} {g0 o i k : Nat} {ts : List Tn} {v2 : Value} (hB : Below w.heap.size w W)
    (hc : ∀ i, i < ts.length → w.cell? ⟨g0, o + i * 2, none⟩ = some (.int .i64 (ts.getD i tn0).1) ∧ w.cell? ⟨g0, o + i * 2 + 1, none⟩ = some (.int .i64 (ts.getD i tn0).2))
    (hown : w2.ownsRow W.heap.size 84 2 v2 (0 + ts.length) ([] ++ valsTn ts)) (hg : (W.alloc (.cells #[] 84)).grownBy w2 (some W.heap.size)) (hi : i < ts.length) (hk : k < ts.length) :
    ∃ (g cp : Nat) (x0 x1 y0 y1 q0 q1 q2 q3 : Int), v2 = .slice (some ⟨g, 0, none⟩) ts.length cp ∧ w.heap.size ≤ g ∧ ts.length ≤ cp ∧
      w2.cell? ⟨g0, o + k * 2, none⟩ = some (.int .i64 x0) ∧ w2.cell? ⟨g0, o + k * 2 + 1, none⟩ = some (.int .i64 x1) ∧
      ((w2.setCell ⟨g, i * 2, none⟩ (.int .i64 x0)).setCell ⟨g, i * 2 + 1, none⟩ (.int .i64 x1)).cell? ⟨g0, o + i * 2, none⟩ = some (.int .i64 y0) ∧ ((w2.setCell ⟨g, i * 2, none⟩ (.int .i64 x0)).setCell ⟨g, i * 2 + 1, none⟩ (.int .i64 x1)).cell? ⟨g0, o + i * 2 + 1, none⟩ = some (.int .i64 y1) ∧
      w2.cell? ⟨g, i * 2, none⟩ = some (.int .i64 q0) ∧ w2.cell? ⟨g, i * 2 + 1, none⟩ = some (.int .i64 q1) ∧
      ((w2.setCell ⟨g, i * 2, none⟩ (.int .i64 x0)).setCell ⟨g, i * 2 + 1, none⟩ (.int .i64 x1)).cell? ⟨g, k * 2, none⟩ = some (.int .i64 q2) ∧ ((w2.setCell ⟨g, i * 2, none⟩ (.int .i64 x0)).setCell ⟨g, i * 2 + 1, none⟩ (.int .i64 x1)).cell? ⟨g, k * 2 + 1, none⟩ = some (.int .i64 q3) ∧
      w2.frozen? ⟨g, i * 2, none⟩ = false ∧ w2.frozen? ⟨g, i * 2 + 1, none⟩ = false ∧
      ((w2.setCell ⟨g, i * 2, none⟩ (.int .i64 x0)).setCell ⟨g, i * 2 + 1, none⟩ (.int .i64 x1)).frozen? ⟨g, k * 2, none⟩ = false ∧ ((w2.setCell ⟨g, i * 2, none⟩ (.int .i64 x0)).setCell ⟨g, i * 2 + 1, none⟩ (.int .i64 x1)).frozen? ⟨g, k * 2 + 1, none⟩ = false ∧
      Flat ((((w2.setCell ⟨g, i * 2, none⟩ (.int .i64 x0)).setCell ⟨g, i * 2 + 1, none⟩ (.int .i64 x1)).setCell ⟨g, k * 2, none⟩ (.int .i64 y0)).setCell ⟨g, k * 2 + 1, none⟩ (.int .i64 y1)) g 84 (flatTn ((ts.set i (ts.getD k tn0)).set k (ts.getD i tn0))) ∧
      Below w.heap.size w ((((w2.setCell ⟨g, i * 2, none⟩ (.int .i64 x0)).setCell ⟨g, i * 2 + 1, none⟩ (.int .i64 x1)).setCell ⟨g, k * 2, none⟩ (.int .i64 y0)).setCell ⟨g, k * 2 + 1, none⟩ (.int .i64 y1)) := by
  obtain ⟨g, cp, rfl, lg, F2, hcc⟩ := flat_new hown (by omega)
  have hsz := hB.size
  have lg2 : w.heap.size ≤ g := by omega
  have hB2 : Below w.heap.size w w2 := (hB.alloc hB.size _).grown hg (by simp; omega) (fun q hq => by have e : W.heap.size = q := Option.some.inj hq; omega)
  obtain ⟨F3, F4⟩ := swapped (x := ts.getD k tn0) (y := ts.getD i tn0) F2 hi hk
  have hB3 := (hB2.setCell (p := ⟨g, i * 2, none⟩) lg2 (.int .i64 (ts.getD k tn0).1)).setCell (p := ⟨g, i * 2 + 1, none⟩) lg2 (.int .i64 (ts.getD k tn0).2)
  have hB4 := (hB3.setCell (p := ⟨g, k * 2, none⟩) lg2 (.int .i64 (ts.getD i tn0).1)).setCell (p := ⟨g, k * 2 + 1, none⟩) lg2 (.int .i64 (ts.getD i tn0).2)
  obtain ⟨c0, c1⟩ := tn_at hc hB2 hk
  obtain ⟨d0, d1⟩ := tn_at hc hB3 hi
  have l2 := flatTn_len ts
  have l3 := flatTn_len (ts.set i (ts.getD k tn0))
  rw [List.length_set] at l3
  exact ⟨g, cp, _, _, _, _, _, _, _, _, rfl, lg2, hcc, c0, c1, d0, d1, F2.cell (j := i * 2) (by omega), F2.cell (j := i * 2 + 1) (by omega), F3.cell (j := k * 2) (by omega), F3.cell (j := k * 2 + 1) (by omega), F2.frozen _, F2.frozen _, F3.frozen _, F3.frozen _, F4, hB4⟩

end Go.Proofs.Ytclpbbhhaclgbaa

namespace Go.Proofs.Ytclpbbhhaclgbaa
open Go.RowKit
set_option linter.unusedSimpArgs false
set_option linter.unusedVariables false

def tfTo (hs : List Hd) (gs : List Int) : Nat → List Tn
  | 0 => []
  | k + 1 => if 0 < gs.getD k 0 then tfTo hs gs k ++ [((hs.getD k hd0).1, gs.getD k 0)] else tfTo hs gs k
theorem tfTo_yes {hs : List Hd} {gs : List Int} {k : Nat} (h : 0 < gs.getD k 0) : tfTo hs gs (k + 1) = tfTo hs gs k ++ [((hs.getD k hd0).1, gs.getD k 0)] := if_pos h
theorem tfTo_no {hs : List Hd} {gs : List Int} {k : Nat} (h : ¬ 0 < gs.getD k 0) : tfTo hs gs (k + 1) = tfTo hs gs k := if_neg h
theorem tfTo_len (hs : List Hd) (gs : List Int) : ∀ k, (tfTo hs gs k).length ≤ k := by
  intro k
  induction k with
  | zero => exact Nat.le_refl _
  | succ k ih =>
    by_cases h : 0 < gs.getD k 0
    · rw [tfTo_yes h, List.length_append]; show _ + 1 ≤ _; omega
    · rw [tfTo_no h]; omega
theorem tfTo_some (hs : List Hd) (gs : List Int) : ∀ k, (∃ j, j < k ∧ 0 < gs.getD j 0) → 0 < (tfTo hs gs k).length := by
  intro k
  induction k with
  | zero => rintro ⟨j, h, _⟩; omega
  | succ k ih =>
    rintro ⟨j, h, hj⟩
    by_cases c : 0 < gs.getD k 0
    · rw [tfTo_yes c, List.length_append]; show 0 < _ + 1; omega
    · rw [tfTo_no c]
      refine ih ⟨j, ?_, hj⟩
      by_cases e : j = k
      · subst e; exact absurd hj c
      · omega
theorem sum_pos_at : ∀ l : List Int, 0 < l.sum → ∃ j, j < l.length ∧ 0 < l.getD j 0 := by
  intro l
  induction l with
  | nil => intro h; simp at h
  | cons z t ih =>
    intro h
    rw [List.sum_cons] at h
    by_cases c : 0 < z
    · exact ⟨0, by simp, c⟩
    · obtain ⟨j, a, b⟩ := ih (by omega)
      exact ⟨j + 1, by simpa using a, b⟩
def tfB (hs : List Hd) (n : Int) : Bool := decide (cdR hs ≠ -1) && (decide (1 ≤ n) && decide (n ≤ 336)) && vwB (unR hs)
def tfL (hs : List Hd) (n : Int) : List Tn := tfTo hs (sr n (unR hs)) hs.length
theorem tf_no {hs : List Hd} {n : Int} (h : cdR hs = -1 ∨ (n < 1 ∨ 336 < n) ∨ vwB (unR hs) = false) : tfB hs n = false := by
  unfold tfB
  rcases h with h | h | h
  · rw [h]; rfl
  · rcases h with h | h
    · rw [decide_eq_false (by omega : ¬ 1 ≤ n)]; simp
    · rw [decide_eq_false (by omega : ¬ n ≤ 336)]; simp
  · rw [h]; simp
theorem tf_yes {hs : List Hd} {n : Int} (h1 : cdR hs ≠ -1) (h2 : 1 ≤ n) (h3 : n ≤ 336) (h4 : vwB (unR hs) = true) : tfB hs n = true := by
  unfold tfB; rw [h4, decide_eq_true h1, decide_eq_true h2, decide_eq_true h3]; rfl
theorem tf_cs {hs : List Hd} {n : Int} (h2 : 1 ≤ n) (h3 : n ≤ 336) (h4 : vwB (unR hs) = true) : csB n (unR hs) = true := by
  unfold csB; rw [h4, decide_eq_true (by omega : 0 ≤ n), decide_eq_true (by omega : n ≤ 500)]; rfl
theorem tf_some {hs : List Hd} {n : Int} (h2 : 1 ≤ n) (hc : csB n (unR hs) = true) : 0 < (tfL hs n).length := by
  obtain ⟨j, a, b⟩ := sum_pos_at (sr n (unR hs)) (by rw [sr_sum hc]; omega)
  rw [sr_len, un_len] at a
  exact tfTo_some _ _ _ ⟨j, a, b⟩
theorem tf_len (hs : List Hd) (n : Int) : (tfL hs n).length ≤ hs.length := tfTo_len _ _ _
/-- what TurnsFor leaves: nil and false, or turns in memory of its own and true -/
def OutTT (w : World) (b : Bool) (L : List Tn) (e : Ending) (w' : World) : Prop := (b = false → e = .returned (.tuple #[.slice none 0 0, .bool false])) ∧ (b = true → ∃ g cap, e = .returned (.tuple #[.slice (some ⟨g, 0, none⟩) L.length cap, .bool true]) ∧ w.heap.size ≤ g ∧ Flat w' g 84 (flatTn L) ∧ L.length ≤ cap) ∧ Below w.heap.size w w'
theorem tt_no {w w' : World} {L : List Tn} {e : Ending} (he : e = .returned (.tuple #[.slice none 0 0, .bool false])) (h : Below w.heap.size w w') : OutTT w false L e w' := ⟨fun _ => he, (fun c => by cases c), h⟩
theorem tt_yes {w w' : World} {L : List Tn} {g cap n : Nat} {e : Ending} (he : e = .returned (.tuple #[.slice (some ⟨g, 0, none⟩) n cap, .bool true])) (hn : n = L.length) (hg : w.heap.size ≤ g) (hF : Flat w' g 84 (flatTn L)) (hc : L.length ≤ cap) (h : Below w.heap.size w w') : OutTT w true L e w' := ⟨(fun c => by cases c), fun _ => ⟨g, cap, by rw [he, hn], hg, hF, hc⟩, h⟩
theorem own_nextT {w w' : World} {base n : Nat} {v : Value} {xs : List Value} (h : w.ownsRow base 84 2 v n xs) (hb : Below w.heap.size w w') : w'.ownsRow base 84 2 v n xs := by
  refine ⟨h.1, ?_⟩
  rcases h.2 with h0 | ⟨g, cap, cur, a, b, c, d⟩
  · exact .inl h0
  · refine .inr ⟨g, cap, cur, a, b, ?_, d⟩
    have hg : g < w.heap.size := (World.ownsRow.lt h g (by rw [a]; rfl)).2
    rw [hb.block g hg]; exact c
theorem own_unitsT {w : World} {base : Nat} {v : Value} {hs : List Hd} (h : w.ownsRow base 3 1 v hs.length ((unR hs).map (Value.int .i64))) : ∃ (b : Option Addr) (cap : Nat), v = .slice b hs.length cap ∧ IsInts w b (unR hs) := by
  have hl := un_len hs
  rw [← hl] at h
  obtain ⟨b, cap, e, i⟩ := own_ints h
  exact ⟨b, cap, by rw [e, hl], i⟩
theorem hs_at {w wr : World} {g o : Nat} {hs : List Hd} (h : ∀ i, i < hs.length → w.cell? ⟨g, o + i * 3, none⟩ = some (.int .i64 (hs.getD i hd0).1) ∧ w.cell? ⟨g, o + i * 3 + 1, none⟩ = some (.int .i64 (hs.getD i hd0).2.1) ∧ w.cell? ⟨g, o + i * 3 + 2, none⟩ = some (.int .i64 (hs.getD i hd0).2.2)) (hB : Below w.heap.size w wr) {k : Nat} (hk : k < hs.length) : wr.cell? ⟨g, o + k * 3, none⟩ = some (.int .i64 (hs.getD k hd0).1) :=
  (hB.cell (p := ⟨g, o + k * 3, none⟩) (World.block_lt_of_cell? w _ (h k hk).1)).trans (h k hk).1
end Go.Proofs.Ytclpbbhhaclgbaa
namespace Go.Proofs.Ytclpbbhhaclgbaa
open Go.RowKit

theorem row_set {w : World} {g : Nat} {zs : List Int} (h : Row w g zs) (k : Nat) (z : Int) (hk : k < zs.length) : Row (w.setCell ⟨g, k, none⟩ (.int .i64 z)) g (zs.set k z) := by
  unfold Row at *
  rw [List.length_set]
  exact (World.rowIs.set h k (.int .i64 z)).congr (fun j hj => by
    show (if j = k then Value.int .i64 z else .int .i64 (zs.getD j 0)) = _
    rw [getD_set _ _ _ hk]; split <;> rfl)
theorem row_skip {w : World} {g g' : Nat} {zs : List Int} (h : Row w g zs) (k : Nat) (v : Value) (hne : g' ≠ g) : Row (w.setCell ⟨g', k, none⟩ v) g zs :=
  World.rowIs.of_block h (Below.heap_setCell w ⟨g', k, none⟩ v g (fun e => by first | exact hne e | exact hne e.symm))
theorem pickB_at (R : Nat → Nat → Bool) {k n : Nat} (h : k < n) : pickB R k < n := by
  by_cases h0 : k = 0
  · subst h0; exact h
  · exact Nat.lt_trans (pickB_lt' (by omega)) h

/-- impl.greatestOf -/
theorem igreat (a : Option Addr) (cap : Nat) (zs : List Int) (w : World) (h : IsInts w a zs) (hn : zs.length ≤ 1048576) :
    Calls Try.prog 103 #[.slice a zs.length cap] w fun e w' => e = .returned (.int .i64 (pickB (moreB zs) zs.length : Nat)) ∧ Below w.heap.size w w' := by
  rcases h with rfl | ⟨g, o, rfl, hc⟩
  · go_enter Try.func103, Try.ntmps103
    go_wp2_with fail
    refine wp_loop_rounds 1 ?_
    rw [rounds_succ]
    go_wp2_with fail
    go_ret
    exact ⟨rfl, Below.refl _ _⟩
  · have HC := Lib.hid hc
    clear hc
    go_enter Try.func103, Try.ntmps103
    go_wp2_with fail
    go_loopw [3, 7] (fun b i wr => ∃ k : Nat, k ≤ zs.length ∧ i = .int .i64 k ∧ b = .int .i64 (pickB (moreB zs) k : Nat) ∧ Below w.heap.size w wr) (fun _ i _ => zs.length - (intOf i).toNat)
    case atStart => exact ⟨0, Nat.zero_le _, rfl, rfl, Below.refl _ _⟩
    case round =>
      obtain ⟨k, hk, rfl, rfl, hB⟩ := hrel
      by_cases hlt : k < zs.length
      · have hb := pickB_at (moreB zs) hlt
        have hc := (hB.cell (p := ⟨g, o + k, none⟩) (World.block_lt_of_cell? w _ (HC.out k hlt))).trans (HC.out k hlt)
        have hd := (hB.cell (p := ⟨g, o + pickB (moreB zs) k, none⟩) (World.block_lt_of_cell? w _ (HC.out _ hb))).trans (HC.out _ hb)
        have hs := pickB_succ (moreB zs) k
        have hm : moreB zs k (pickB (moreB zs) k) = decide (zs.getD k 0 > zs.getD (pickB (moreB zs) k) 0) := rfl
        rw [hm] at hs
        clear hm
        generalize pickB (moreB zs) k = b at hb hd hs
        generalize zs.getD k 0 = x at hc hs
        generalize zs.getD b 0 = y at hd hs
        have i0 : (0 : Int) ≤ (k : Int) := by omega
        have i1 : (k : Int) < (zs.length : Int) := by omega
        have i2 : (0 : Int) ≤ (b : Int) := by omega
        have i3 : (b : Int) < (zs.length : Int) := by omega
        by_cases hxy : y < x
        · have hs' : pickB (moreB zs) (k + 1) = k := by rw [hs]; simp [hxy]
          have HS := Lib.hid hs'
          clear hs hs'
          go_wp2_with fail
          go_quiet (fail)
          go_wp2
          go_roundw
          case rel => exact ⟨k + 1, by omega, by go_num, by rw [HS.out], below_drewN hB _⟩
          case measure => simp [intOf]; omega
        · have hs' : pickB (moreB zs) (k + 1) = b := by rw [hs]; simp; omega
          have HS := Lib.hid hs'
          clear hs hs'
          go_wp2_with fail
          go_quiet (fail)
          go_wp2
          go_roundw
          case rel => exact ⟨k + 1, by omega, by go_num, by rw [HS.out], below_drewN hB _⟩
          case measure => simp [intOf]; omega
      · have e : k = zs.length := by omega
        subst e
        go_wp2_with fail
        go_ret
        exact ⟨rfl, hB⟩
/-- what a division leaves -/
def Divd (m : Nat) (R : List Int) (w : World) (e : Ending) (w' : World) : Prop := ∃ g : Nat, e = .returned (.slice (some ⟨g, 0, none⟩) m m) ∧ w.heap.size ≤ g ∧ Row w' g R ∧ Below w.heap.size w w'

theorem irest_no (n : Int) (a : Option Addr) (cap : Nat) (ws : List Int) (w : World) (h : IsInts w a ws) (hn : ws.length ≤ 1048576) (hcs : csB n ws = false) :
    Calls Try.prog 67 #[.int .i64 n, .slice a ws.length cap] w fun e w' => e = .returned (.slice none 0 0) ∧ w = w' := by
  go_enter Try.func67, Try.ntmps67
  go_wp2_with fail
  refine (icanSplit n a cap ws _ h hn).mono ?_
  rintro e w' ⟨rfl, rfl⟩
  go_wp2_with fail
  go_ret
  exact ⟨rfl, rfl⟩
theorem isumN (m : Nat) (a : Option Addr) (cap : Nat) (zs : List Int) (w : World) (hl : zs.length = m) (h : IsInts w a zs) (hn : m ≤ 1048576) (hz : ∀ z ∈ zs, -1000000 ≤ z ∧ z ≤ 1000000) :
    Calls Try.prog 100 #[.slice a m cap] w fun e w' => e = .returned (.int .i64 zs.sum) ∧ w = w' := by
  subst hl; exact isum a cap zs w h hn hz
theorem igreatN (m : Nat) (a : Option Addr) (cap : Nat) (zs : List Int) (w : World) (hl : zs.length = m) (h : IsInts w a zs) (hn : m ≤ 1048576) :
    Calls Try.prog 103 #[.slice a m cap] w fun e w' => e = .returned (.int .i64 (pickB (moreB zs) m : Nat)) ∧ Below w.heap.size w w' := by
  subst hl; exact igreat a cap zs w h hn
theorem r_bd {n : Int} {ws : List Int} (h : csB n ws = true) {k : Nat} (hk : k < ws.length) : 0 ≤ n * ws.getD k 0 ∧ n * ws.getD k 0 ≤ 500000 := (q_bd h hk).2.2
set_option maxHeartbeats 2000000 in
theorem irest (n : Int) (a : Option Addr) (cap : Nat) (ws : List Int) (w : World) (h : IsInts w a ws) (hn : ws.length ≤ 1048576) (hcs : csB n ws = true) :
    Calls Try.prog 67 #[.int .i64 n, .slice a ws.length cap] w (Divd ws.length (sr n ws) w) := by
  obtain ⟨⟨n0, n1⟩, hv⟩ := cs_yes hcs
  have h0 := h
  rcases h with rfl | ⟨g, o, rfl, hc⟩
  · exact absurd (vw_is hv).2.2 (by simp)
  · have hmk := run_make_row' (P := Try.prog) 27 3 (.int .i64 0) 8 Try.underlying27 infoInt rfl .i64 .i64 ws.length (by omega) (by omega)
    obtain ⟨s0, s1⟩ := ws_bd hv
    have l12 := (vw_is hv).2.1
    have HZ := Lib.hid (all_bd (vw_is hv).1 (by omega))
    have HC := Lib.hid hc
    have HK := Lib.hid hcs
    have H0 := Lib.hid h0
    clear hc hv
    go_enter Try.func67, Try.ntmps67
    go_wp2_with fail
    refine (icanSplit n _ cap ws _ h0 hn).mono ?_
    rintro e w' ⟨rfl, rfl⟩
    go_wp2_with fail
    refine (isum _ cap ws _ h0 hn HZ.out).mono ?_
    rintro e w' ⟨rfl, rfl⟩
    go_wp2_with fail
    clear hmk hcs h0
    go_loopw [23] (fun i wr => ∃ k : Nat, k ≤ ws.length ∧ i = .int .i64 k ∧ wr.rowIs w.heap.size 3 ws.length (fun j => if j < k then .int .i64 ((rsts n ws).getD j 0) else .int .i64 0) ∧ Below w.heap.size w wr) (fun i _ => ws.length - (intOf i).toNat)
    case atStart => exact ⟨0, Nat.zero_le _, rfl, (World.rowIs_made w (.int .i64 0) ws.length _).congr (fun i hi => by simp), by go_grown⟩
    case round =>
      obtain ⟨k, hk, rfl, hrow, hB⟩ := hrel
      by_cases hlt : k < ws.length
      · have hc0 := HC.out k hlt
        have hc := (hB.cell (p := ⟨g, o + k, none⟩) (World.block_lt_of_cell? w _ hc0)).trans hc0
        have hd : wr.cell? ⟨w.heap.size, k, none⟩ = some (.int .i64 0) := by rw [hrow.cell hlt, if_neg (Nat.lt_irrefl k)]
        have hf := hrow.frozen k
        have hcon : ∀ z : Int, (rsts n ws).getD k 0 = z → (wr.setCell ⟨w.heap.size, k, none⟩ (.int .i64 z)).rowIs w.heap.size 3 ws.length (fun j => if j < k + 1 then .int .i64 ((rsts n ws).getD j 0) else .int .i64 0) := fun z hz =>
          (hrow.set k (.int .i64 z)).congr (fun j hj => by
            show (if j = k then Value.int .i64 z else if j < k then .int .i64 ((rsts n ws).getD j 0) else .int .i64 0) = _
            by_cases hjk : j = k
            · subst hjk; rw [if_pos rfl, if_pos (by omega), hz]
            · rw [if_neg hjk]
              by_cases hl : j < k
              · rw [if_pos hl, if_pos (by omega)]
              · rw [if_neg hl, if_neg (by omega)])
        have hcon2 := hcon _ (rsts_get n ws hlt)
        obtain ⟨z0, z1, z2, z3⟩ := q_bd HK.out hlt
        clear hcon hc0
        generalize ws.getD k 0 = z at hc hcon2 z0 z1 z2 z3
        have HR := Lib.hid hcon2
        have HB := Lib.hid hB
        clear hcon2 hrow hB
        go_wp2
        go_roundw
        case rel => exact ⟨k + 1, by omega, by go_num, HR.out, HB.out.setCell (Nat.le_refl _) _⟩
        case measure => simp [intOf]; omega
      · have R0 : Row wr w.heap.size (rsts n ws) := by
          unfold Row
          rw [rsts_len]
          exact hrow.congr (fun i hi => by rw [if_pos (by omega)])
        have hi := ints_below H0.out hB
        clear hrow
        obtain ⟨q0, q1⟩ := q_sum HK.out
        have hql := qs_len n ws
        have hqb : ∀ z ∈ qs n ws, -1000000 ≤ z ∧ z ≤ 1000000 := fun z hz => by
          obtain ⟨i, hi, rfl⟩ := List.getElem_of_mem hz
          have := q_le HK.out (i := i) (by omega)
          rw [List.getD_eq_getElem?_getD, List.getElem?_eq_getElem hi] at this
          simp at this; omega
        have HQ := Lib.hid hqb
        have HI := Lib.hid hi
        have HR0 := Lib.hid R0
        have HB := Lib.hid hB
        clear hqb hi R0 hB hk
        go_wp2_with fail
        refine (iquot n _ cap ws _ HI.out hn HK.out).mono ?_
        rintro e w2 ⟨g2, rfl, lg, Rg, Bg⟩
        have hne : g2 ≠ w.heap.size := by have := World.rowIs.lt HR0.out; omega
        have B2 := bel_tr HB.out Bg
        have lg2 : w.heap.size ≤ g2 := Nat.le_trans HB.out.size lg
        have R2 := row_keep HR0.out Bg
        clear Bg HR0 HB HI
        go_wp2_with fail
        refine (isumN ws.length _ _ (qs n ws) _ hql (row_ints Rg) hn HQ.out).mono ?_
        rintro e w' ⟨rfl, rfl⟩
        have hl := left_is HK.out
        have HRg := Lib.hid Rg
        have HR2 := Lib.hid R2
        have HB2 := Lib.hid B2
        clear Rg R2 B2
        go_wp2_with fail
        go_loopw [10] (fun l wr => ∃ j : Nat, j ≤ leftOf n ws ∧ l = .int .i64 ((leftOf n ws : Int) - j) ∧ Row wr g2 (restTo n ws j).1 ∧ Row wr w.heap.size (restTo n ws j).2 ∧ Below w.heap.size w wr) (fun l _ => (intOf l).toNat)
        case atStart => exact ⟨0, Nat.zero_le _, by rw [hl]; go_num, HRg.out, HR2.out, HB2.out⟩
        case round =>
          obtain ⟨j, hj, rfl, RG, RD, hB⟩ := hrel
          by_cases hjl : j < leftOf n ws
          · have RJ := rest_is HK.out j hj
            obtain ⟨hb, hpos⟩ := rest_best HK.out RJ hjl
            have hy : 0 ≤ (restTo n ws j).1.getD (pickB (moreB (restTo n ws j).2) ws.length) 0 ∧ (restTo n ws j).1.getD (pickB (moreB (restTo n ws j).2) ws.length) 0 ≤ 500001 := by
              have := q_le HK.out hb
              rcases RJ.each _ hb with h | h <;> omega
            obtain ⟨lG, lD⟩ := restTo_len n ws j
            have e1 := restTo_succ1 n ws j
            have e2 := restTo_succ2 n ws j
            obtain ⟨G', hG'⟩ : ∃ G', (restTo n ws (j + 1)).1 = G' := ⟨_, rfl⟩
            obtain ⟨D', hD'⟩ : ∃ D', (restTo n ws (j + 1)).2 = D' := ⟨_, rfl⟩
            rw [hG'] at e1
            rw [hD'] at e2
            have HGD := Lib.hid (And.intro hG' hD')
            clear hG' hD'
            generalize (restTo n ws j).1 = G at *
            generalize (restTo n ws j).2 = D at *
            clear RJ hpos
            have HRG := Lib.hid RG
            have HRD := Lib.hid RD
            have HB := Lib.hid hB
            have HE := Lib.hid (And.intro e1 e2)
            clear RG RD hB e1 e2
            go_wp2_with fail
            refine (igreatN ws.length _ _ D _ lD (row_ints HRD.out) hn).mono ?_
            rintro e w3 ⟨rfl, B3⟩
            have RG := row_keep HRG.out B3
            have RD := row_keep HRD.out B3
            have B4 := bel_tr HB.out B3
            obtain ⟨E1, E2⟩ := HE.out
            generalize pickB (moreB D) ws.length = b at *
            have hx := World.rowIs.cell RG (i := b) (by omega)
            have hf := World.rowIs.frozen RG b
            have hf2 := World.rowIs.frozen RD b
            have hz := so (v := .int .i64 (G.getD b 0 + 1)) (show (⟨g2, b, none⟩ : Addr) ≠ ⟨w.heap.size, b, none⟩ from fun e => hne (by injection e)) (World.rowIs.cell RD (i := b) (by omega))
            have lt2 := World.rowIs.lt RD
            have i0 : (0 : Int) ≤ (b : Int) := by omega
            have i1 : (b : Int) < (ws.length : Int) := by omega
            have sG := row_skip (row_set RG b (G.getD b 0 + 1) (by omega)) b (.int .i64 (-1)) (fun e => hne e.symm)
            have sD := row_set (row_skip RD b (.int .i64 (G.getD b 0 + 1)) hne) b (-1) (by omega)
            rw [← E1] at sG
            rw [← E2] at sD
            have sB : Below w.heap.size w ((w3.setCell ⟨g2, b, none⟩ (.int .i64 (G.getD b 0 + 1))).setCell ⟨w.heap.size, b, none⟩ (.int .i64 (-1))) := (B4.setCell (by show w.heap.size ≤ g2; exact lg2) _).setCell (Nat.le_refl _) _
            have HS := Lib.hid (And.intro sG (And.intro sD sB))
            clear sG sD sB RG RD B3 B4 E1 E2 HE HRG HRD HB
            generalize G.getD b 0 = y at *
            go_wp2
            go_roundw
            case rel => exact ⟨j + 1, by omega, by go_num, by rw [HGD.out.1]; exact HS.out.1, by rw [HGD.out.2]; exact HS.out.2.1, HS.out.2.2⟩
            case measure => simp [intOf]; omega
          · have e : j = leftOf n ws := by omega
            subst e
            go_wp2
            go_ret
            exact ⟨g2, rfl, lg2, RG, hB⟩
end Go.Proofs.Ytclpbbhhaclgbaa
namespace Go.Proofs.Ytclpbbhhaclgbaa
open Go.RowKit
set_option linter.unusedSimpArgs false
set_option linter.unusedVariables false
set_option maxRecDepth 100000 in
set_option maxHeartbeats 4000000 in
theorem iTurnsFor (a : Option Addr) (cap : Nat) (hs : List Hd) (n : Int) (w : World) (h : IsHs w a hs) (hn : hs.length ≤ 1048576) :
    Calls Try.prog 34 #[.slice a hs.length cap, .int .i64 n] w (OutTT w (tfB hs n) (tfL hs n)) := by
  by_cases hcd : cdR hs = -1
  · have CU := iUnits_no a cap hs w h hn hcd
    rw [tf_no (.inl hcd)]
    have CW := fun W => iVW none 0 [] W (.inl rfl) (by simp)
    rw [show vwB [] = false from rfl] at CW
    clear h hcd
    go_enter Try.func34, Try.ntmps34
    go_wp2_with fail
    refine CU.mono ?_
    rintro e w1 ⟨rfl, C⟩
    by_cases h1 : n < 1
    · go_wp2_with fail
      go_returns
      exact tt_no rfl C
    · by_cases h2 : 336 < n
      · go_wp2_with fail
        go_returns
        exact tt_no rfl C
      · go_wp2_with fail
        refine (CW _).mono ?_
        rintro e w' ⟨rfl, rfl⟩
        go_wp2_with fail
        go_returns
        exact tt_no rfl C
  have CU := iUnits a cap hs w h hn hcd
  have hul := un_len hs
  by_cases hr : n < 1 ∨ 336 < n
  · rw [tf_no (.inr (.inl hr))]
    clear h hcd
    go_enter Try.func34, Try.ntmps34
    go_wp2_with fail
    refine CU.mono ?_
    rintro e w1 ⟨g1, rfl, lg1, R1, C⟩
    clear R1 hul
    rcases hr with hr | hr
    · go_wp2_with fail
      go_returns
      exact tt_no rfl C
    · have h1 : ¬ n < 1 := by omega
      go_wp2_with fail
      go_returns
      exact tt_no rfl C
  have n1 : 1 ≤ n := by omega
  have n2 : n ≤ 336 := by omega
  have e1 : decide (n < 1) = false := decide_eq_false (by omega)
  have e2 : decide (336 < n) = false := decide_eq_false (by omega)
  have CW := Lib.hid (fun (g : Nat) W (hW : Row W g (unR hs)) => (by have := iVW (some ⟨g, 0, none⟩) hs.length (unR hs) W (row_ints hW) (by rw [hul]; exact hn); rw [hul] at this; exact this : Calls Try.prog 66 #[.slice (some ⟨g, 0, none⟩) hs.length hs.length] W fun e w' => e = .returned (.bool (vwB (unR hs))) ∧ W = w'))
  clear hr
  cases hv : vwB (unR hs) with
  | false =>
    rw [tf_no (.inr (.inr hv))]
    rw [hv] at CW
    clear h hcd hv hul
    go_enter Try.func34, Try.ntmps34
    go_wp2_with fail
    refine CU.mono ?_
    rintro e w1 ⟨g1, rfl, lg1, R1, C⟩
    go_wp2_with fail
    refine (CW.out _ _ R1).mono ?_
    rintro e w' ⟨rfl, rfl⟩
    clear R1
    go_wp2_with fail
    go_returns
    exact tt_no rfl C
  | true =>
    have hcs := tf_cs n1 n2 hv
    rw [tf_yes hcd n1 n2 hv]
    rw [hv] at CW
    have HS := Lib.hid (tf_some (hs := hs) n1 hcs)
    have CR := Lib.hid (fun (g : Nat) W (hW : Row W g (unR hs)) => (by have := irest n (some ⟨g, 0, none⟩) hs.length (unR hs) W (row_ints hW) (by rw [hul]; exact hn) hcs; rw [hul] at this; exact this : Calls Try.prog 67 #[.int .i64 n, .slice (some ⟨g, 0, none⟩) hs.length hs.length] W (Divd hs.length (sr n (unR hs)) W)))
    have hgl : (sr n (unR hs)).length = hs.length := by rw [sr_len, hul]
    have HGB := Lib.hid (fun i (hi : i < hs.length) => sr_bd hcs (i := i) (by rw [hul]; exact hi))
    have hL : tfL hs n = tfTo hs (sr n (unR hs)) hs.length := rfl
    rw [hL] at HS ⊢
    have HTL := Lib.hid (fun k => tfTo_len hs (sr n (unR hs)) k)
    obtain ⟨i0, hi0, hz0, hz1, hz2⟩ := info_parts infoTn
    rcases h with rfl | ⟨g0, o, rfl, hcl⟩
    · exact absurd HS.out (by show ¬ 0 < 0; omega)
    have HC := Lib.hid hcl
    clear hv hcd hcl hcs hL
    have HUL := Lib.hid hul
    clear hul
    go_enter Try.func34, Try.ntmps34
    go_wp2_with fail
    refine CU.mono ?_
    rintro e w1 ⟨g1, rfl, lg1, R1, C⟩
    go_wp2_with fail
    refine (CW.out _ _ R1).mono ?_
    rintro e w' ⟨rfl, rfl⟩
    have R1a := Lib.hid R1
    have hO : (w1.alloc (.cells #[] 84)).ownsRow w1.heap.size 84 2 (.slice (some ⟨w1.heap.size, 0, none⟩) 0 0) 0 [] := ⟨by simp, .inr ⟨w1.heap.size, 0, #[], rfl, Nat.le_refl _, Go.Deep.blk_alloc_new _ _, Nat.le_refl _, by unfold maxLen; omega, rfl, rfl⟩⟩
    have HOw := Lib.hid hO
    have hS := C.size
    have Ca := (Below.refl w1.heap.size w1).alloc (Nat.le_refl _) (.cells #[] 84)
    have CRa := CR.out g1 _ (World.rowIs.of_block R1 (Ca.block g1 (World.rowIs.lt R1)))
    have HB := Lib.hid (C.alloc C.size (.cells #[] 84))
    have hszA : w1.heap.size < (w1.alloc (.cells #[] 84)).heap.size := by simp
    clear C hO R1 R1a Ca CR CW CU HUL
    generalize unR hs = us at *
    generalize sr n us = gs at *
    go_wp2_with fail
    refine CRa.mono ?_
    rintro e w2 ⟨g2, rfl, lg2, R2, C2⟩
    have HR2 : Hid (Row w2 g2 gs ∧ w2.ownsRow w1.heap.size 84 2 (.slice (some ⟨w1.heap.size, 0, none⟩) 0 0) 0 [] ∧ Below w.heap.size w w2 ∧ w1.heap.size < g2) := ⟨R2, own_nextT HOw.out C2, bel_tr HB.out C2, by omega⟩
    have hlt2 : g2 < w2.heap.size := World.rowIs.lt R2
    clear CRa R2 C2 HOw HB
    go_wp2_with fail
    go_loopw [7, 28] (fun v i wr => ∃ k : Nat, k ≤ hs.length ∧ i = .int .i64 k ∧ Hid (wr.ownsRow w1.heap.size 84 2 v (tfTo hs gs k).length (valsTn (tfTo hs gs k)) ∧ Row wr g2 gs ∧ Below w.heap.size w wr ∧ v.ownBlock ≠ some g2)) (fun _ i _ => hs.length - (intOf i).toNat)
    case atStart => exact ⟨0, Nat.zero_le _, rfl, HR2.out.2.1, HR2.out.1, HR2.out.2.2.1, fun c => by have := HR2.out.2.2.2; have c : w1.heap.size = g2 := Option.some.inj c; omega⟩
    case round =>
      clear HR2
      obtain ⟨k, hk, rfl, HR⟩ := hrel
      by_cases hlt : k < hs.length
      · have c0 := hs_at HC.out HR.out.2.2.1 hlt
        have c1 := HR.out.2.1.cell (i := k) (by omega)
        have hll := HTL.out k
        have hy := HGB.out k hlt
        have ny := fun h => tfTo_yes (hs := hs) (gs := gs) (k := k) h
        have nn := fun h => tfTo_no (hs := hs) (gs := gs) (k := k) h
        have hszr := World.rowIs.lt HR.out.2.1
        generalize (hs.getD k hd0).1 = x0 at c0 ny
        generalize gs.getD k 0 = y at c1 hy ny nn
        have b0 : (0 : Int) ≤ (k : Int) := by omega
        have b1 : (k : Int) < (hs.length : Int) := by omega
        by_cases hy0 : 0 < y
        · have e3 : decide (0 < y) = true := decide_eq_true hy0
          have HN := Lib.hid (ny hy0)
          clear ny nn hy hy0
          have HRR := HR
          obtain ⟨out, hout⟩ : ∃ out, tfTo hs gs k = out := ⟨_, rfl⟩
          have HN2 : Hid (tfTo hs gs (k + 1) = out ++ [(x0, y)]) := by show _ = _; rw [HN.out, hout]
          have HO : Hid (wr.ownsRow w1.heap.size 84 2 u7 out.length (valsTn out)) := by show World.ownsRow _ _ _ _ _ _ _; rw [← hout]; exact HR.out.1
          rw [hout] at hll
          clear HN hout HR
          go_wp2_with (first | (at_builtin; refine wpList_append_any _ rfl (.tmp 35) (.tmp 43) _ rfl w1.heap.size 84 i0 _ 2 16 Try.underlying47 hi0 hz0 hz1 hz2 rfl (by omega) _ _ _ rfl (HO.out.alloc _) (wr.heap.size + 1) (some ⟨wr.heap.size, 0, none⟩) 1 1 [.int .i64 x0, .int .i64 y] rfl ⟨by simp, fun _ => ⟨⟨wr.heap.size, 0, none⟩, rfl, Nat.lt_succ_self _, new_cells wr _ _⟩⟩ (valsTn_one [(x0, y)]) (by unfold maxLen; omega) (by omega) (by simp <;> omega) ?_; intro v3 w5 hown3 hgrow3 hat3))
          have HF : Hid (w5.ownsRow w1.heap.size 84 2 v3 (tfTo hs gs (k + 1)).length (valsTn (tfTo hs gs (k + 1))) ∧ Row w5 g2 gs ∧ Below w.heap.size w w5 ∧ v3.ownBlock ≠ some g2) := by
            have hB := HRR.out.2.2.1
            have hsz := hB.size
            refine ⟨by rw [HN2.out, List.length_append, valsTn_append]; exact hown3, World.rowIs.of_block (row_keep HRR.out.2.1 ((Below.refl _ _).alloc (Nat.le_refl _) _)) (hgrow3.block g2 (by simp; omega) (fun e => HRR.out.2.2.2 e.symm)), (hB.alloc hsz _).grown hgrow3 (by simp; omega) (fun q hq => by have := (HO.out.lt q hq).1; omega), ?_⟩
            rcases hat3 with e | e
            · rw [e]; exact HRR.out.2.2.2
            · rw [e]; intro c; have c := Option.some.inj c; simp at c; omega
          clear HO HRR hown3 hgrow3 hat3
          go_roundw
          case rel => exact ⟨k + 1, by omega, by go_num, HF.out⟩
          case measure => simp [intOf]; omega
        · have e3 : decide (0 < y) = false := decide_eq_false hy0
          have HN := Lib.hid (nn hy0)
          clear ny nn hy hy0
          have HF : Hid (wr.ownsRow w1.heap.size 84 2 u7 (tfTo hs gs (k + 1)).length (valsTn (tfTo hs gs (k + 1))) ∧ Row wr g2 gs ∧ Below w.heap.size w wr ∧ u7.ownBlock ≠ some g2) := by show _ ∧ _; rw [HN.out]; exact HR.out
          clear HR HN
          go_wp2_with fail
          go_roundw
          case rel => exact ⟨k + 1, by omega, by go_num, HF.out⟩
          case measure => simp [intOf]; omega
      · obtain rfl : k = hs.length := by omega
        rcases Flat.own (zs := flatTn (tfTo hs gs hs.length)) HR.out.1 with ⟨_, hz⟩ | ⟨g, cp, rfl, lg, F, hcp⟩
        · have := HS.out; omega
        have HF := Lib.hid (And.intro F HR.out.2.2.1)
        clear HR F
        go_wp2_with fail
        go_returns
        exact tt_yes rfl rfl (by omega) HF.out.1 hcp HF.out.2
end Go.Proofs.Ytclpbbhhaclgbaa
namespace Go.Proofs.Ytclpbbhhaclgbaa
open Go.RowKit

theorem infoBool : (Try.prog.info? 4).map (fun i => (i.zero, i.size, i.bytes)) = some (some (.bool false), 1, 1) := by kernel_rfl
theorem below_ns {w w' : World} (h : Below w.heap.size w w') (row : Option Nat) : w.grownBy w' row := g_below h row
/-- a row of marks: true where the number is less than 0 -/
def Given (w : World) (g : Nat) (D : List Int) (m : Nat) : Prop := w.rowIs g 4 m (fun i => .bool (decide (D.getD i 0 < 0)))
theorem given_keep {w w' : World} {g m : Nat} {D : List Int} (h : Given w g D m) (hB : Below w.heap.size w w') : Given w' g D m := World.rowIs.of_block h (hB.block g (World.rowIs.lt h))
theorem given_skip {w : World} {g g' m : Nat} {D : List Int} (h : Given w g D m) (k : Nat) (v : Value) (hne : g' ≠ g) : Given (w.setCell ⟨g', k, none⟩ v) g D m :=
  World.rowIs.of_block h (Below.heap_setCell w ⟨g', k, none⟩ v g (fun e => by first | exact hne e | exact hne e.symm))
theorem given_set {w : World} {g m : Nat} {D : List Int} (h : Given w g D m) (k : Nat) (hk : k < D.length) : Given (w.setCell ⟨g, k, none⟩ (.bool true)) g (D.set k (-1)) m :=
  (World.rowIs.set h k (.bool true)).congr (fun j hj => by
    show (if j = k then Value.bool true else .bool (decide (D.getD j 0 < 0))) = _
    rw [getD_set _ _ _ hk]; split <;> rfl)
/-- what a division leaves, read -/
def DivS (m : Nat) (R : List Int) (w : World) (e : Ending) (w' : World) : Prop := ∃ (b : Option Addr) (cap : Nat), e = .returned (.slice b m cap) ∧ IsInts w' b R ∧ Below w.heap.size w w'
theorem stotalN (m : Nat) (a : Option Addr) (cap : Nat) (zs : List Int) (w : World) (hl : zs.length = m) (h : IsInts w a zs) (hn : m ≤ 1048576) (hz : ∀ z ∈ zs, -1000000 ≤ z ∧ z ≤ 1000000) :
    Calls Try.prog 107 #[.slice a m cap] w fun e w' => e = .returned (.int .i64 zs.sum) ∧ w = w' := by
  subst hl; exact stotal a cap zs w h hn hz
theorem q_all {n : Int} {ws : List Int} (hcs : csB n ws = true) : ∀ z ∈ qs n ws, -1000000 ≤ z ∧ z ≤ 1000000 := fun z hz => by
  obtain ⟨i, hi, rfl⟩ := List.getElem_of_mem hz
  have hql := qs_len n ws
  have := q_le hcs (i := i) (by omega)
  rw [List.getD_eq_getElem?_getD, List.getElem?_eq_getElem hi] at this
  simp at this; omega
theorem own_isints {w : World} {base g n cap : Nat} {zs : List Int} (h : w.ownsRow base 3 1 (.slice (some ⟨g, 0, none⟩) n cap) n (zs.map (Value.int .i64))) (hl : zs.length = n) : IsInts w (some ⟨g, 0, none⟩) zs := by
  subst hl
  obtain ⟨b, c, hv, hi⟩ := own_ints h
  injection hv with h1 h2 h3
  rw [h1]; exact hi
def okD (D : List Int) (i : Nat) : Bool := decide (0 ≤ D.getD i 0)
theorem pickD_is (D : List Int) (hm : ∀ i, i < D.length → -1 ≤ D.getD i 0) {m : Nat} (hl : D.length = m) : ∀ k, k ≤ m → (pickS (okD D) (moreB D) k = -1 ∧ pickB (moreB D) k = 0 ∧ ∀ j, j < k → okD D j = false) ∨ (pickS (okD D) (moreB D) k = (pickB (moreB D) k : Nat) ∧ okD D (pickB (moreB D) k) = true ∧ pickB (moreB D) k < k) := by
  subst hl
  refine pickS_is (okD D) (moreB D) D.length (fun i b hi hb h1 h2 => ?_) (fun i b hi hb h1 => ?_)
  · unfold okD at h1 h2; unfold moreB
    simp at h1 h2 ⊢; omega
  · have a := hm i hi
    have b := hm b hb
    unfold okD at h1; unfold moreB
    simp only [decide_eq_false_iff_not] at h1 ⊢; omega
theorem pickS_skip (D : List Int) (k : Nat) (h : D.getD k 0 < 0) : pickS (okD D) (moreB D) (k + 1) = pickS (okD D) (moreB D) k := by
  show (if okD D k && _ then (k : Int) else pickS (okD D) (moreB D) k) = _
  have : okD D k = false := by unfold okD; exact decide_eq_false (by omega)
  rw [this]; simp
theorem pickS_first (D : List Int) (k : Nat) (h : ¬ D.getD k 0 < 0) (h1 : pickS (okD D) (moreB D) k = -1) : pickS (okD D) (moreB D) (k + 1) = k := by
  show (if okD D k && (decide (pickS (okD D) (moreB D) k < 0) || _) then (k : Int) else pickS (okD D) (moreB D) k) = _
  have : okD D k = true := by unfold okD; exact decide_eq_true (by omega)
  rw [this, h1]; simp
theorem pickS_next (D : List Int) (k b : Nat) (h : ¬ D.getD k 0 < 0) (h1 : pickS (okD D) (moreB D) k = (b : Int)) : pickS (okD D) (moreB D) (k + 1) = if D.getD b 0 < D.getD k 0 then (k : Int) else b := by
  show (if okD D k && (decide (pickS (okD D) (moreB D) k < 0) || moreB D k (pickS (okD D) (moreB D) k).toNat) then (k : Int) else pickS (okD D) (moreB D) k) = _
  have : okD D k = true := by unfold okD; exact decide_eq_true (by omega)
  rw [this, h1]
  have e : decide ((b : Int) < 0) = false := by simp
  rw [e, Int.toNat_natCast]
  unfold moreB
  simp

set_option maxHeartbeats 2000000 in
theorem sbyRest (n : Int) (a : Option Addr) (cap : Nat) (ws : List Int) (w : World) (h : IsInts w a ws) (hn : ws.length ≤ 1048576) (hcs : csB n ws = true) :
    Calls Try.prog 71 #[.int .i64 n, .slice a ws.length cap] w (DivS ws.length (sr n ws) w) := by
  obtain ⟨⟨n0, n1⟩, hv⟩ := cs_yes hcs
  have h0 := h
  rcases h with rfl | ⟨g, o, rfl, hc⟩
  · exact absurd (vw_is hv).2.2 (by simp)
  · have hmk := run_make_row' (P := Try.prog) 109 4 (.bool false) 1 Try.underlying109 infoBool rfl .i64 .i64 ws.length (by omega) (by omega)
    obtain ⟨s0, s1⟩ := ws_bd hv
    have l12 := (vw_is hv).2.1
    have l1 := ws_ne hv
    have HZ := Lib.hid (all_bd (vw_is hv).1 (by omega))
    have HQ := Lib.hid (q_all hcs)
    have HC := Lib.hid hc
    have HK := Lib.hid hcs
    have H0 := Lib.hid h0
    have hql := qs_len n ws
    have HL := Lib.hid (left_is hcs)
    obtain ⟨q0, q1⟩ := q_sum hcs
    have hL500 : leftOf n ws ≤ 500 := by have := left_is hcs; omega
    clear hc hv h0 hcs
    go_enter Try.func71, Try.ntmps71
    go_wp2_with fail
    refine (squotasO n _ cap ws _ H0.out hn HK.out).mono ?_
    rintro e w1 ⟨v, rfl, ho, hB1⟩
    obtain ⟨go, co, rfl, lgo, lt1⟩ := ho.form l1
    have HO := Lib.hid ho
    have HB := Lib.hid hB1
    clear ho hB1
    go_wp2_with fail
    refine (stotal _ cap ws _ (ints_below H0.out HB.out) hn HZ.out).mono ?_
    rintro e w' ⟨rfl, rfl⟩
    go_wp2_with fail
    have gne : go ≠ w1.heap.size := by omega
    have HO2 := Lib.hid (HO.out.alloc (.cells (madeCells #[.bool false] ws.length) 4))
    have HB2 := Lib.hid (HB.out.alloc HB.out.size (.cells (madeCells #[.bool false] ws.length) 4))
    have HG := Lib.hid (World.rowIs_made w1 (.bool false) ws.length 4)
    clear hmk
    refine (stotalN ws.length _ _ (qs n ws) _ hql (own_isints HO2.out hql) hn HQ.out).mono ?_
    rintro e w' ⟨rfl, rfl⟩
    go_wp2_with fail
    go_loopw [8] (fun l wr => ∃ j : Nat, j ≤ leftOf n ws ∧ l = .int .i64 ((leftOf n ws : Int) - j) ∧ wr.ownsRow w.heap.size 3 1 (.slice (some ⟨go, 0, none⟩) ws.length co) ws.length ((restTo n ws j).1.map (Value.int .i64)) ∧ Given wr w1.heap.size (restTo n ws j).2 ws.length ∧ Below w.heap.size w wr) (fun l _ => (intOf l).toNat)
    case atStart =>
      refine ⟨0, Nat.zero_le _, by rw [HL.out]; go_num, HO2.out, HG.out.congr (fun i hi => ?_), HB2.out⟩
      have := rsts_bd HK.out hi
      show Value.bool false = .bool (decide ((rsts n ws).getD i 0 < 0))
      rw [decide_eq_false (by omega)]
    case round =>
      obtain ⟨j, hj, rfl, RG, RD, hB⟩ := hrel
      by_cases hjl : j < leftOf n ws
      · have RJ := rest_is HK.out j hj
        obtain ⟨hb, hpos⟩ := rest_best HK.out RJ hjl
        have hy : 0 ≤ (restTo n ws j).1.getD (pickB (moreB (restTo n ws j).2) ws.length) 0 ∧ (restTo n ws j).1.getD (pickB (moreB (restTo n ws j).2) ws.length) 0 ≤ 500001 := by
          have := q_le HK.out hb
          rcases RJ.each _ hb with h | h <;> omega
        have hD : ∀ i, i < ws.length → -1 ≤ (restTo n ws j).2.getD i 0 ∧ (0 ≤ (restTo n ws j).2.getD i 0 → (restTo n ws j).2.getD i 0 = n * ws.getD i 0 % ws.sum) := fun i hi => by
          have := rsts_bd HK.out hi
          have e := rsts_get n ws hi
          rcases RJ.each i hi with h | h
          · omega
          · omega
        obtain ⟨lG, lD⟩ := restTo_len n ws j
        have e1 := restTo_succ1 n ws j
        have e2 := restTo_succ2 n ws j
        obtain ⟨G', hG'⟩ : ∃ G', (restTo n ws (j + 1)).1 = G' := ⟨_, rfl⟩
        obtain ⟨D', hD'⟩ : ∃ D', (restTo n ws (j + 1)).2 = D' := ⟨_, rfl⟩
        rw [hG'] at e1
        rw [hD'] at e2
        have HGD := Lib.hid (And.intro hG' hD')
        clear hG' hD' RJ
        generalize (restTo n ws j).1 = G at *
        generalize (restTo n ws j).2 = D at *
        have HD := Lib.hid hD
        have HP := Lib.hid (pickD_is D (fun i hi => (hD i (by omega)).1) lD)
        have HRG := Lib.hid RG
        have HRD := Lib.hid RD
        have HBB := Lib.hid hB
        have HE := Lib.hid (And.intro e1 e2)
        have hpk : pickS (okD D) (moreB D) ws.length = (pickB (moreB D) ws.length : Nat) := by
          rcases HP.out ws.length (Nat.le_refl _) with ⟨_, b0, hno⟩ | ⟨h, _⟩
          · have := hno _ hb
            unfold okD at this
            simp only [decide_eq_false_iff_not] at this
            omega
          · exact h
        have HPK := Lib.hid hpk
        clear RG RD hB e1 e2 hD hpk hpos
        go_wp2_with fail
        go_loopw [9, 10] (fun b i wi => ∃ k : Nat, k ≤ ws.length ∧ i = .int .i64 k ∧ b = .int .i64 (pickS (okD D) (moreB D) k) ∧ Below wr.heap.size wr wi) (fun _ i _ => ws.length - (intOf i).toNat)
        case atStart => exact ⟨0, Nat.zero_le _, rfl, rfl, Below.refl _ _⟩
        case round =>
          obtain ⟨k, hk, rfl, hbest, hBi⟩ := hrel
          by_cases hlt : k < ws.length
          · have hcell := World.rowIs.cell (given_keep HRD.out hBi) hlt
            have i0 : (0 : Int) ≤ (k : Int) := by omega
            have i1 : (k : Int) < (ws.length : Int) := by omega
            by_cases hd : D.getD k 0 < 0
            · rw [decide_eq_true hd] at hcell
              have HS := Lib.hid (pickS_skip D k hd)
              subst hbest
              go_wp2_with fail
              go_quiet (fail)
              go_wp2
              go_roundw
              case rel => exact ⟨k + 1, by omega, by go_num, by rw [HS.out], below_drewN hBi _⟩
              case measure => simp [intOf]; omega
            · rw [decide_eq_false hd] at hcell
              rcases HP.out k hk with ⟨p1, _, _⟩ | ⟨p1, p2, p3⟩
              · have HS := Lib.hid (pickS_first D k hd p1)
                rw [p1] at hbest
                subst hbest
                clear p1
                go_wp2_with fail
                go_quiet (fail)
                go_wp2
                go_roundw
                case rel => exact ⟨k + 1, by omega, by go_num, by rw [HS.out], below_drewN hBi _⟩
                case measure => simp [intOf]; omega
              · have HS := Lib.hid (pickS_next D k _ hd p1)
                rw [p1] at hbest
                subst hbest
                have hB2 := bel_tr HBB.out hBi
                have hc := (hB2.cell (p := ⟨g, o + k, none⟩) (World.block_lt_of_cell? w _ (HC.out k hlt))).trans (HC.out k hlt)
                have hc2 := (hB2.cell (p := ⟨g, o + pickB (moreB D) k, none⟩) (World.block_lt_of_cell? w _ (HC.out _ (by omega)))).trans (HC.out _ (by omega))
                have d1 := (HD.out k hlt).2 (by omega)
                unfold okD at p2
                simp only [decide_eq_true_eq] at p2
                have d2 := (HD.out (pickB (moreB D) k) (by omega)).2 p2
                rw [d1, d2] at HS
                obtain ⟨z0, z1, z2, z3⟩ := q_bd HK.out hlt
                obtain ⟨y0, y1, y2, y3⟩ := q_bd HK.out (show pickB (moreB D) k < ws.length by omega)
                have i2 : (0 : Int) ≤ (pickB (moreB D) k : Int) := by omega
                have i3 : (pickB (moreB D) k : Int) < (ws.length : Int) := by omega
                have i4 : decide ((pickB (moreB D) k : Int) < 0) = false := decide_eq_false (by omega)
                clear d1 d2 p1 p2 hd hB2
                generalize pickB (moreB D) k = b at *
                generalize ws.getD k 0 = z at *
                generalize ws.getD b 0 = y at *
                have t1 : (n * z).tmod ws.sum = n * z % ws.sum := Int.tmod_eq_emod_of_nonneg z2
                have t2 : (n * y).tmod ws.sum = n * y % ws.sum := Int.tmod_eq_emod_of_nonneg y2
                have t3 : IntKind.i64.wrap (n * z) = n * z := by rw [IntKind.wrap_i64]; omega
                have t4 : IntKind.i64.wrap (n * y) = n * y := by rw [IntKind.wrap_i64]; omega
                by_cases hzy : n * y % ws.sum < n * z % ws.sum
                · rw [if_pos hzy] at HS
                  go_wp2_with fail
                  go_quiet (fail)
                  go_wp2
                  go_roundw
                  case rel => exact ⟨k + 1, by omega, by go_num, by rw [HS.out], below_drewN hBi _⟩
                  case measure => simp [intOf]; omega
                · rw [if_neg hzy] at HS
                  go_wp2_with fail
                  go_quiet (fail)
                  go_wp2
                  go_roundw
                  case rel => exact ⟨k + 1, by omega, by go_num, by rw [HS.out], below_drewN hBi _⟩
                  case measure => simp [intOf]; omega
          · have ek : k = ws.length := by omega
            subst ek
            rw [HPK.out] at hbest
            subst hbest
            clear HPK HP HD
            have RG := HRG.out.kept (below_ns hBi none) (.inr (by simp [Value.ownBlock]))
            have RD := given_keep HRD.out hBi
            have hB2 := bel_tr HBB.out hBi
            have hlen : (G.map (Value.int .i64)).length = ws.length := by simp [lG]
            have hx := RG.cellAt (pickB (moreB D) ws.length) (by omega)
            obtain ⟨E1, E2⟩ := HE.out
            generalize pickB (moreB D) ws.length = b at *
            have hgv : (G.map (Value.int .i64))[b]? = some (.int .i64 (G.getD b 0)) := by
              rw [List.getElem?_map, List.getD_eq_getElem?_getD, List.getElem?_eq_getElem (by omega)]; rfl
            rw [hgv] at hx
            have hf := RG.frozenAt b
            have hf2 := World.rowIs.frozen RD b
            have hz := World.rowIs.cell RD hb
            have hx2 := so (v := .bool true) (show (⟨w1.heap.size, b, none⟩ : Addr) ≠ ⟨go, b, none⟩ from fun e => gne (by injection e with e; exact e.symm)) hx
            have i0 : (0 : Int) ≤ (b : Int) := by omega
            have i1 : (b : Int) < (ws.length : Int) := by omega
            have sG := ((RG.kept (row := some w1.heap.size) (g_set (p := ⟨w1.heap.size, b, none⟩) (g_below (Below.refl _ wr) _) (.inl rfl) (.bool true)) (.inr (by simp [Value.ownBlock]; exact gne))).stored b (.int .i64 (G.getD b 0 + 1))).1
            rw [show (G.map (Value.int .i64)).set b (.int .i64 (G.getD b 0 + 1)) = (G.set b (G.getD b 0 + 1)).map (Value.int .i64) by rw [List.map_set], ← E1] at sG
            have sD := given_skip (given_set RD b (by omega)) b (.int .i64 (G.getD b 0 + 1)) gne
            rw [← E2] at sD
            have sB : Below w.heap.size w ((wr.setCell ⟨w1.heap.size, b, none⟩ (.bool true)).setCell ⟨go, b, none⟩ (.int .i64 (G.getD b 0 + 1))) := (hB2.setCell (by exact HB.out.size) _).setCell lgo _
            have HS := Lib.hid (And.intro sG (And.intro sD sB))
            clear sG sD sB RG RD hB2 E1 E2 HE HRG HRD HBB hgv hlen
            generalize G.getD b 0 = y at *
            go_wp2
            go_roundw
            case rel => exact ⟨j + 1, by omega, by go_num, by rw [HGD.out.1]; exact HS.out.1, by rw [HGD.out.2]; exact HS.out.2.1, HS.out.2.2⟩
            case measure => simp [intOf]; omega
      · have e : j = leftOf n ws := by omega
        subst e
        go_wp2
        go_ret
        exact ⟨some ⟨go, 0, none⟩, co, rfl, own_isints RG (sr_len n ws), hB⟩
end Go.Proofs.Ytclpbbhhaclgbaa
namespace Go.Proofs.Ytclpbbhhaclgbaa
open Go.RowKit
set_option linter.unusedSimpArgs false
set_option linter.unusedVariables false
theorem sinRangeT (n l h : Int) (w : World) :
    Calls Try.prog 48 #[.int .i64 n, .int .i64 l, .int .i64 h] w fun e w' => e = .returned (.bool (decide (l ≤ n) && decide (n ≤ h))) ∧ w = w' := by
  by_cases c : n < l ∨ h < n
  · have e : (decide (l ≤ n) && decide (n ≤ h)) = false := by
      rcases c with c | c
      · rw [decide_eq_false (by omega : ¬ l ≤ n)]; rfl
      · rw [decide_eq_false (by omega : ¬ n ≤ h)]; simp
    rw [e]; exact inRange_no n l h w c
  · rw [decide_eq_true (by omega : l ≤ n), decide_eq_true (by omega : n ≤ h)]; exact inRange_yes n l h w (by omega) (by omega)
theorem own_drewT {w : World} {base n : Nat} {v : Value} {xs : List Value} (h : w.ownsRow base 84 2 v n xs) : w.drew.ownsRow base 84 2 v n xs := h
theorem g_transO {a b c : World} {row : Option Nat} (h : a.grownBy b row) (k : b.grownBy c row) : a.grownBy c row :=
  ⟨k.os.trans h.os, k.tape.trans h.tape, k.output.trans h.output, Nat.le_trans h.size k.size, fun i hi hne => (k.block i (Nat.lt_of_lt_of_le hi h.size) hne).trans (h.block i hi hne)⟩
theorem kp2g {W wq v : World} {row : Option Nat} {g0 g5 a0 a1 : Nat} {v0 v1 : Value} (hg : W.grownBy wq row) (n0 : row ≠ some g0) (n5 : row ≠ some g5)
    (h : (W.cell? ⟨g0, a0, none⟩ = some v0 ∧ W.cell? ⟨g5, a1, none⟩ = some v1) ∧ v.grownBy W row) : (wq.cell? ⟨g0, a0, none⟩ = some v0 ∧ wq.cell? ⟨g5, a1, none⟩ = some v1) ∧ v.grownBy wq row := by
  obtain ⟨⟨a, b⟩, g⟩ := h
  have k : ∀ {q o : Nat} {u : Value}, row ≠ some q → W.cell? ⟨q, o, none⟩ = some u → wq.cell? ⟨q, o, none⟩ = some u := fun hn hp => (World.cell?_of_block (hg.block _ (World.block_lt_of_cell? W _ hp) (fun e => hn e.symm))).trans hp
  exact ⟨⟨k n0 a, k n5 b⟩, g_transO g hg⟩
set_option maxRecDepth 100000 in
set_option maxHeartbeats 8000000 in
theorem sTurnsFor (a : Option Addr) (cap : Nat) (hs : List Hd) (n : Int) (w : World) (h : IsHs w a hs) (hn : hs.length ≤ 1048576) :
    Calls Try.prog 38 #[.slice a hs.length cap, .int .i64 n] w (OutTT w (tfB hs n) (tfL hs n)) := by
  by_cases hcd : cdR hs = -1
  · have CU := sUnits_no a cap hs w h hn hcd
    rw [tf_no (.inl hcd)]
    clear h hcd
    go_enter Try.func38, Try.ntmps38
    go_wp2_with fail
    refine CU.mono ?_
    rintro e w1 ⟨rfl, C⟩
    go_wp2_with fail
    go_returns
    exact tt_no rfl C
  have CU := sUnits a cap hs w h hn hcd
  have hul := un_len hs
  have hl1 : 1 ≤ hs.length := by
    rcases hs with _ | ⟨x, t⟩
    · exact absurd (vlR_is (cd_pos hcd).1).2.one (by decide)
    · simp
  have q0 : ((hs.length : Int) == 0) = false := beq_eq_false_iff_ne.2 (by omega)
  have q1 : (hs.length == 0) = false := beq_eq_false_iff_ne.2 (by omega)
  have CW := Lib.hid (fun (b : Option Addr) (c : Nat) W (hW : IsInts W b (unR hs)) => (by have := svalidSplit n b c (unR hs) W hW (by rw [hul]; exact hn); rw [hul] at this; exact this : Calls Try.prog 70 #[.int .i64 n, .slice b hs.length c] W fun e w' => e = .returned (.bool (csB n (unR hs))) ∧ W = w'))
  have CN := fun W => sinRangeT n 1 336 W
  cases hv : csB n (unR hs) with
  | false =>
    have hno : tfB hs n = false := by
      cases c : tfB hs n with
      | false => rfl
      | true =>
        unfold tfB at c
        simp only [Bool.and_eq_true, decide_eq_true_eq] at c
        rw [tf_cs c.1.2.1 c.1.2.2 c.2] at hv; cases hv
    rw [hno]
    rw [hv] at CW
    clear h hcd hv hul hno CN
    go_enter Try.func38, Try.ntmps38
    go_wp2_with fail
    refine CU.mono ?_
    rintro e w1 ⟨v, rfl, R1, C⟩
    obtain ⟨b1, cp1, rfl, I1⟩ := own_unitsT R1
    go_wp2_with fail
    refine (CW.out _ _ _ I1).mono ?_
    rintro e w' ⟨rfl, rfl⟩
    clear R1 I1
    go_wp2_with fail
    go_returns
    exact tt_no rfl C
  | true =>
  rw [hv] at CW
  cases hr : (decide (1 ≤ n) && decide (n ≤ 336)) with
  | false =>
    have hno : tfB hs n = false := by unfold tfB; rw [hr]; simp
    rw [hno]
    rw [hr] at CN
    clear h hcd hv hul hno hr
    go_enter Try.func38, Try.ntmps38
    go_wp2_with fail
    refine CU.mono ?_
    rintro e w1 ⟨v, rfl, R1, C⟩
    obtain ⟨b1, cp1, rfl, I1⟩ := own_unitsT R1
    go_wp2_with fail
    refine (CW.out _ _ _ I1).mono ?_
    rintro e w' ⟨rfl, rfl⟩
    clear R1 I1
    go_wp2_with fail
    refine (CN _).mono ?_
    rintro e w' ⟨rfl, rfl⟩
    go_wp2_with fail
    go_returns
    exact tt_no rfl C
  | true =>
    have hr2 := hr
    simp only [Bool.and_eq_true, decide_eq_true_eq] at hr2
    have hvw : vwB (unR hs) = true := by
      unfold csB at hv; rw [Bool.and_eq_true] at hv; exact hv.2
    have hcs := hv
    rw [tf_yes hcd hr2.1 hr2.2 hvw]
    rw [hr] at CN
    have HS := Lib.hid (tf_some (hs := hs) hr2.1 hcs)
    have CR := Lib.hid (fun (b : Option Addr) (c : Nat) W (hW : IsInts W b (unR hs)) => (by have := sbyRest n b c (unR hs) W hW (by rw [hul]; exact hn) hcs; rw [hul] at this; exact this : Calls Try.prog 71 #[.int .i64 n, .slice b hs.length c] W (DivS hs.length (sr n (unR hs)) W)))
    have hgl : (sr n (unR hs)).length = hs.length := by rw [sr_len, hul]
    have hL : tfL hs n = tfTo hs (sr n (unR hs)) hs.length := rfl
    rw [hL] at HS ⊢
    have HTL := Lib.hid (fun k => tfTo_len hs (sr n (unR hs)) k)
    obtain ⟨i0, hi0, hz0, hz1, hz2⟩ := info_parts infoTn
    rcases h with rfl | ⟨g0, o, rfl, hcl⟩
    · exact absurd HS.out (by show ¬ 0 < 0; omega)
    have hg0 : g0 < w.heap.size := World.block_lt_of_cell? w _ (hcl 0 (by omega)).1
    have HC := Lib.hid hcl
    clear hv hcd hcl hcs hL hr hr2 hvw hul
    go_enter Try.func38, Try.ntmps38
    go_wp2_with fail
    refine CU.mono ?_
    rintro e w1 ⟨v, rfl, R1, C⟩
    obtain ⟨b1, cp1, rfl, I1⟩ := own_unitsT R1
    clear R1
    go_wp2_with fail
    refine (CW.out _ _ _ I1).mono ?_
    rintro e w' ⟨rfl, rfl⟩
    go_wp2_with fail
    refine (CN _).mono ?_
    rintro e w' ⟨rfl, rfl⟩
    have hO : (w1.alloc (.cells #[] 84)).ownsRow w1.heap.size 84 2 (.slice (some ⟨w1.heap.size, 0, none⟩) 0 0) 0 [] := ⟨by simp, .inr ⟨w1.heap.size, 0, #[], rfl, Nat.le_refl _, Go.Deep.blk_alloc_new _ _, Nat.le_refl _, by unfold maxLen; omega, rfl, rfl⟩⟩
    have HOw := Lib.hid hO
    have hS := C.size
    have CRa := CR.out _ cp1 _ (ints_below I1 ((Below.refl w1.heap.size w1).alloc (Nat.le_refl _) (.cells #[] 84)))
    have HB := Lib.hid (C.alloc C.size (.cells #[] 84))
    have HK := Lib.hid (Blk.new w1 84 #[])
    have hszA : w1.heap.size < (w1.alloc (.cells #[] 84)).heap.size := by simp
    clear C hO I1 CR CW CU CN
    generalize unR hs = us at *
    generalize sr n us = gs at *
    go_wp2_with fail
    refine CRa.mono ?_
    rintro e w2 ⟨b2, cp2, rfl, I2, C2⟩
    rcases I2 with rfl | ⟨g2, o2, rfl, hc2⟩
    · simp at hgl; omega
    have hne : w1.heap.size ≠ g2 := fun e => by
      have a := hc2 0 (by omega)
      rw [← e, (HK.out.next C2).cell] at a
      simp at a
    have HR2 : Hid (w2.ownsRow w1.heap.size 84 2 (.slice (some ⟨w1.heap.size, 0, none⟩) 0 0) 0 [] ∧ (∀ i, i < hs.length → w2.cell? ⟨g2, o2 + i, none⟩ = some (.int .i64 (gs.getD i 0))) ∧ Below w.heap.size w w2) := ⟨own_nextT HOw.out C2, fun i hi => hc2 i (by omega), bel_tr HB.out C2⟩
    have hs12 : w1.heap.size < w2.heap.size := by have := C2.size; omega
    clear CRa hc2 C2 HOw HB HK
    go_wp2_with fail
    go_loopw [7, 9] (fun v i wr => ∃ k : Nat, k ≤ hs.length ∧ i = .int .i64 k ∧ Hid (wr.ownsRow w1.heap.size 84 2 v (tfTo hs gs k).length (valsTn (tfTo hs gs k)) ∧ (∀ i, i < hs.length → wr.cell? ⟨g2, o2 + i, none⟩ = some (.int .i64 (gs.getD i 0))) ∧ Below w.heap.size w wr ∧ v.ownBlock ≠ some g2) ∧ w1.heap.size < wr.heap.size) (fun _ i _ => hs.length - (intOf i).toNat)
    case atStart => exact ⟨0, Nat.zero_le _, rfl, ⟨HR2.out.1, HR2.out.2.1, HR2.out.2.2, fun c => hne (Option.some.inj c)⟩, hs12⟩
    case round =>
      clear HR2
      obtain ⟨k, hk, rfl, HR, hsw⟩ := hrel
      by_cases hlt : k < hs.length
      · have c0 := hs_at HC.out HR.out.2.2.1 hlt
        have c1 := HR.out.2.1 k hlt
        have hll := HTL.out k
        have ny := fun h => tfTo_yes (hs := hs) (gs := gs) (k := k) h
        have nn := fun h => tfTo_no (hs := hs) (gs := gs) (k := k) h
        have hszr := World.block_lt_of_cell? wr _ c1
        generalize (hs.getD k hd0).1 = x0 at c0 ny
        generalize gs.getD k 0 = y at c1 ny nn
        have b0 : (0 : Int) ≤ (k : Int) := by omega
        have b1_ : (k : Int) < (hs.length : Int) := by omega
        by_cases hy0 : 0 < y
        · have e3 : decide (0 < y) = true := decide_eq_true hy0
          have HN := Lib.hid (ny hy0)
          clear ny nn hy0
          have HRR := HR
          obtain ⟨out, hout⟩ : ∃ out, tfTo hs gs k = out := ⟨_, rfl⟩
          have HN2 : Hid (tfTo hs gs (k + 1) = out ++ [(x0, y)]) := by show _ = _; rw [HN.out, hout]
          have HO : Hid (wr.ownsRow w1.heap.size 84 2 u7 out.length (valsTn out)) := by show World.ownsRow _ _ _ _ _ _ _; rw [← hout]; exact HR.out.1
          have n0 : u7.ownBlock ≠ some g0 := fun e => by have := (HO.out.lt g0 e).1; omega
          have n5 : u7.ownBlock ≠ some g2 := HR.out.2.2.2
          rw [hout] at hll
          clear HN hout HR
          go_wp2_with fail
          refine wp_region_held_drew (S := (fun W' => (W'.cell? ⟨g0, o + k * 3, none⟩ = some (.int .i64 x0) ∧ W'.cell? ⟨g2, o2 + k, none⟩ = some (.int .i64 y)) ∧ wr.grownBy W' u7.ownBlock)) (by kernel_rfl) ?_ (fun hHeld => ?_)
          · exact ⟨⟨c0, c1⟩, g_drewN (g_of (Below.refl _ _) _) 1⟩
          refine wpAnyH_take (i := 0) (oi := ?ooa0) (v := ?vva0) ?hia0 (by kernel_rfl) ?h3a0 ?h4a0 ?h5a0 ?h6a0 (by assumption) ?h8a0
          case hia0 => (simp only [List.getElem?_toArray, List.getElem?_cons_succ, List.getElem?_cons_zero]; rfl)
          case h3a0 => kernel_rfl
          case h4a0 => kernel_rfl
          case h6a0 => (refine Or.inl ⟨by rfl, ?_⟩; intro w hSw; (try dsimp only at hSw); (go_simp <;> with_reducible rfl))
          case h5a0 => exact fun _ _ _ h => h
          try simp only [Act.put, List.setIfInBounds_toArray, List.set_cons_zero, List.set_cons_succ]
          refine wpAnyH_take (i := 1) (oi := ?ooa1) (v := ?vva1) ?hia1 (by kernel_rfl) ?h3a1 ?h4a1 ?h5a1 ?h6a1 (by assumption) ?h8a1
          case hia1 => (simp only [List.getElem?_toArray, List.getElem?_cons_succ, List.getElem?_cons_zero]; rfl)
          case h3a1 => kernel_rfl
          case h4a1 => kernel_rfl
          case h6a1 => (refine Or.inl ⟨by rfl, ?_⟩; intro w hSw; (try dsimp only at hSw); (go_simp <;> with_reducible rfl))
          case h5a1 => exact fun _ _ _ h => h
          try simp only [Act.put, List.setIfInBounds_toArray, List.set_cons_zero, List.set_cons_succ]
          refine wpAnyH_take (i := 2) (oi := ?ooa2) (v := ?vva2) ?hia2 (by kernel_rfl) ?h3a2 ?h4a2 ?h5a2 ?h6a2 (by assumption) ?h8a2
          case hia2 => (simp only [List.getElem?_toArray, List.getElem?_cons_succ, List.getElem?_cons_zero]; rfl)
          case h3a2 => kernel_rfl
          case h4a2 => kernel_rfl
          case h6a2 => (refine Or.inl ⟨by rfl, ?_⟩; intro w hSw; (try dsimp only at hSw); (go_simp <;> with_reducible rfl))
          case h5a2 => exact fun _ _ _ h => h
          try simp only [Act.put, List.setIfInBounds_toArray, List.set_cons_zero, List.set_cons_succ]
          refine wpAnyH_take (i := 3) (oi := ?ooa3) (v := ?vva3) ?hia3 (by kernel_rfl) ?h3a3 ?h4a3 ?h5a3 ?h6a3 (by assumption) ?h8a3
          case hia3 => (simp only [List.getElem?_toArray, List.getElem?_cons_succ, List.getElem?_cons_zero]; rfl)
          case h3a3 => kernel_rfl
          case h4a3 => kernel_rfl
          case h6a3 => (refine Or.inl ⟨by rfl, ?_⟩; intro w hSw; (try dsimp only at hSw); (go_simp <;> with_reducible rfl))
          case h5a3 => exact fun _ _ _ h => h
          try simp only [Act.put, List.setIfInBounds_toArray, List.set_cons_zero, List.set_cons_succ]
          refine wpAnyH_take (i := 4) (oi := ?ooa4) (v := ?vva4) ?hia4 (by kernel_rfl) ?h3a4 ?h4a4 ?h5a4 ?h6a4 (by assumption) ?h8a4
          case hia4 => (simp only [List.getElem?_toArray, List.getElem?_cons_succ, List.getElem?_cons_zero]; rfl)
          case h3a4 => kernel_rfl
          case h4a4 => kernel_rfl
          case h6a4 => (refine Or.inl ⟨by rfl, ?_⟩; intro w hSw; (try dsimp only at hSw); (go_simp <;> with_reducible rfl))
          case h5a4 => exact fun _ _ _ h => h
          try simp only [Act.put, List.setIfInBounds_toArray, List.set_cons_zero, List.set_cons_succ]
          refine wpAnyH_take (i := 5) (oi := ?ooa5) (v := ?vva5) ?hia5 (by kernel_rfl) ?h3a5 ?h4a5 ?h5a5 ?h6a5 (by assumption) ?h8a5
          case hia5 => (simp only [List.getElem?_toArray, List.getElem?_cons_succ, List.getElem?_cons_zero]; rfl)
          case h3a5 => kernel_rfl
          case h4a5 => kernel_rfl
          case h6a5 => (refine Or.inl ⟨by rfl, ?_⟩; intro w hSw; (try dsimp only at hSw); (go_simp <;> with_reducible rfl))
          case h5a5 => exact fun _ _ _ h => h
          try simp only [Act.put, List.setIfInBounds_toArray, List.set_cons_zero, List.set_cons_succ]
          refine wpAnyH_take (i := 6) (oi := ?ooa6) (v := ?vva6) ?hia6 (by kernel_rfl) ?h3a6 ?h4a6 ?h5a6 ?h6a6 (by assumption) ?h8a6
          case hia6 => (simp only [List.getElem?_toArray, List.getElem?_cons_succ, List.getElem?_cons_zero]; rfl)
          case h3a6 => kernel_rfl
          case h4a6 => kernel_rfl
          case h6a6 => (refine Or.inl ⟨by rfl, ?_⟩; intro w hSw; (try dsimp only at hSw); (go_simp <;> with_reducible rfl))
          case h5a6 => exact fun _ _ _ h => h
          try simp only [Act.put, List.setIfInBounds_toArray, List.set_cons_zero, List.set_cons_succ]
          refine wpAnyH_take (i := 7) (oi := ?ooa7) (v := ?vva7) ?hia7 (by kernel_rfl) ?h3a7 ?h4a7 ?h5a7 ?h6a7 (by assumption) ?h8a7
          case hia7 => (simp only [List.getElem?_toArray, List.getElem?_cons_succ, List.getElem?_cons_zero]; rfl)
          case h3a7 => kernel_rfl
          case h4a7 => kernel_rfl
          case h6a7 => (refine Or.inl ⟨by rfl, ?_⟩; intro w hSw; (try dsimp only at hSw); (go_simp <;> with_reducible rfl))
          case h5a7 => exact fun _ _ _ h => h
          try simp only [Act.put, List.setIfInBounds_toArray, List.set_cons_zero, List.set_cons_succ]
          refine wpAnyH_take (i := 8) (oi := ?ooa8) (v := ?vva8) ?hia8 (by kernel_rfl) ?h3a8 ?h4a8 ?h5a8 ?h6a8 (by assumption) ?h8a8
          case hia8 => (simp only [List.getElem?_toArray, List.getElem?_cons_succ, List.getElem?_cons_zero]; rfl)
          case h3a8 => kernel_rfl
          case h4a8 => kernel_rfl
          case h6a8 => (refine Or.inl ⟨by rfl, ?_⟩; intro w hSw; (try dsimp only at hSw); (go_simp <;> with_reducible rfl))
          case h5a8 => exact fun _ _ _ h => h
          try simp only [Act.put, List.setIfInBounds_toArray, List.set_cons_zero, List.set_cons_succ]
          refine wpAnyH_take (i := 9) (oi := ?ooa9) (v := ?vva9) ?hia9 (by kernel_rfl) ?h3a9 ?h4a9 ?h5a9 ?h6a9 (by assumption) ?h8a9
          case hia9 => (simp only [List.getElem?_toArray, List.getElem?_cons_succ, List.getElem?_cons_zero]; rfl)
          case h3a9 => kernel_rfl
          case h4a9 => kernel_rfl
          case h6a9 => (refine Or.inl ⟨by rfl, ?_⟩; intro w hSw; (try dsimp only at hSw); (go_simp <;> with_reducible rfl))
          case h5a9 => exact fun _ _ _ h => h
          try simp only [Act.put, List.setIfInBounds_toArray, List.set_cons_zero, List.set_cons_succ]
          refine wpAnyH_take (i := 10) (oi := ?ooa10) (v := ?vva10) ?hia10 (by kernel_rfl) ?h3a10 ?h4a10 ?h5a10 ?h6a10 (by assumption) ?h8a10
          case hia10 => (simp only [List.getElem?_toArray, List.getElem?_cons_succ, List.getElem?_cons_zero]; rfl)
          case h3a10 => kernel_rfl
          case h4a10 => kernel_rfl
          case h6a10 => (refine Or.inl ⟨by rfl, ?_⟩; intro w hSw; (try dsimp only at hSw); (go_simp <;> with_reducible rfl))
          case h5a10 => exact fun _ _ _ h => h
          try simp only [Act.put, List.setIfInBounds_toArray, List.set_cons_zero, List.set_cons_succ]
          refine wpAnyH_ready (rs := [11]) (by kernel_rfl) (by simp) (AllReadyH.cons (o := ?ooa11) ?hia11 (fun K hK => ?hka11) AllReadyH.nil)
          rotate_left
          case hia11 => (simp only [List.getElem?_toArray, List.getElem?_cons_succ, List.getElem?_cons_zero]; rfl)
          (rw [if_pos (by rfl)]; go_simp; refine hK.out _ _ (kp2g (g_of ((Below.refl _ _).alloc (Nat.le_refl _) _) _) n0 n5 hHeld) (fun hHeld => ?_); clear hK K)
          try simp only [Act.put, List.setIfInBounds_toArray, List.set_cons_zero, List.set_cons_succ]
          refine wpAnyH_ready (rs := [12]) (by kernel_rfl) (by simp) (AllReadyH.cons (o := ?ooa12) ?hia12 (fun K hK => ?hka12) AllReadyH.nil)
          rotate_left
          case hia12 => (simp only [List.getElem?_toArray, List.getElem?_cons_succ, List.getElem?_cons_zero]; rfl)
          (rw [if_pos (by rfl)]; refine wp_append_any _ (.tmp 41) (.tmp 52) _ rfl w1.heap.size 84 i0 _ 2 16 Try.underlying47 hi0 hz0 hz1 hz2 rfl (by decide) _ _ _ rfl (World.ownsRow.alloc (own_drewT HO.out) _) (wr.heap.size + 1) (some ⟨wr.heap.size, 0, none⟩) 1 1 [.int .i64 x0, .int .i64 y] rfl ⟨by simp, fun _ => ⟨⟨wr.heap.size, 0, none⟩, rfl, Nat.lt_succ_self _, new_cells wr.drew _ _⟩⟩ (valsTn_one [(x0, y)]) (by unfold maxLen; omega) (by omega) (by simp <;> omega) ?_; intro v3 w5 hown3 hgrow3 hat3; refine hK.out _ _ (kp2g hgrow3 n0 n5 hHeld) (fun hHeld => ?_); clear hK K)
          try simp only [Act.put, List.setIfInBounds_toArray, List.set_cons_zero, List.set_cons_succ]
          refine wpAnyH_take (i := 13) (oi := ?ooa13) (v := ?vva13) ?hia13 (by kernel_rfl) ?h3a13 ?h4a13 ?h5a13 ?h6a13 (by assumption) ?h8a13
          case hia13 => (simp only [List.getElem?_toArray, List.getElem?_cons_succ, List.getElem?_cons_zero]; rfl)
          case h3a13 => kernel_rfl
          case h4a13 => kernel_rfl
          case h6a13 => (refine Or.inl ⟨by rfl, ?_⟩; intro w hSw; (try dsimp only at hSw); (go_simp <;> with_reducible rfl))
          case h5a13 => exact fun _ _ _ h => h
          try simp only [Act.put, List.setIfInBounds_toArray, List.set_cons_zero, List.set_cons_succ]
          refine wpAnyH_done (by kernel_rfl) ?_ _
          have HF : Hid (w5.ownsRow w1.heap.size 84 2 v3 (tfTo hs gs (k + 1)).length (valsTn (tfTo hs gs (k + 1))) ∧ (∀ i, i < hs.length → w5.cell? ⟨g2, o2 + i, none⟩ = some (.int .i64 (gs.getD i 0))) ∧ Below w.heap.size w w5 ∧ v3.ownBlock ≠ some g2) := by
            have hB := HRR.out.2.2.1
            have hsz := hB.size
            refine ⟨by rw [HN2.out, List.length_append, valsTn_append]; exact hown3, fun i hi => (World.cell?_of_block (hHeld.2.block _ (World.block_lt_of_cell? wr _ (HRR.out.2.1 i hi)) (fun e => n5 e.symm))).trans (HRR.out.2.1 i hi), hB.grown hHeld.2 hsz (fun q hq => by have := (HO.out.lt q hq).1; omega), ?_⟩
            rcases hat3 with e | e
            · rw [e]; exact n5
            · rw [e]; intro c; have c := Option.some.inj c; have hszr2 : g2 < wr.heap.size := hszr; simp at c; omega
          have hs5 : w1.heap.size < w5.heap.size := by have := hHeld.2.size; omega
          clear HO HRR hown3 hgrow3 hat3 hHeld n0 n5 c0 c1
          go_wp2_with fail
          go_roundw
          case rel => exact ⟨k + 1, by omega, by go_num, HF.out, hs5⟩
          case measure => simp [intOf]; omega
        · have e3 : decide (0 < y) = false := decide_eq_false hy0
          have HN := Lib.hid (nn hy0)
          clear ny nn hy0
          have HF : Hid (wr.ownsRow w1.heap.size 84 2 u7 (tfTo hs gs (k + 1)).length (valsTn (tfTo hs gs (k + 1))) ∧ (∀ i, i < hs.length → wr.cell? ⟨g2, o2 + i, none⟩ = some (.int .i64 (gs.getD i 0))) ∧ Below w.heap.size w wr ∧ u7.ownBlock ≠ some g2) := by show _ ∧ _; rw [HN.out]; exact HR.out
          clear HR HN
          go_wp2_with fail
          go_roundw
          case rel => exact ⟨k + 1, by omega, by go_num, HF.out, hsw⟩
          case measure => simp [intOf]; omega
      · obtain rfl : k = hs.length := by omega
        rcases Flat.own (zs := flatTn (tfTo hs gs hs.length)) HR.out.1 with ⟨_, hz⟩ | ⟨g, cp, rfl, lg, F, hcp⟩
        · have := HS.out; omega
        have HF := Lib.hid (And.intro F HR.out.2.2.1)
        clear HR F
        go_wp2_with fail
        go_returns
        exact tt_yes rfl rfl (by omega) HF.out.1 hcp HF.out.2
end Go.Proofs.Ytclpbbhhaclgbaa
namespace Go.Proofs.Ytclpbbhhaclgbaa
theorem led_as {hs : List Hd} (h : vlR hs = true) : ∃ L : Led, hs = rawL L ∧ VL L ∧ ledOf hs = L :=
  ⟨ledOf hs, (vlR_is h).1.symm, (vlR_is h).2, rfl⟩
theorem hd_get (L : Led) {k : Nat} (h : k < L.length) : (rawL L).getD k hd0 = ((L.getD k (0, 0)).1, (L.getD k (0, 0)).2.num, ((L.getD k (0, 0)).2.den : Int)) := raw_get L h
theorem un_raw (L : Led) : unR (rawL L) = unitsL L (lcmTo L L.length) := by
  unfold unR unitsL
  rw [led_raw, raw_len]
  unfold rawL
  rw [List.map_map]
  refine List.map_congr_left fun x _ => ?_
  show (lcmTo L L.length : Int) / (x.2.den : Int) * x.2.num = ((lcmTo L L.length / x.2.den : Nat) : Int) * x.2.num
  rw [Int.natCast_ediv]
theorem mem_le_sum : ∀ {zs : List Int}, (∀ z ∈ zs, 0 ≤ z) → ∀ z ∈ zs, z ≤ zs.sum := by
  intro zs
  induction zs with
  | nil => intro _ z hz; simp at hz
  | cons h t ih =>
    intro hp z hz
    have h0 := hp h (List.mem_cons_self ..)
    have ht : 0 ≤ t.sum := by
      have : ∀ {l : List Int}, (∀ z ∈ l, 0 ≤ z) → 0 ≤ l.sum := by
        intro l
        induction l with
        | nil => intro _; exact Int.le_refl _
        | cons a b ib =>
          intro hq
          have := hq a (List.mem_cons_self ..)
          have := ib fun z hz => hq z (List.mem_cons_of_mem _ hz)
          rw [List.sum_cons]; omega
      exact this fun z hz => hp z (List.mem_cons_of_mem _ hz)
    rw [List.sum_cons]
    rcases List.mem_cons.1 hz with rfl | hz
    · omega
    · have := ih (fun q hq => hp q (List.mem_cons_of_mem _ hq)) z hz
      omega
theorem un_nonneg {L : Led} (hv : VL L) (n : Nat) : ∀ z ∈ unitsL L n, 0 ≤ z := by
  intro z hz
  unfold unitsL at hz
  obtain ⟨x, hx, rfl⟩ := List.mem_map.1 hz
  have := ((frB_iff x.2).1 (hv.fr x hx)).1
  exact Int.mul_nonneg (Int.natCast_nonneg _) this
theorem un_sum {hs : List Hd} (h : vlR hs = true) : (unR hs).sum = (lcmTo (ledOf hs) hs.length : Int) ∧ ∀ z ∈ unR hs, 0 ≤ z ∧ z ≤ (lcmTo (ledOf hs) hs.length : Int) := by
  obtain ⟨L, rfl, hv, e⟩ := led_as h
  rw [led_raw, raw_len, un_raw]
  have hs := units_whole hv.one (n := lcmTo L L.length) lcm_all
  refine ⟨hs, fun z hz => ⟨un_nonneg hv _ z hz, ?_⟩⟩
  rw [← hs]
  exact mem_le_sum (un_nonneg hv _) z hz
theorem mem_at (L : Led) {k : Nat} (h : k < L.length) : L.getD k (0, 0) ∈ L := by
  rw [List.getD_eq_getElem?_getD, List.getElem?_eq_getElem h]; exact List.getElem_mem _
theorem cd_rem {hs : List Hd} (h : vlR hs = true) {k : Nat} (hk : k < hs.length) : (lcmTo (ledOf hs) hs.length : Int).tmod (hs.getD k hd0).2.2 = 0 ∧ 1 ≤ (hs.getD k hd0).2.2 ∧ (hs.getD k hd0).2.2 ≤ 10000 := by
  obtain ⟨L, rfl, hv, e⟩ := led_as h
  rw [raw_len] at hk
  rw [led_raw, raw_len, hd_get L hk]
  have hd := lcm_dvd L L.length k hk
  have hf := (frB_iff _).1 (hv.fr _ (mem_at L hk))
  have h1 := den_pos (L.getD k (0, 0)).2
  refine ⟨Int.tmod_eq_zero_of_dvd ?_, h1, hf.2.2⟩
  exact Int.natCast_dvd_natCast.2 hd
end Go.Proofs.Ytclpbbhhaclgbaa
namespace Go.Proofs.Ytclpbbhhaclgbaa
open Go.RowKit
set_option linter.unusedSimpArgs false
set_option linter.unusedVariables false

/-- the turn's owner, where the model reads it -/
theorem who_at {w : World} {g o : Nat} {ts : List Tn} (hc : ∀ i, i < ts.length → w.cell? ⟨g, o + i * 2, none⟩ = some (.int .i64 (ts.getD i tn0).1) ∧ w.cell? ⟨g, o + i * 2 + 1, none⟩ = some (.int .i64 (ts.getD i tn0).2)) (hv : vtB ts = true) (t : Int) :
    idxT ts (t % sumT ts) < ts.length ∧ w.cell? ⟨g, o + idxT ts (t % sumT ts) * 2, none⟩ = some (.int .i64 (whoM ts t)) := by
  obtain ⟨l1, l2, ho, s0, s1⟩ := vt_is hv
  have r0 := Int.emod_nonneg t (show sumT ts ≠ 0 by omega)
  have r1 := Int.emod_lt_of_pos t (show 0 < sumT ts by omega)
  have hl := idx_lt ts _ r1 r0
  exact ⟨hl, (hc _ hl).1⟩

theorem iValidTurns (a : Option Addr) (cap : Nat) (ts : List Tn) (w : World) (h : IsTn w a ts) (hn : ts.length ≤ 1048576) (hc : ts.length ≤ cap) :
    Calls Try.prog 41 #[.slice a ts.length cap] w fun e w' => e = .returned (.bool (vtB ts)) ∧ Below w.heap.size w w' := iVT a cap ts w h hn

end Go.Proofs.Ytclpbbhhaclgbaa
namespace Go.Proofs.Ytclpbbhhaclgbaa
open Go.RowKit
set_option linter.unusedSimpArgs false
set_option linter.unusedVariables false

end Go.Proofs.Ytclpbbhhaclgbaa
namespace Go.Proofs.Ytclpbbhhaclgbaa
open Go.RowKit
set_option linter.unusedSimpArgs false
set_option linter.unusedVariables false

theorem inight (t : Int) (w : World) (h : 0 ≤ t) (h2 : t ≤ 1000000) :
    Calls Try.prog 110 #[.int .i64 t] w fun e w' => e = .returned (.bool (isNi t)) ∧ w = w' := by
  have r0 := Int.emod_nonneg t (show (24 : Int) ≠ 0 by omega)
  have r1 := Int.emod_lt_of_pos t (show (0 : Int) < 24 by omega)
  unfold isNi
  by_cases h1 : t % 24 < 6
  · have e1 : decide (t % 24 < 6) = true := decide_eq_true h1
    clear h1
    go_enter Try.func110, Try.ntmps110
    go_wp2
    go_ret
    exact ⟨ret_bool (by rw [e1]; rfl), rfl⟩
  · have e1 : decide (t % 24 < 6) = false := decide_eq_false h1
    clear h1
    go_enter Try.func110, Try.ntmps110
    go_wp2
    go_ret
    exact ⟨ret_bool (by rw [e1]; simp), rfl⟩

set_option maxHeartbeats 4000000 in
theorem icount (a : Option Addr) (cap : Nat) (ts : List Tn) (o x y : Int) (w : World) (h : IsTn w a ts) (hn : ts.length ≤ 1048576) :
    Calls Try.prog 73 #[.slice a ts.length cap, .int .i64 o, .int .i64 x, .int .i64 y] w fun e w' => e = .returned (.tuple #[.int .i64 (hoursV ts o x y), .int .i64 (nightsV ts o x y)]) ∧ Below w.heap.size w w' := by
  have IV := iVT a cap ts w h hn
  have H := Lib.hid h
  cases hv : vtB ts with
  | false =>
    have HP : Hid (hoursV ts o x y = -1 ∧ nightsV ts o x y = -1) := ⟨by unfold hoursV; rw [hv]; rfl, by unfold nightsV; rw [hv]; rfl⟩
    rw [hv] at IV
    clear hv h
    go_enter Try.func73, Try.ntmps73
    go_wp2_with fail
    refine IV.mono ?_
    rintro e w1 ⟨rfl, C⟩
    go_wp2_with fail
    go_returns
    exact ⟨by rw [HP.out.1, HP.out.2]; rfl, C⟩
  | true =>
    obtain ⟨l1, l2, ho, s0, s1⟩ := vt_is hv
    obtain ⟨N, hN⟩ : ∃ N, (sumT ts).toNat = N := ⟨_, rfl⟩
    have IO := fun W hW => iownersN a cap ts W hW hv N hN
    have HN := Lib.hid hN
    have N1 : 1 ≤ N := by omega
    have N2 : N ≤ 336 := by omega
    have HS := Lib.hid s0
    rw [hv] at IV
    cases hb : timesB x y with
    | false =>
      have HP : Hid (hoursV ts o x y = -1 ∧ nightsV ts o x y = -1) := ⟨by unfold hoursV; rw [hv, hb]; rfl, by unfold nightsV; rw [hv, hb]; rfl⟩
      have ht : ¬ (0 ≤ x ∧ x ≤ y ∧ y ≤ 5000) := fun c => by
        unfold timesB at hb; rw [decide_eq_true c.1, decide_eq_true c.2.1, decide_eq_true c.2.2] at hb; cases hb
      clear hv h hb ho hN s0 s1
      by_cases h1 : x < 0
      · have e1 : decide (x < 0) = true := decide_eq_true h1
        clear ht h1
        go_enter Try.func73, Try.ntmps73
        go_wp2_with fail
        refine IV.mono ?_
        rintro e w1 ⟨rfl, C⟩
        go_wp2_with fail
        go_returns
        exact ⟨by rw [HP.out.1, HP.out.2]; rfl, C⟩
      · have e1 : decide (x < 0) = false := decide_eq_false h1
        by_cases h2 : y < x
        · have e2 : decide (y < x) = true := decide_eq_true h2
          clear ht h1 h2
          go_enter Try.func73, Try.ntmps73
          go_wp2_with fail
          refine IV.mono ?_
          rintro e w1 ⟨rfl, C⟩
          go_wp2_with fail
          go_returns
          exact ⟨by rw [HP.out.1, HP.out.2]; rfl, C⟩
        · have e2 : decide (y < x) = false := decide_eq_false h2
          have e3 : decide (5000 < y) = true := decide_eq_true (by omega)
          clear ht h1 h2
          go_enter Try.func73, Try.ntmps73
          go_wp2_with fail
          refine IV.mono ?_
          rintro e w1 ⟨rfl, C⟩
          go_wp2_with fail
          go_returns
          exact ⟨by rw [HP.out.1, HP.out.2]; rfl, C⟩
    | true =>
      obtain ⟨M, hM⟩ : ∃ M, (y - x).toNat = M := ⟨_, rfl⟩
      have HP : Hid (hoursV ts o x y = cntF (fun n => whoM ts n == o) x M ∧ nightsV ts o x y = cntF (fun n => (whoM ts n == o) && isNi n) x M) := ⟨by unfold hoursV; rw [hv, hb, hM]; rfl, by unfold nightsV; rw [hv, hb, hM]; rfl⟩
      unfold timesB at hb
      simp only [Bool.and_eq_true, decide_eq_true_eq] at hb
      obtain ⟨⟨t0, t1⟩, t2⟩ := hb
      have M1 : x + (M : Int) = y := by omega
      have e1 : decide (x < 0) = false := decide_eq_false (by omega)
      have e2 : decide (y < x) = false := decide_eq_false (by omega)
      have e3 : decide (5000 < y) = false := decide_eq_false (by omega)
      have HM := Lib.hid M1
      clear hv h ho hN s0 s1 hM M1
      go_enter Try.func73, Try.ntmps73
      go_wp2_with fail
      refine IV.mono ?_
      rintro e w1 ⟨rfl, C⟩
      have HB := Lib.hid C
      clear C
      go_wp2_with fail
      refine (IO _ (tn_below H.out HB.out)).mono ?_
      rintro e w2 ⟨g, rfl, R, D⟩
      have HD := Lib.hid (bel_tr HB.out D)
      have HR := Lib.hid R
      clear D R
      go_wp2_with fail
      go_loop [11, 12, 13] (fun u v z => ∃ (b : Int) (m : Nat), z = .int .i64 b ∧ Hid (b = x + (m : Int)) ∧ x ≤ b ∧ b ≤ y ∧ m ≤ 5000 ∧ u = .int .i64 (cntF (fun n => whoM ts n == o) x m) ∧ v = .int .i64 (cntF (fun n => (whoM ts n == o) && isNi n) x m)) (fun _ _ z => (6000 - intOf z).toNat)
      case atStart => exact ⟨x, 0, rfl, by show x = x + ((0 : Nat) : Int); omega, Int.le_refl _, t1, by omega, rfl, rfl⟩
      case round =>
        obtain ⟨b, m, rfl, hbm, xb, yb, m5, rfl, rfl⟩ := hrel
        have c0 := cnt_bd (fun n => whoM ts n == o) x m
        have c1 := cnt_bd (fun n => (whoM ts n == o) && isNi n) x m
        have s0 := cnt_succ (fun n => whoM ts n == o) x m
        have s1 := cnt_succ (fun n => (whoM ts n == o) && isNi n) x m
        rw [← hbm.out] at s0 s1
        by_cases hlt : b < y
        · obtain ⟨q, hq, hqN, hcell⟩ := who_cell HR.out HN.out HS.out (show 0 ≤ b by omega)
          have i0 : (0 : Int) ≤ (q : Int) := by omega
          have i1 : (q : Int) < (N : Int) := by omega
          have n0 : (0 : Int) < (N : Int) := by omega
          have b0 : 0 ≤ b := by omega
          have b5 : b < 6000 := by omega
          have m5b : m + 1 ≤ 5000 := by have := hbm.out; omega
          have hb1 : Hid (b + 1 = x + ((m + 1 : Nat) : Int)) := by have := hbm.out; show b + 1 = x + ((m + 1 : Nat) : Int); omega
          generalize cntF (fun n => whoM ts n == o) x m = u0 at c0 s0
          generalize cntF (fun n => (whoM ts n == o) && isNi n) x m = v0 at c1 s1
          obtain ⟨c00, c01⟩ := c0
          obtain ⟨c10, c11⟩ := c1
          generalize whoM ts b = k at hcell s0 s1
          by_cases e : k = o
          · cases hn2 : isNi b with
            | true =>
              have IN := fun W => inight b W b0 (by omega)
              rw [hn2] at IN s1
              have S0 : Hid (cntF (fun n => whoM ts n == o) x (m + 1) = u0 + 1) := by show _ = u0 + 1; rw [s0, if_pos (by simpa using e)]
              have S1 : Hid (cntF (fun n => (whoM ts n == o) && isNi n) x (m + 1) = v0 + 1) := by show _ = v0 + 1; rw [s1, if_pos (by simpa using e)]
              subst e
              clear s0 s1 hn2
              go_wp2_with fail
              refine (IN _).mono ?_
              rintro e w' ⟨rfl, rfl⟩
              go_wp2_with fail
              go_round
              case rel => exact ⟨b + 1, m + 1, rfl, hb1.out, by omega, by omega, m5b, by rw [S0.out], by rw [S1.out]⟩
              case measure => simp [intOf]; omega
            | false =>
              have IN := fun W => inight b W b0 (by omega)
              rw [hn2] at IN s1
              have S0 : Hid (cntF (fun n => whoM ts n == o) x (m + 1) = u0 + 1) := by show _ = u0 + 1; rw [s0, if_pos (by simpa using e)]
              have S1 : Hid (cntF (fun n => (whoM ts n == o) && isNi n) x (m + 1) = v0) := by show _ = v0; rw [s1, if_neg (by simp)]; omega
              subst e
              clear s0 s1 hn2
              go_wp2_with fail
              refine (IN _).mono ?_
              rintro e w' ⟨rfl, rfl⟩
              go_wp2_with fail
              go_round
              case rel => exact ⟨b + 1, m + 1, rfl, hb1.out, by omega, by omega, m5b, by rw [S0.out], by rw [S1.out]⟩
              case measure => simp [intOf]; omega
          · have S0 : Hid (cntF (fun n => whoM ts n == o) x (m + 1) = u0) := by show _ = u0; rw [s0, if_neg (by simpa using e)]; omega
            have S1 : Hid (cntF (fun n => (whoM ts n == o) && isNi n) x (m + 1) = v0) := by show _ = v0; rw [s1, if_neg (by simp [e])]; omega
            have e7 : (k != o) = true := by simpa using e
            clear s0 s1 e
            go_wp2_with fail
            go_round
            case rel => exact ⟨b + 1, m + 1, rfl, hb1.out, by omega, by omega, m5b, by rw [S0.out], by rw [S1.out]⟩
            case measure => simp [intOf]; omega
        · have hmM : m = M := by have := hbm.out; have := HM.out; omega
          have HP2 := HP.out
          rw [← hmM] at HP2
          have HQ := Lib.hid HP2
          clear HP2 HP s0 s1 c0 c1 hmM
          go_wp2_with fail
          go_returns
          exact ⟨by rw [HQ.out.1, HQ.out.2]; rfl, HD.out⟩

theorem iHoursIn (a : Option Addr) (cap : Nat) (ts : List Tn) (o x y : Int) (w : World) (h : IsTn w a ts) (hn : ts.length ≤ 1048576) (hc : ts.length ≤ cap) (wo : (Lit.int .i64 o).wf = true) (wx : (Lit.int .i64 x).wf = true) (wy : (Lit.int .i64 y).wf = true) :
    Calls Try.prog 40 #[.slice a ts.length cap, .int .i64 o, .int .i64 x, .int .i64 y] w fun e w' => e = .returned (.int .i64 (hoursV ts o x y)) ∧ Below w.heap.size w w' := by
  have IC := icount a cap ts o x y w h hn
  clear h
  go_enter Try.func40, Try.ntmps40
  go_wp2_with fail
  refine IC.mono ?_
  rintro e w1 ⟨rfl, C⟩
  go_wp2_with fail
  go_ret
  exact ⟨rfl, C⟩
end Go.Proofs.Ytclpbbhhaclgbaa
namespace Go.Proofs.Ytclpbbhhaclgbaa
open Go.RowKit
set_option linter.unusedSimpArgs false
set_option linter.unusedVariables false

end Go.Proofs.Ytclpbbhhaclgbaa
namespace Go.Proofs.Ytclpbbhhaclgbaa
open Go.RowKit
set_option linter.unusedSimpArgs false
set_option linter.unusedVariables false

/-- turns with one more, merged with the last one or behind it -/
def mrg1 (out : List Tn) (x : Tn) (c : Bool) : List Tn := if c = true then out.set (out.length - 1) ((out.getD (out.length - 1) tn0).1, (out.getD (out.length - 1) tn0).2 + x.2) else out ++ [x]
def prevT (ts : List Tn) (k : Nat) : Bool := decide (0 < k) && decide ((ts.getD (k - 1) tn0).1 = (ts.getD k tn0).1)
def mrgT (ts : List Tn) : Nat → List Tn
  | 0 => []
  | k + 1 => mrg1 (mrgT ts k) (ts.getD k tn0) (prevT ts k)
theorem getD_set_tn {l : List Tn} {i j : Nat} {z : Tn} (hi : i < l.length) : (l.set i z).getD j tn0 = if j = i then z else l.getD j tn0 := by
  rw [List.getD_eq_getElem?_getD, List.getD_eq_getElem?_getD, List.getElem?_set]
  by_cases e : i = j
  · subst e; rw [if_pos rfl, if_pos hi, if_pos rfl]; rfl
  · rw [if_neg e, if_neg (fun c => e c.symm)]
theorem getD_snoc {l : List Tn} {x : Tn} {j : Nat} : (l ++ [x]).getD j tn0 = if j = l.length then x else l.getD j tn0 := by
  rw [List.getD_eq_getElem?_getD, List.getD_eq_getElem?_getD]
  by_cases e : j = l.length
  · subst e; rw [if_pos rfl, List.getElem?_append_right (Nat.le_refl _)]; simp
  · rw [if_neg e]
    by_cases h : j < l.length
    · rw [List.getElem?_append_left h]
    · rw [List.getElem?_eq_none (by rw [List.length_append]; simp; omega), List.getElem?_eq_none (by omega)]
structure MrgIs (ts : List Tn) (k : Nat) : Prop where
  some : 0 < k → 0 < (mrgT ts k).length
  last : 0 < k → ((mrgT ts k).getD ((mrgT ts k).length - 1) tn0).1 = (ts.getD (k - 1) tn0).1
  len : (mrgT ts k).length ≤ k
  bd : ∀ j, j < (mrgT ts k).length → 0 ≤ ((mrgT ts k).getD j tn0).2 ∧ ((mrgT ts k).getD j tn0).2 ≤ 336 * (k : Int)
theorem mrg_is {ts : List Tn} (ho : ∀ j, j < ts.length → okT ts j = true) : ∀ k, k ≤ ts.length → MrgIs ts k := by
  intro k
  induction k with
  | zero => intro _; exact ⟨fun h => absurd h (by omega), fun h => absurd h (by omega), Nat.le_refl _, fun j h => absurd h (by show ¬ j < 0; omega)⟩
  | succ k ih =>
    intro hk
    have I := ih (by omega)
    have ok := (okT_iff ts k).1 (ho k (by omega))
    have e : mrgT ts (k + 1) = mrg1 (mrgT ts k) (ts.getD k tn0) (prevT ts k) := rfl
    cases hp : prevT ts k with
    | true =>
      have hp2 := hp
      unfold prevT at hp2
      simp only [Bool.and_eq_true, decide_eq_true_eq] at hp2
      have hs := I.some hp2.1
      rw [hp] at e
      have e2 : mrgT ts (k + 1) = (mrgT ts k).set ((mrgT ts k).length - 1) (((mrgT ts k).getD ((mrgT ts k).length - 1) tn0).1, ((mrgT ts k).getD ((mrgT ts k).length - 1) tn0).2 + (ts.getD k tn0).2) := e
      have hl : (mrgT ts (k + 1)).length = (mrgT ts k).length := by rw [e2, List.length_set]
      refine ⟨fun _ => by omega, fun _ => ?_, by have := I.len; omega, fun j hj => ?_⟩
      · rw [hl, e2, getD_set_tn (by omega), if_pos rfl]
        show ((mrgT ts k).getD ((mrgT ts k).length - 1) tn0).1 = _
        rw [I.last hp2.1, hp2.2]; rfl
      · rw [hl] at hj
        have b := I.bd j hj
        have b2 := I.bd ((mrgT ts k).length - 1) (by omega)
        rw [e2, getD_set_tn (by omega)]
        split
        · show 0 ≤ _ + _ ∧ _ + _ ≤ _
          omega
        · omega
    | false =>
      rw [hp] at e
      have e2 : mrgT ts (k + 1) = mrgT ts k ++ [ts.getD k tn0] := e
      have hl : (mrgT ts (k + 1)).length = (mrgT ts k).length + 1 := by rw [e2, List.length_append]; rfl
      refine ⟨fun _ => by omega, fun _ => ?_, by have := I.len; omega, fun j hj => ?_⟩
      · rw [hl, e2, getD_snoc, if_pos (by omega)]; rfl
      · rw [e2, getD_snoc]
        split
        · omega
        · have b := I.bd j (by omega)
          omega
theorem valsTn_set2 : ∀ (ts : List Tn) (k : Nat) (z : Int), k < ts.length → (valsTn ts).set (k * 2 + 1) (.int .i64 z) = valsTn (ts.set k ((ts.getD k tn0).1, z)) := by
  intro ts k z hk
  have h := flatTn_set ts k ((ts.getD k tn0).1, z) hk
  have e : (flatTn ts).set (k * 2) (ts.getD k tn0).1 = flatTn ts := by
    rw [← (flatTn_get ts k hk).1]
    apply List.ext_getElem?
    intro i
    rw [List.getElem?_set]
    by_cases c : k * 2 = i
    · subst c
      have hl := flatTn_len ts
      rw [if_pos rfl, if_pos (by omega), List.getD_eq_getElem?_getD, List.getElem?_eq_getElem (by omega)]; rfl
    · rw [if_neg c]
  dsimp only at h
  rw [e] at h
  unfold valsTn
  rw [← h, List.map_set]
theorem wrap_small {z : Int} (h : -2000000000 ≤ z ∧ z ≤ 2000000000) : IntKind.i64.wrap z = z := by rw [IntKind.wrap_i64]; omega
theorem mrg_some {out : List Tn} {x : Tn} {q : Nat} (hq : out.length = q + 1) : mrg1 out x true = out.set q ((out.getD q tn0).1, (out.getD q tn0).2 + x.2) := by
  unfold mrg1; rw [if_pos rfl, hq]; rfl
theorem mrg_none (out : List Tn) (x : Tn) : mrg1 out x false = out ++ [x] := rfl

end Go.Proofs.Ytclpbbhhaclgbaa
