/- Contracts and facts of functions of this program, in build order. Conditions: those stated in each. -/
import Derived.Test.YthagafkjlecagaaGrA
import Derived.Test.YthagafkjlecagaaGrB
import Derived.Laws.OwnMore
import Derived.Maps.AppendAt
import Derived.Deep.AppendLies
import Derived.Deep.Draws
import Derived.RegionTactic
import Derived.OwnWalk
import Derived.Deep.RegionHeld3
import Derived.Deep.DeepCutAuto
import Derived.Deep.Matrix
import Derived.Deep.QuietTactic
import Derived.BigQuiet
import Derived.Laws.AppendOwn
import Derived.Laws.BitsAllLaws
import Derived.Laws.BitsLemmas
import Derived.WalkLawsBesides
import Derived.OpenShut
import Derived.Deep.RegionWith
import Derived.Deep.MidRow
namespace Go.Proofs.Ythagafkjlecagaa
open Go.RowKit
set_option linter.unusedSimpArgs false
set_option linter.unusedVariables false
/-- a deed in memory -/
def IsDd (w : World) (g p : Nat) (x : Dd) : Prop := ∃ (A : Option Addr) (cz : Nat), w.cell? ⟨g, p, none⟩ = some (.int .i64 x.k) ∧ w.cell? ⟨g, p + 1, none⟩ = some (.int .i64 x.o) ∧ w.cell? ⟨g, p + 2, none⟩ = some (.int .i64 x.t) ∧ w.cell? ⟨g, p + 3, none⟩ = some (.int .i64 x.n) ∧ w.cell? ⟨g, p + 4, none⟩ = some (.int .i64 x.d) ∧ w.cell? ⟨g, p + 5, none⟩ = some (.slice A x.zs.length cz) ∧ IsInts w A x.zs ∧ x.zs.length ≤ 1048576 ∧ x.zs.length ≤ cz
theorem dd_below {w w' : World} {g p : Nat} {x : Dd} (h : IsDd w g p x) (hB : Below w.heap.size w w') : IsDd w' g p x := by
  obtain ⟨A, cz, c0, c1, c2, c3, c4, c5, hi, hn, hc⟩ := h
  have kp : ∀ q v, w.cell? ⟨g, q, none⟩ = some v → w'.cell? ⟨g, q, none⟩ = some v := fun q v c => (hB.cell (p := ⟨g, q, none⟩) (World.block_lt_of_cell? w _ c)).trans c
  exact ⟨A, cz, kp _ _ c0, kp _ _ c1, kp _ _ c2, kp _ _ c3, kp _ _ c4, kp _ _ c5, ints_below hi hB, hn, hc⟩
/-- deeds, read through a slice at address a -/
def IsDds (w : World) (a : Option Addr) (ds : List Dd) : Prop := ds = [] ∨ ∃ g o, a = some ⟨g, o, none⟩ ∧ ∀ i, i < ds.length → IsDd w g (o + i * 6) (ds.getD i dd0)
theorem dds_below {w w' : World} {a : Option Addr} {ds : List Dd} (h : IsDds w a ds) (hB : Below w.heap.size w w') : IsDds w' a ds := by
  rcases h with h | ⟨g, o, ha, hc⟩
  · exact .inl h
  · exact .inr ⟨g, o, ha, fun i hi => dd_below (hc i hi) hB⟩
end Go.Proofs.Ythagafkjlecagaa
namespace Go.Proofs.Ythagafkjlecagaa
/-- what the model asks of the first k wishes of a list -/
def okW (n : Nat) (r : List Int) (k : Nat) : Bool := decide (0 ≤ r.getD k 0) && decide (r.getD k 0 < (n : Int)) && decide (r.getD k 0 ∉ r.take k)
/-- an order of n indices -/
def ordB (n : Nat) (r : List Int) : Bool := decide (r.length = n) && (List.range r.length).all (okW n r)
/-- valid wishes -/
def wishB (rs : List (List Int)) : Bool := decide (rs.length ≤ 8) && rs.all (ordB rs.length)
theorem has_all : ∀ (n : Nat) (l : List Int), (∀ i : Nat, i < n → (i : Int) ∈ l) → n ≤ l.length ∧ (l.length = n → l.Nodup ∧ ∀ x ∈ l, 0 ≤ x ∧ x < (n : Int)) := by
  intro n
  induction n with
  | zero =>
    intro l _
    refine ⟨Nat.zero_le _, fun h => ?_⟩
    have : l = [] := List.eq_nil_of_length_eq_zero h
    subst this
    exact ⟨List.nodup_nil, fun x hx => by simp at hx⟩
  | succ n ih =>
    intro l h
    have hn : (n : Int) ∈ l := h n (Nat.lt_succ_self n)
    have he : (l.erase (n : Int)).length = l.length - 1 := List.length_erase_of_mem hn
    have hpos : 0 < l.length := List.length_pos_of_mem hn
    obtain ⟨a, b⟩ := ih (l.erase (n : Int)) (fun i hi => (List.mem_erase_of_ne (by omega)).2 (h i (by omega)))
    refine ⟨by omega, fun hl => ?_⟩
    obtain ⟨c, d⟩ := b (by omega)
    have hp := List.perm_cons_erase hn
    refine ⟨hp.nodup_iff.2 (List.nodup_cons.2 ⟨fun hm => by have := d _ hm; omega, c⟩), fun x hx => ?_⟩
    rcases List.mem_cons.1 (hp.mem_iff.1 hx) with rfl | hm
    · omega
    · have := d x hm; omega
theorem in_all : ∀ (n : Nat) (l : List Int), l.Nodup → (∀ x ∈ l, 0 ≤ x ∧ x < (n : Int)) → l.length ≤ n ∧ (l.length = n → ∀ i : Nat, i < n → (i : Int) ∈ l) := by
  intro n
  induction n with
  | zero =>
    intro l _ h
    have : l = [] := List.eq_nil_iff_forall_not_mem.2 fun x hx => by have := h x hx; omega
    subst this
    exact ⟨Nat.le_refl _, fun _ i hi => absurd hi (Nat.not_lt_zero _)⟩
  | succ n ih =>
    intro l hd h
    by_cases hn : (n : Int) ∈ l
    · have he : (l.erase (n : Int)).length = l.length - 1 := List.length_erase_of_mem hn
      have hpos : 0 < l.length := List.length_pos_of_mem hn
      have hp := List.perm_cons_erase hn
      have hd2 := List.nodup_cons.1 (hp.nodup_iff.1 hd)
      obtain ⟨a, b⟩ := ih (l.erase (n : Int)) hd2.2 (fun x hx => by
        have h1 := h x (List.mem_of_mem_erase hx)
        have h2 : x ≠ (n : Int) := fun e => hd2.1 (by have h3 := hx; rw [e] at h3; exact h3)
        omega)
      refine ⟨by omega, fun hl i hi => ?_⟩
      by_cases e : i = n
      · subst e; exact hn
      · exact List.mem_of_mem_erase (b (by omega) i (by omega))
    · obtain ⟨a, b⟩ := ih l hd (fun x hx => by
        have h1 := h x hx
        have h2 : x ≠ (n : Int) := fun e => hn (by rw [← e]; exact hx)
        omega)
      exact ⟨by omega, fun hl => by omega⟩
theorem nodup_take {r : List Int} : r.Nodup ↔ ∀ k, k < r.length → r.getD k 0 ∉ r.take k := by
  have gd : ∀ k (hk : k < r.length), r.getD k 0 = r[k] := fun k hk => by rw [List.getD_eq_getElem?_getD, List.getElem?_eq_getElem hk]; rfl
  rw [List.nodup_iff_pairwise_ne, List.pairwise_iff_getElem]
  constructor
  · intro h k hk hm
    rw [gd k hk] at hm
    obtain ⟨i, hi, e⟩ := List.mem_take_iff_getElem.1 hm
    exact h i k (by omega) hk (by omega) e
  · intro h i j hi hj hij e
    have := h j hj
    rw [gd j hj, ← e] at this
    exact this (List.mem_take_iff_getElem.2 ⟨i, by omega, rfl⟩)
theorem ordB_iff (n : Nat) (r : List Int) : ordB n r = true ↔ r.length = n ∧ r.Nodup ∧ ∀ x ∈ r, 0 ≤ x ∧ x < (n : Int) := by
  have gd : ∀ k (hk : k < r.length), r.getD k 0 = r[k] := fun k hk => by rw [List.getD_eq_getElem?_getD, List.getElem?_eq_getElem hk]; rfl
  unfold ordB
  rw [Bool.and_eq_true, decide_eq_true_eq, rng_all, nodup_take]
  unfold okW
  simp only [Bool.and_eq_true, decide_eq_true_eq]
  constructor
  · rintro ⟨a, b⟩
    refine ⟨a, fun k hk => (b k hk).2, fun x hx => ?_⟩
    obtain ⟨k, hk, e⟩ := List.mem_iff_getElem.1 hx
    have := (b k hk).1
    rw [gd k hk, e] at this
    exact this
  · rintro ⟨a, b, c⟩
    exact ⟨a, fun k hk => ⟨by rw [gd k hk]; exact c _ (List.getElem_mem _), b k hk⟩⟩
/-- as the program asks it -/
def hasB (n : Nat) (r : List Int) : Bool := decide (r.length = n) && (List.range n).all fun i => decide ((i : Int) ∈ r)
theorem has_ord (n : Nat) (r : List Int) : hasB n r = ordB n r := by
  rw [Bool.eq_iff_iff, ordB_iff]
  unfold hasB
  rw [Bool.and_eq_true, decide_eq_true_eq, rng_all]
  simp only [decide_eq_true_eq]
  constructor
  · rintro ⟨a, b⟩
    exact ⟨a, (has_all n r b).2 a⟩
  · rintro ⟨a, b, c⟩
    exact ⟨a, (in_all n r b c).2 a⟩
end Go.Proofs.Ythagafkjlecagaa
namespace Go.Proofs.Ythagafkjlecagaa
set_option linter.unusedVariables false

theorem getD_setZ {zs : List Int} {i : Nat} (j : Nat) (z : Int) (hi : i < zs.length) : (zs.set i z).getD j 0 = if j = i then z else zs.getD j 0 := by
  rw [List.getD_eq_getElem?_getD, List.getD_eq_getElem?_getD, List.getElem?_set]
  by_cases e : i = j
  · subst e; rw [if_pos rfl, if_pos hi, if_pos rfl]; rfl
  · rw [if_neg e, if_neg (fun c => e c.symm)]
theorem ext_z {l l' : List Int} (hl : l.length = l'.length) (h : ∀ i, i < l.length → l.getD i 0 = l'.getD i 0) : l = l' := by
  apply List.ext_getElem hl
  intro i h1 h2
  have := h i h1
  rwa [List.getD_eq_getElem?_getD, List.getElem?_eq_getElem h1, List.getD_eq_getElem?_getD, List.getElem?_eq_getElem h2] at this
/-- 1, 2, 3 .. -/
def marksF (n : Nat) : List Int := (List.range n).map fun (i : Nat) => (1 : Int) + (i : Int)
theorem marksF_len (n : Nat) : (marksF n).length = n := by unfold marksF; simp
theorem marksF_get (n : Nat) {k : Nat} (h : k < n) : (marksF n).getD k 0 = 1 + (k : Int) := by
  unfold marksF
  rw [List.getD_eq_getElem?_getD, List.getElem?_map, List.getElem?_range h]; rfl
/-- the first j numbers are marks -/
def markTo (zs : List Int) (j : Nat) : List Int := marksF j ++ zs.drop j
theorem markTo_len {zs : List Int} {j : Nat} (h : j ≤ zs.length) : (markTo zs j).length = zs.length := by unfold markTo; rw [List.length_append, marksF_len, List.length_drop]; omega
theorem markTo_zero (zs : List Int) : markTo zs 0 = zs := by unfold markTo; rfl
theorem markTo_end (zs : List Int) : markTo zs zs.length = marksF zs.length := by unfold markTo; simp
theorem markTo_succ {zs : List Int} {j : Nat} (h : j < zs.length) : (markTo zs j).set j (1 + (j : Int)) = markTo zs (j + 1) := by
  apply List.ext_getElem?
  intro i
  have e1 : marksF (j + 1) = marksF j ++ [1 + (j : Int)] := by unfold marksF; rw [List.range_succ, List.map_append]; rfl
  unfold markTo
  have hl := marksF_len j
  rw [e1, List.set_append, if_neg (by omega), hl, Nat.sub_self, List.append_assoc, List.drop_eq_getElem_cons h]
  rfl
end Go.Proofs.Ythagafkjlecagaa
namespace Go.Proofs.Ythagafkjlecagaa
open Go.RowKit
set_option linter.unusedSimpArgs false
set_option linter.unusedVariables false
theorem own_ints {w : World} {base : Nat} {v : Value} {zs : List Int} (h : w.ownsRow base 3 1 v zs.length (zs.map (Value.int .i64))) : ∃ (b : Option Addr) (cap : Nat), v = .slice b zs.length cap ∧ IsInts w b zs := by
  have h0 := h
  rcases h.2 with ⟨hv, hn⟩ | ⟨g, cap, cur, hv, _⟩
  · exact ⟨none, 0, by rw [hv, hn], .inl (List.eq_nil_of_length_eq_zero hn)⟩
  · subst hv
    refine ⟨some ⟨g, 0, none⟩, cap, rfl, .inr ⟨g, 0, rfl, fun i hi => ?_⟩⟩
    have := h0.cellAt i (by omega)
    rw [List.getElem?_map, List.getElem?_eq_getElem hi] at this
    rw [Nat.zero_add, this, List.getD_eq_getElem?_getD, List.getElem?_eq_getElem hi]
    rfl
theorem take_map (l : List Int) (k : Nat) (h : k < l.length) : (l.take (k + 1)).map (Value.int .i64) = (l.take k).map (Value.int .i64) ++ [.int .i64 (l.getD k 0)] := by
  rw [List.take_succ_eq_append_getElem h, List.map_append, List.getD_eq_getElem?_getD, List.getElem?_eq_getElem h]; rfl

/-- numbers in a row of the call's own -/
def OwnI (w : World) (base : Nat) (v : Value) (zs : List Int) : Prop := w.ownsRow base 3 1 v zs.length (zs.map (Value.int .i64))
theorem OwnI.nil (w : World) (base : Nat) : OwnI w base (.slice none 0 0) [] := World.ownsRow_nil w base 3 1
theorem OwnI.new {w W : World} (h : Below w.heap.size w W) : OwnI (W.alloc (.cells #[] 3)) w.heap.size (.slice (some ⟨W.heap.size, 0, none⟩) 0 0) [] :=
  ⟨by simp, .inr ⟨W.heap.size, 0, #[], rfl, h.size, Go.Deep.blk_alloc_new _ _, Nat.le_refl _, by unfold maxLen; omega, rfl, rfl⟩⟩
theorem OwnI.one {w W : World} (h : Below w.heap.size w W) (z : Int) : (W.alloc (.cells #[.int .i64 z] 3)).ownsRow w.heap.size 3 1 (.slice (some ⟨W.heap.size, 0, none⟩) 1 1) 1 [.int .i64 z] :=
  ⟨by simp, .inr ⟨W.heap.size, 1, #[.int .i64 z], rfl, h.size, Go.Deep.blk_alloc_new _ _, Nat.le_refl _, by unfold maxLen; omega, rfl, rfl⟩⟩
theorem OwnI.snoc {w : World} {base : Nat} {v : Value} {zs : List Int} {z : Int} (h : w.ownsRow base 3 1 v (zs.length + 1) (zs.map (Value.int .i64) ++ [.int .i64 z])) : OwnI w base v (zs ++ [z]) := by
  unfold OwnI; rw [List.length_append, List.map_append]; exact h
theorem OwnI.cons {w : World} {base : Nat} {v : Value} {zs : List Int} {z : Int} (h : w.ownsRow base 3 1 v (1 + zs.length) ([.int .i64 z] ++ zs.map (Value.int .i64))) : OwnI w base v (z :: zs) := by
  unfold OwnI; rw [List.length_cons, Nat.add_comm]; exact h
theorem OwnI.ints {w : World} {base : Nat} {v : Value} {zs : List Int} (h : OwnI w base v zs) : ∃ (b : Option Addr) (cap : Nat), v = .slice b zs.length cap ∧ IsInts w b zs := own_ints h
theorem OwnI.of_block {w w' : World} {base : Nat} {v : Value} {zs : List Int} (h : OwnI w base v zs) (hb : Below w.heap.size w w') : OwnI w' base v zs := by
  refine ⟨h.1, ?_⟩
  rcases h.2 with h0 | ⟨g, cap, cur, hv, hg, hb0, r⟩
  · exact .inl h0
  · exact .inr ⟨g, cap, cur, hv, hg, (hb.block g (Blk.lt hb0)).trans hb0, r⟩
theorem own_lower {w : World} {a b : Nat} {v : Value} {zs : List Int} (h : OwnI w b v zs) (hab : a ≤ b) : OwnI w a v zs := by
  refine ⟨h.1, ?_⟩
  rcases h.2 with h0 | ⟨g, cap, cur, hv, hg, r⟩
  · exact .inl h0
  · exact .inr ⟨g, cap, cur, hv, Nat.le_trans hab hg, r⟩
/-- what a function that hands back numbers leaves -/
def OutI (w : World) (R : List Int) (e : Ending) (w' : World) : Prop := ∃ v, e = .returned v ∧ OwnI w' w.heap.size v R ∧ Below w.heap.size w w'
theorem outI_nil {w w' : World} (h : Below w.heap.size w w') : OutI w [] (.returned (.slice none 0 0)) w' := ⟨_, rfl, OwnI.nil _ _, h⟩
theorem OwnI.grow {W : World} {base : Nat} {v : Value} {zs : List Int} (h : OwnI W base v zs) : ∀ q, v.ownBlock = some q → base ≤ q := fun q hq => (World.ownsRow.lt h q hq).1
theorem OwnI.at_ {w : World} {base n c : Nat} {b : Option Addr} {zs : List Int} (h : OwnI w base (.slice b n c) zs) : IsInts w b zs := by
  obtain ⟨b', c', e, hi⟩ := OwnI.ints h
  injection e with e1 e2 e3
  subst e1; exact hi
theorem OwnI.len_ {w : World} {base n c : Nat} {b : Option Addr} {zs : List Int} (h : OwnI w base (.slice b n c) zs) : n = zs.length := by
  obtain ⟨b', c', e, hi⟩ := OwnI.ints h
  injection e with e1 e2 e3
theorem OwnI.apart {w w' : World} {base : Nat} {v : Value} {zs : List Int} {row : Option Nat} (h : OwnI w base v zs) (hg : w.grownBy w' row) (hr : ∀ q, row = some q → q < base) : OwnI w' base v zs :=
  World.ownsRow.kept h hg (by
    cases e : v.ownBlock with
    | none => exact .inl rfl
    | some k =>
      refine .inr (fun c => ?_)
      have a := hr k c.symm
      have b := (World.ownsRow.lt h k e).1
      omega)
theorem below_gv {w a b : World} {row : Option Nat} (h : Below w.heap.size w a) (hG : a.grownBy b row) (hg : ∀ q, row = some q → w.heap.size ≤ q) : Below w.heap.size w b := h.grown hG h.size hg
theorem vals_set (zs : List Int) (j : Nat) (z : Int) : (zs.map (Value.int .i64)).set j (.int .i64 z) = (zs.set j z).map (Value.int .i64) := by rw [List.map_set]
theorem OwnI.of_row {w : World} {base g n : Nat} {f : Nat → Value} {zs : List Int} (h : w.rowIs g 3 n f) (hl : zs.length = n) (hf : ∀ j, j < n → f j = .int .i64 (zs.getD j 0)) (hb : base ≤ g) (hn : n ≤ 1048576) : OwnI w base (.slice (some ⟨g, 0, none⟩) n n) zs := by
  obtain ⟨cs, hh, hs, hc⟩ := h
  refine ⟨by simp, .inr ⟨g, n, cs, by rw [hl], hb, hh, by omega, by unfold maxLen; omega, by omega, ?_⟩⟩
  apply List.ext_getElem?
  intro j
  rw [List.getElem?_take, List.getElem?_map]
  by_cases e : j < zs.length
  · rw [if_pos (by omega), Array.getElem?_toList, hc j (by omega), hf j (by omega), List.getD_eq_getElem?_getD, List.getElem?_eq_getElem e]; rfl
  · rw [if_neg (by omega), List.getElem?_eq_none (by omega)]; rfl
theorem OwnI.made {w W : World} (h : Below w.heap.size w W) (n : Nat) (hn : n ≤ 1048576) : OwnI (W.alloc (.cells (madeCells #[.int .i64 0] n) 3)) w.heap.size (.slice (some ⟨W.heap.size, 0, none⟩) n n) (List.replicate n 0) :=
  OwnI.of_row (World.rowIs_made W (.int .i64 0) n 3) (List.length_replicate ..) (fun j hj => by rw [List.getD_eq_getElem?_getD, List.getElem?_replicate, if_pos hj]; rfl) h.size hn
theorem OwnI.set_ {w : World} {base g n c : Nat} {zs : List Int} (h : OwnI w base (.slice (some ⟨g, 0, none⟩) n c) zs) (j : Nat) (z : Int) : OwnI (w.setCell ⟨g, j, none⟩ (.int .i64 z)) base (.slice (some ⟨g, 0, none⟩) n c) (zs.set j z) := by
  obtain rfl := h.len_
  have a := (World.ownsRow.stored h j (.int .i64 z)).1
  rw [vals_set] at a
  unfold OwnI
  rw [List.length_set]; exact a
theorem OwnI.cell {w : World} {base g n c : Nat} {zs : List Int} (h : OwnI w base (.slice (some ⟨g, 0, none⟩) n c) zs) {j : Nat} (hj : j < zs.length) : w.cell? ⟨g, j, none⟩ = some (.int .i64 (zs.getD j 0)) := by
  rcases h.at_ with e | ⟨g', o', e, hc⟩
  · rw [e] at hj; simp at hj
  · injection e with e; injection e with e1 e2 e3; subst e1 e2
    have := hc j hj; rw [Nat.zero_add] at this; exact this
theorem OwnI.frozen {w : World} {base g n c : Nat} {zs : List Int} (h : OwnI w base (.slice (some ⟨g, 0, none⟩) n c) zs) (j : Nat) : w.frozen? ⟨g, j, none⟩ = false := by
  obtain rfl := h.len_
  exact World.ownsRow.frozenAt h j
theorem OwnI.blk {w : World} {base g n c : Nat} {zs : List Int} (h : OwnI w base (.slice (some ⟨g, 0, none⟩) n c) zs) : base ≤ g ∧ g < w.heap.size := World.ownsRow.lt h g rfl
/-- the first k of some numbers, and 0 behind them -/
def mixZ (zs : List Int) (k : Nat) : List Int := (List.range zs.length).map fun i => if i < k then zs.getD i 0 else 0
theorem mix_len (zs : List Int) (k : Nat) : (mixZ zs k).length = zs.length := by unfold mixZ; simp
theorem mix_get (zs : List Int) (k : Nat) {i : Nat} (h : i < zs.length) : (mixZ zs k).getD i 0 = if i < k then zs.getD i 0 else 0 := by
  unfold mixZ
  rw [List.getD_eq_getElem?_getD, List.getElem?_map, List.getElem?_range h]; rfl
theorem mix_all {zs : List Int} {k : Nat} (h : zs.length ≤ k) : mixZ zs k = zs := by
  refine ext_z (mix_len zs k) (fun i hi => ?_)
  rw [mix_len] at hi
  rw [mix_get zs k hi, if_pos (by omega)]
theorem mix_none {zs : List Int} {k : Nat} (h : ∀ i, i < k → i < zs.length → zs.getD i 0 = 0) : mixZ zs k = List.replicate zs.length 0 := by
  refine ext_z (by rw [mix_len, List.length_replicate]) (fun i hi => ?_)
  rw [mix_len] at hi
  have e : (List.replicate zs.length (0 : Int)).getD i 0 = 0 := by rw [List.getD_eq_getElem?_getD, List.getElem?_replicate, if_pos hi]; rfl
  rw [mix_get zs k hi, e]
  split
  · rename_i c; exact h i c hi
  · rfl
theorem mix_set {zs : List Int} {k : Nat} (h : k < zs.length) : (mixZ zs k).set k (zs.getD k 0) = mixZ zs (k + 1) := by
  refine ext_z (by rw [List.length_set, mix_len, mix_len]) (fun i hi => ?_)
  rw [List.length_set, mix_len] at hi
  rw [getD_setZ i _ (by rw [mix_len]; exact h), mix_get zs k hi, mix_get zs (k + 1) hi]
  by_cases e : i = k
  · subst e; rw [if_pos rfl, if_pos (by omega)]
  · rw [if_neg e]
    by_cases c : i < k
    · rw [if_pos c, if_pos (by omega)]
    · rw [if_neg c, if_neg (by omega)]
theorem g_set2 {w wr : World} {g j : Nat} {v : Value} (h : w.grownBy wr (some g)) : w.grownBy (wr.setCell ⟨g, j, none⟩ v) (some g) :=
  ⟨h.os, h.tape, h.output, by simpa [World.setCell] using h.size, fun i hi hne => (Below.heap_setCell wr ⟨g, j, none⟩ v i (by rintro rfl; exact hne rfl)).trans (h.block i hi hne)⟩
theorem g_of {w w' : World} (h : Below w.heap.size w w') (row : Option Nat) : w.grownBy w' row := ⟨h.os, h.tape, h.output, h.size, fun i hi _ => h.block i hi⟩
theorem below_g {w a b : World} {g : Nat} (h : Below w.heap.size w a) (hG : a.grownBy b (some g)) (hg : w.heap.size ≤ g) : Below w.heap.size w b := h.grown hG h.size (fun q hq => by injection hq with hq; omega)
theorem lmark_nil (w : World) : Calls Try.prog 55 #[.slice none 0 0, .int .i64 1] w fun e w' => e = .returned (.int .i64 1) ∧ w = w' := by
  go_enter Try.func55, Try.ntmps55
  go_wp2
  go_rounds 1
  go_ret
  exact ⟨rfl, rfl⟩
theorem lheld_nil (w : World) : Calls Try.prog 56 #[.slice none 0 0, .int .i64 1] w fun e w' => e = .returned (.int .i64 1) ∧ w = w' := by
  go_enter Try.func56, Try.ntmps56
  go_wp2
  go_rounds 1
  go_ret
  exact ⟨rfl, rfl⟩
set_option maxHeartbeats 2000000 in
theorem lmarkO (b : Option Addr) (c base : Nat) (zs : List Int) (w : World) (h : OwnI w base (.slice b zs.length c) zs) (hn : zs.length ≤ 1048576) :
    Calls Try.prog 55 #[.slice b zs.length c, .int .i64 1] w fun e w' => e = .returned (.int .i64 (1 + (zs.length : Int))) ∧ OwnI w' base (.slice b zs.length c) (marksF zs.length) ∧ w.grownBy w' (Value.slice b zs.length c).ownBlock := by
  rcases h.2 with ⟨e, h0⟩ | ⟨g, cap, cur, e, hg, hb, hc, _⟩
  · injection e with e1 e2 e3
    subst e1 e3
    rw [h0]
    refine (lmark_nil w).mono ?_
    rintro e w' ⟨rfl, rfl⟩
    exact ⟨rfl, OwnI.nil _ _, g_of (Below.refl _ _) _⟩
  · injection e with e1 e2 e3
    subst e1 e3
    have H := Lib.hid h
    clear h hb
    go_enter Try.func55, Try.ntmps55
    go_wp2
    go_loopw [1, 5] (fun k i wr => ∃ j : Nat, j ≤ zs.length ∧ i = .int .i64 j ∧ k = .int .i64 (1 + (j : Int)) ∧ Hid (wr.ownsRow base 3 1 (.slice (some ⟨g, 0, none⟩) zs.length c) zs.length ((markTo zs j).map (Value.int .i64)) ∧ w.grownBy wr (some g))) (fun _ i _ => zs.length - (intOf i).toNat)
    case atStart => exact ⟨0, Nat.zero_le _, rfl, rfl, by rw [markTo_zero]; exact H.out, g_of (Below.refl _ _) _⟩
    case round =>
      obtain ⟨j, hj, rfl, rfl, HO⟩ := hrel
      by_cases hlt : j < zs.length
      · have hl := markTo_len hj
        have hd := World.ownsRow.cellAt HO.out.1 j (by omega)
        rw [List.getElem?_map, List.getElem?_eq_getElem (by omega)] at hd
        have hf := World.ownsRow.frozenAt HO.out.1 j
        have hs := World.ownsRow.stored HO.out.1 j (.int .i64 (1 + (j : Int)))
        rw [vals_set, markTo_succ hlt] at hs
        have HS : Hid ((wr.setCell ⟨g, j, none⟩ (.int .i64 (1 + (j : Int)))).ownsRow base 3 1 (.slice (some ⟨g, 0, none⟩) zs.length c) zs.length ((markTo zs (j + 1)).map (Value.int .i64)) ∧ w.grownBy (wr.setCell ⟨g, j, none⟩ (.int .i64 (1 + (j : Int)))) (some g)) := ⟨hs.1, g_set2 HO.out.2⟩
        simp only [Option.map_some] at hd
        generalize (markTo zs j)[j] = z at hd
        clear hs hl HO
        go_wp2
        go_roundw
        case rel => exact ⟨j + 1, by omega, by go_num, by go_num, HS.out⟩
        case measure => simp [intOf]; omega
      · obtain rfl : j = zs.length := by omega
        have HE : Hid (OwnI wr base (.slice (some ⟨g, 0, none⟩) zs.length c) (marksF zs.length)) := by
          have := HO.out.1
          rw [markTo_end] at this
          show _
          unfold OwnI
          rw [marksF_len]; exact this
        go_wp2
        go_ret
        exact ⟨ret_int rfl, HE.out, HO.out.2⟩
set_option maxHeartbeats 1000000 in
theorem lheldO (b : Option Addr) (c n base : Nat) (w : World) (h : OwnI w base (.slice b n c) (marksF n)) (hn : n ≤ 1048576) :
    Calls Try.prog 56 #[.slice b n c, .int .i64 1] w fun e w' => e = .returned (.int .i64 (1 + (n : Int))) ∧ w = w' := by
  rcases h.at_ with h0 | ⟨g, o, rfl, hc⟩
  · have h1 := h.len_
    rw [h0] at h1
    obtain rfl : n = 0 := by simpa using h1
    clear h1 h0 h
    go_enter Try.func56, Try.ntmps56
    go_wp2
    go_rounds 1
    go_ret
    exact ⟨rfl, rfl⟩
  · have HC := Lib.hid hc
    clear hc h
    go_enter Try.func56, Try.ntmps56
    go_wp2
    go_loop [1, 5] (fun k i => ∃ j : Nat, j ≤ n ∧ i = .int .i64 j ∧ k = .int .i64 (1 + (j : Int))) (fun _ i => n - (intOf i).toNat)
    case atStart => exact ⟨0, Nat.zero_le _, rfl, rfl⟩
    case round =>
      obtain ⟨j, hj, rfl, rfl⟩ := hrel
      by_cases hlt : j < n
      · have hd := HC.out j (by rw [marksF_len]; exact hlt)
        rw [marksF_get n hlt] at hd
        go_wp2
        go_round
        case rel => exact ⟨j + 1, by omega, by go_num, by go_num⟩
        case measure => simp [intOf]; omega
      · go_wp2
        go_ret
        exact ⟨ret_int (by omega), rfl⟩
set_option maxHeartbeats 1000000 in
theorem lmarkS (g cap : Nat) (zs : List Int) (w : World) (s : Int) (h : Row w g zs) (hn : zs.length ≤ 1048576) (hs0 : 0 ≤ s) (hs1 : s ≤ 1000000000000) :
    Calls Try.prog 55 #[.slice (some ⟨g, 0, none⟩) zs.length cap, .int .i64 s] w fun e w' => e = .returned (.int .i64 (s + (zs.length : Int))) ∧ w.grownBy w' (some g) := by
  have H := Lib.hid h
  clear h
  go_enter Try.func55, Try.ntmps55
  go_wp2
  go_loopw [1, 5] (fun k i wr => ∃ j : Nat, j ≤ zs.length ∧ i = .int .i64 j ∧ k = .int .i64 (s + (j : Int)) ∧ (∃ f : Nat → Value, wr.rowIs g 3 zs.length f ∧ (∀ i, ∃ z : Int, f i = .int .i64 z)) ∧ w.grownBy wr (some g)) (fun _ i _ => zs.length - (intOf i).toNat)
  case atStart => exact ⟨0, Nat.zero_le _, rfl, by simp, ⟨_, H.out, fun i => ⟨_, rfl⟩⟩, g_of (Below.refl _ _) _⟩
  case round =>
    obtain ⟨j, hj, rfl, rfl, ⟨f, hrow, hfz⟩, hG⟩ := hrel
    by_cases hlt : j < zs.length
    · have hd := hrow.cell hlt
      obtain ⟨z, hz⟩ := hfz j
      rw [hz] at hd
      have hf := hrow.frozen j
      have hcon : (wr.setCell ⟨g, j, none⟩ (.int .i64 (s + (j : Int)))).rowIs g 3 zs.length (fun i => if i = j then .int .i64 (s + (j : Int)) else f i) :=
        hrow.set j (.int .i64 (s + (j : Int)))
      have hfz2 : ∀ i, ∃ z : Int, (fun i => if i = j then Value.int .i64 (s + (j : Int)) else f i) i = .int .i64 z := fun i => by
        by_cases e : i = j
        · exact ⟨_, if_pos e⟩
        · obtain ⟨z, hz⟩ := hfz i; exact ⟨z, (if_neg e).trans hz⟩
      have HR := Lib.hid hcon
      have HG := Lib.hid hG
      have HF := Lib.hid hfz2
      clear hcon hrow hG hfz hfz2 hz
      go_wp2
      go_roundw
      case rel => exact ⟨j + 1, by omega, by go_num, by go_num, ⟨_, HR.out, HF.out⟩, g_set2 HG.out⟩
      case measure => simp [intOf]; omega
    · have HG := Lib.hid hG
      clear hrow hG hfz
      go_wp2
      go_ret
      exact ⟨ret_int (by omega), HG.out⟩
theorem OwnI.far {w : World} {base : Nat} {v : Value} {zs : List Int} (h : OwnI w base v zs) {g j : Nat} (hp : v.ownBlock ≠ some g) (u : Value) : OwnI (w.setCell ⟨g, j, none⟩ u) base v zs :=
  World.ownsRow.kept h (g_set2 (g_of (Below.refl _ _) _)) (.inr hp)
theorem OwnI.grown {w w' : World} {base : Nat} {v : Value} {zs : List Int} {row : Option Nat} (h : OwnI w base v zs) (hg : w.grownBy w' row) (hp : v.ownBlock ≠ row) : OwnI w' base v zs := World.ownsRow.kept h hg (.inr hp)
theorem grown_alloc {w w' : World} {o : Obj} {row : Option Nat} (h : (w.alloc o).grownBy w' row) : w.grownBy w' row :=
  ⟨h.os, h.tape, h.output, Nat.le_trans (by rw [World.size_alloc]; omega) h.size, fun i hi hne => (h.block i (by rw [World.size_alloc]; omega) hne).trans (Below.heap_alloc w o i hi)⟩
theorem row_apart {w w' : World} {g g' : Nat} {zs : List Int} (h : Row w g zs) (hG : w.grownBy w' (some g')) (hne : g ≠ g') : Row w' g zs :=
  World.rowIs.of_block h (hG.block g (World.rowIs.lt h) (fun e => by injection e with e; exact hne e))
theorem OwnI.form_ {w : World} {base n c : Nat} {b : Option Addr} {zs : List Int} (h : OwnI w base (.slice b n c) zs) (hl : 0 < zs.length) : ∃ g, b = some ⟨g, 0, none⟩ ∧ base ≤ g := by
  obtain rfl := h.len_
  obtain ⟨g, cap, hv, hg, _⟩ := World.ownsRow.form h hl
  injection hv with e1 e2 e3
  exact ⟨g, e1, hg⟩
/-- one number more behind a row of the call's own -/
theorem wp_snoc {ops : Array Oper} {rest : List Oper} {o : Oper} {a : Act} {Q : Exit → Act → World → Prop} (hgd : o.guard = none) (s x : Operand)
    (ho : o.op = .call { callee := .builtin .append, args := #[s, x], argTypes := #[24, 24] })
    {W : World} {base : Nat} {v : Value} {zs : List Int} {z : Int} (hs : a.eval s = v) (hown : OwnI W base v zs) {g : Nat} (hx : a.eval x = .slice (some ⟨g, 0, none⟩) 1 1) (hg : W.heap.size = g) (hn : zs.length ≤ 1048576) (hbase : base ≤ W.heap.size)
    (h : ∀ v' w', OwnI w' base v' (zs ++ [z]) → W.grownBy w' v.ownBlock → (v'.ownBlock = v.ownBlock ∨ ∃ q, v'.ownBlock = some q ∧ W.heap.size ≤ q) → wpList Try.prog ops Q rest (a.put o.dst v') w') :
    wpList Try.prog ops Q (o :: rest) a (W.alloc (.cells #[.int .i64 z] 3)) := by
  subst hg
  obtain ⟨i0, hi, hz0, hz1, hz2⟩ := info_parts infoInt
  refine wpList_append_own_at _ hgd s x 24 ho base 3 i0 (.int .i64 0) 1 8 Try.underlying24 hi hz0 hz1 hz2 rfl (by decide) v zs.length _ hs (World.ownsRow.alloc hown _) ⟨W.heap.size, 0, none⟩ 1 1 [.int .i64 z] hx rfl (cell_one_new _ _ _) (fun x hx => by simp at hx; subst hx; rfl) (by unfold maxLen; omega) (by omega) (by rw [World.size_alloc]; omega) ?_
  intro v' w' h1 h2 _ h4
  refine h v' w' (OwnI.snoc h1) (grown_alloc h2) ?_
  rcases h4 with h4 | h4
  · exact .inl h4
  · exact .inr ⟨_, h4, by rw [World.size_alloc]; omega⟩
/-- a row keeps apart from one that grew -/
theorem own_apart2 {W : World} {base : Nat} {u v v' : Value} {us : List Int} (hu : OwnI W base u us) (h : v'.ownBlock = v.ownBlock ∨ ∃ q, v'.ownBlock = some q ∧ W.heap.size ≤ q) (hne : u.ownBlock ≠ v.ownBlock) (hs : u.ownBlock ≠ none) : u.ownBlock ≠ v'.ownBlock := by
  rcases h with h | ⟨q, h, hq⟩
  · rw [h]; exact hne
  · rw [h]
    cases e : u.ownBlock with
    | none => exact absurd e hs
    | some k =>
      have := (World.ownsRow.lt hu k e).2
      intro c; injection c with c; omega
end Go.Proofs.Ythagafkjlecagaa
namespace Go.Proofs.Ythagafkjlecagaa
open Go.RowKit

theorem block_of_add (a : Addr) (n : Nat) : (a.add n).block = a.block := by unfold Addr.add; split <;> rfl
theorem add_of_add (a : Addr) (i j : Nat) : (a.add i).add j = a.add (i + j) := by
  unfold Addr.add
  by_cases hi : i = 0 <;> by_cases hj : j = 0 <;> simp [hi, hj, Nat.add_assoc]

def Reads (w : World) (B size : Nat) (A : Option Addr) (n : Nat) (xs : List Value) : Prop :=
  xs.length = n * size ∧ (0 < n → ∃ ad, A = some ad ∧ ad.block < B ∧ ∀ j u, xs[j]? = some u → w.cell? (ad.add j) = some u)

section
variable {w w' : World} {B B' size n : Nat} {A : Option Addr} {xs : List Value}
theorem Reads.none_ : Reads w B size A 0 [] := ⟨by simp, fun h => absurd h (by omega)⟩
theorem Reads.at_ {k : Nat} (h : Reads w B 1 A n xs) (hk : k < n) : ∃ ad u, A = some ad ∧ ad.block < B ∧ xs[k]? = some u ∧ w.cell? (ad.add k) = some u := by
  obtain ⟨ad, e, hb, hc⟩ := h.2 (by omega)
  have hl : k < xs.length := by have := h.1; omega
  exact ⟨ad, xs[k], e, hb, List.getElem?_eq_getElem hl, hc k _ (List.getElem?_eq_getElem hl)⟩
theorem Reads.keep (h : Reads w B size A n xs) (hk : ∀ p : Addr, p.block < B → w'.cell? p = w.cell? p) : Reads w' B size A n xs :=
  ⟨h.1, fun hn => by
    obtain ⟨ad, e, hb, hc⟩ := h.2 hn
    exact ⟨ad, e, hb, fun j u hu => (hk _ (by rw [block_of_add]; exact hb)).trans (hc j u hu)⟩⟩
theorem Reads.more (h : Reads w B size A n xs) (hB : B ≤ B') : Reads w B' size A n xs :=
  ⟨h.1, fun hn => by
    obtain ⟨ad, e, hb, hc⟩ := h.2 hn
    exact ⟨ad, e, by omega, hc⟩⟩
theorem Reads.below (h : Reads w B size A n xs) (hb : Below B w w') : Reads w' B size A n xs := h.keep fun _ hp => hb.cell hp
theorem Reads.drew (h : Reads w B size A n xs) : Reads w.drew B size A n xs := h
theorem Reads.drewN (h : Reads w B size A n xs) (k : Nat) : Reads (w.drewN k) B size A n xs := h
theorem Reads.alloc (h : Reads w B size A n xs) (hB : B ≤ w.heap.size) (o : Obj) : Reads (w.alloc o) B size A n xs := h.keep fun p hp => World.cell?_alloc_lt w o p (by omega)
theorem Reads.setCell (h : Reads w B size A n xs) {p : Addr} (hB : B ≤ p.block) (u : Value) : Reads (w.setCell p u) B size A n xs :=
  h.keep fun q hq => World.cell?_setCell_other w p q u (fun e => by subst e; omega)
theorem Reads.grown (h : Reads w B size A n xs) {row : Option Nat} (hg : w.grownBy w' row) (hB : B ≤ w.heap.size) (hr : ∀ g, row = some g → B ≤ g) : Reads w' B size A n xs :=
  h.keep fun p hp => World.cell?_of_block (hg.block p.block (by omega) (fun e => by have := hr _ e.symm; omega))
theorem Reads.cut (h : Reads w B size A n xs) {k cap : Nat} (hk : k ≤ n) (hc : n ≤ cap) :
    Reads w B size (if cap = k then A else A.map (·.add (k * size))) (n - k) (xs.drop (k * size)) := by
  refine ⟨by rw [List.length_drop, h.1, Nat.sub_mul], fun hn => ?_⟩
  obtain ⟨ad, rfl, hb, hcell⟩ := h.2 (by omega)
  rw [if_neg (by omega)]
  refine ⟨ad.add (k * size), rfl, by rw [block_of_add]; exact hb, fun j u hu => ?_⟩
  rw [add_of_add]
  exact hcell _ u (by rw [← hu, List.getElem?_drop])
theorem Reads.of_own {base : Nat} {e : TypeId} {c : Nat} (h : w.ownsRow base e size (.slice A n c) n xs) : Reads w w.heap.size size A n xs := by
  refine ⟨h.1, fun hn => ?_⟩
  obtain ⟨g, cap, hv, _, hlt⟩ := h.form hn
  have hA : A = some ⟨g, 0, none⟩ := by injection hv
  subst hA
  exact ⟨_, rfl, hlt, h.cells (g := g) rfl⟩
end

section
variable {P : Program} (w : World)

theorem run_append_of_nil (base : Nat) (t ty e : TypeId) (i : TypeInfo) (size : Nat) (ht : P.underlying t = some (.slice e)) (hi : P.info? e = some i)
    (v : Value) (n : Nat) (xs : List Value) (hown : w.ownsRow base e size v n xs) (c : Nat) : (Builtin.append_ #[t, t] ty #[v, .slice none 0 c]).run P w = .ok v w := by
  rcases hown.2 with ⟨rfl, rfl⟩ | ⟨g, cap, cur, rfl, _, _, hnc, _⟩
  · simp [Builtin.append_, run_underlying ht, sizeOf, typeInfo, hi, Builtin.lenOf, Builtin.firstCells]
  · simp [Builtin.append_, run_underlying ht, sizeOf, typeInfo, hi, Builtin.lenOf, Builtin.firstCells, hnc, storeCells]

theorem run_append_any (base : Nat) (t ty e : TypeId) (i : TypeInfo) (z : Value) (size bytes : Nat) (ht : P.underlying t = some (.slice e)) (hi : P.info? e = some i) (hz : i.zero = some z)
    (hsize : i.size = size) (hby : i.bytes = bytes) (hzs : z.cells.size = size) (hsz : 0 < size)
    (v : Value) (n : Nat) (xs : List Value) (hown : w.ownsRow base e size v n xs)
    (B : Nat) (A : Option Addr) (m c : Nat) (news : List Value) (hr : Reads w B size A m news) (h1 : ∀ u ∈ news, u.oneCell' = true)
    (h63 : n + m ≤ maxLen) (hbytes : (n + m) * bytes ≤ 140737488355328) (hbase : base ≤ w.heap.size) :
    ∃ v' w', (Builtin.append_ #[t, t] ty #[v, .slice A m c]).run P w = .ok v' w' ∧ w'.ownsRow base e size v' (n + m) (xs ++ news) ∧ w.grownBy w' v.ownBlock ∧
      (v'.ownBlock = v.ownBlock ∨ v'.ownBlock = some w.heap.size) := by
  rcases A with _ | ad
  · have hm : m = 0 := by
      rcases Nat.eq_zero_or_pos m with h0 | h0
      · exact h0
      · obtain ⟨ad, h, _⟩ := hr.2 h0
        cases h
    subst hm
    have hn : news = [] := List.eq_nil_of_length_eq_zero (by simpa using hr.1)
    subst hn
    exact ⟨v, w, run_append_of_nil w base t ty e i size ht hi v n xs hown c, by simpa using hown, World.grownBy.refl w _, .inl rfl⟩
  · have hcells : ∀ j u, news[j]? = some u → w.cell? (ad.add j) = some u := by
      intro j u hu
      rcases Nat.eq_zero_or_pos m with h0 | h0
      · subst h0
        have hn : news = [] := List.eq_nil_of_length_eq_zero (by simpa using hr.1)
        subst hn
        simp at hu
      · obtain ⟨ad', h, _, hc⟩ := hr.2 h0
        injection h with h
        subst h
        exact hc j u hu
    obtain ⟨v', w', hrun, h2, h3, _, h5⟩ := run_append_own_at (P := P) w base t ty e i z size bytes ht hi hz hsize hby hzs hsz v n xs hown ad m c news hr.1 hcells h1 h63 hbytes hbase
    exact ⟨v', w', hrun, h2, h3, h5⟩

theorem wp_append_any {o : Oper} {a : Act} {K : Act → World → Prop} {Q : Exit → Act → World → Prop} (s x : Operand) (t : TypeId)
    (ho : o.op = .call { callee := .builtin .append, args := #[s, x], argTypes := #[t, t] })
    (base : Nat) (e : TypeId) (i : TypeInfo) (z : Value) (size bytes : Nat) (ht : P.underlying t = some (.slice e)) (hi : P.info? e = some i) (hz : i.zero = some z)
    (hsize : i.size = size) (hby : i.bytes = bytes) (hzs : z.cells.size = size) (hsz : 0 < size)
    (v : Value) (n : Nat) (xs : List Value) (hs : a.eval s = v) (hown : w.ownsRow base e size v n xs)
    (B : Nat) (A : Option Addr) (m c : Nat) (news : List Value) (hx : a.eval x = .slice A m c) (hr : Reads w B size A m news) (h1 : ∀ u ∈ news, u.oneCell' = true)
    (h63 : n + m ≤ maxLen) (hbytes : (n + m) * bytes ≤ 140737488355328) (hbase : base ≤ w.heap.size)
    (h : ∀ v' w', w'.ownsRow base e size v' (n + m) (xs ++ news) → w.grownBy w' v.ownBlock → (v'.ownBlock = v.ownBlock ∨ v'.ownBlock = some w.heap.size) → K (a.put o.dst v') w') : o.wp P a w K Q := by
  obtain ⟨v', w', hrun, h2, h3, h4⟩ := run_append_any (P := P) w base t o.type e i z size bytes ht hi hz hsize hby hzs hsz v n xs hown B A m c news hr h1 h63 hbytes hbase
  unfold Oper.wp execOp
  simp only [ho, resolve, invoke, builtin, Sem.run_bind, Sem.run_pure, Result.andThen_ok, List.map_toArray, List.map_cons, List.map_nil, hs, hx, hrun]
  exact h v' w' h2 h3 h4

theorem wpList_append_any {ops : Array Oper} {rest : List Oper} {o : Oper} {a : Act} {Q : Exit → Act → World → Prop} (hgd : o.guard = none) (s x : Operand) (t : TypeId)
    (ho : o.op = .call { callee := .builtin .append, args := #[s, x], argTypes := #[t, t] })
    (base : Nat) (e : TypeId) (i : TypeInfo) (z : Value) (size bytes : Nat) (ht : P.underlying t = some (.slice e)) (hi : P.info? e = some i) (hz : i.zero = some z)
    (hsize : i.size = size) (hby : i.bytes = bytes) (hzs : z.cells.size = size) (hsz : 0 < size)
    (v : Value) (n : Nat) (xs : List Value) (hs : a.eval s = v) (hown : w.ownsRow base e size v n xs)
    (B : Nat) (A : Option Addr) (m c : Nat) (news : List Value) (hx : a.eval x = .slice A m c) (hr : Reads w B size A m news) (h1 : ∀ u ∈ news, u.oneCell' = true)
    (h63 : n + m ≤ maxLen) (hbytes : (n + m) * bytes ≤ 140737488355328) (hbase : base ≤ w.heap.size)
    (h : ∀ v' w', w'.ownsRow base e size v' (n + m) (xs ++ news) → w.grownBy w' v.ownBlock → (v'.ownBlock = v.ownBlock ∨ v'.ownBlock = some w.heap.size) → wpList P ops Q rest (a.put o.dst v') w') : wpList P ops Q (o :: rest) a w :=
  wpList_plain hgd fun _ hK => wp_append_any w s x t ho base e i z size bytes ht hi hz hsize hby hzs hsz v n xs hs hown B A m c news hx hr h1 h63 hbytes hbase fun v' w' h2 h3 h4 => hK _ _ (h v' w' h2 h3 h4)

theorem step_append_any {ops : Array Oper} {o : Oper} {a : Act} {K : Act → World → Prop} {Q : Exit → Act → World → Prop} {E : Prop} (hgd : o.guard = none) (s x : Operand) (t : TypeId)
    (ho : o.op = .call { callee := .builtin .append, args := #[s, x], argTypes := #[t, t] })
    (base : Nat) (e : TypeId) (i : TypeInfo) (z : Value) (size bytes : Nat) (ht : P.underlying t = some (.slice e)) (hi : P.info? e = some i) (hz : i.zero = some z)
    (hsize : i.size = size) (hby : i.bytes = bytes) (hzs : z.cells.size = size) (hsz : 0 < size)
    (v : Value) (n : Nat) (xs : List Value) (hs : a.eval s = v) (hown : w.ownsRow base e size v n xs)
    (B : Nat) (A : Option Addr) (m c : Nat) (news : List Value) (hx : a.eval x = .slice A m c) (hr : Reads w B size A m news) (h1 : ∀ u ∈ news, u.oneCell' = true)
    (h63 : n + m ≤ maxLen) (hbytes : (n + m) * bytes ≤ 140737488355328) (hbase : base ≤ w.heap.size)
    (h : ∀ v' w', w'.ownsRow base e size v' (n + m) (xs ++ news) → w.grownBy w' v.ownBlock → (v'.ownBlock = v.ownBlock ∨ v'.ownBlock = some w.heap.size) → K (a.put o.dst v') w') :
    if Region.wanted o (yielded ops a.tmps) = true then Oper.wp P o a w K Q else E := by
  have hw : Region.wanted o (yielded ops a.tmps) = true := by simp [Region.wanted, hgd]
  rw [if_pos hw]
  exact wp_append_any w s x t ho base e i z size bytes ht hi hz hsize hby hzs hsz v n xs hs hown B A m c news hx hr h1 h63 hbytes hbase h
end

theorem ints_reads {w : World} {a : Option Addr} {zs : List Int} (h : IsInts w a zs) : Reads w w.heap.size 1 a zs.length (zs.map (Value.int .i64)) := by
  refine ⟨by simp, fun hn => ?_⟩
  rcases h with rfl | ⟨g, o, rfl, hc⟩
  · simp at hn
  · refine ⟨⟨g, o, none⟩, rfl, World.block_lt_of_cell? w _ (hc 0 hn), fun j u hu => ?_⟩
    have hj : j < zs.length := by
      rcases Nat.lt_or_ge j zs.length with h | h
      · exact h
      · rw [List.getElem?_eq_none (by simpa using h)] at hu; cases hu
    rw [List.getElem?_map, List.getElem?_eq_getElem hj] at hu
    have := hc j hj
    rw [List.getD_eq_getElem?_getD, List.getElem?_eq_getElem hj] at this
    simp only [Option.map_some, Option.some.injEq] at hu
    rw [← hu]
    have e : (⟨g, o, none⟩ : Addr).add j = ⟨g, o + j, none⟩ := by
      unfold Addr.add
      by_cases h : j = 0
      · subst h; simp
      · simp [h]
    rw [e]; exact this
/-- a list of numbers behind a row of the call's own -/
theorem wp_joinI {ops : Array Oper} {rest : List Oper} {o : Oper} {a : Act} {Q : Exit → Act → World → Prop} (hgd : o.guard = none) (s x : Operand)
    (ho : o.op = .call { callee := .builtin .append, args := #[s, x], argTypes := #[24, 24] })
    {W : World} {base : Nat} {v : Value} {zs ys : List Int} {A : Option Addr} {m c : Nat} (hs : a.eval s = v) (hown : OwnI W base v zs) (hx : a.eval x = .slice A m c) (hm : m = ys.length) (hy : IsInts W A ys) (hn : zs.length + ys.length ≤ 1048576) (hbase : base ≤ W.heap.size)
    (h : ∀ v' w', OwnI w' base v' (zs ++ ys) → W.grownBy w' v.ownBlock → (v'.ownBlock = v.ownBlock ∨ v'.ownBlock = some W.heap.size) → wpList Try.prog ops Q rest (a.put o.dst v') w') :
    wpList Try.prog ops Q (o :: rest) a W := by
  subst hm
  obtain ⟨i0, hi, hz0, hz1, hz2⟩ := info_parts infoInt
  refine wpList_append_any (P := Try.prog) W hgd s x 24 ho base 3 i0 (.int .i64 0) 1 8 Try.underlying24 hi hz0 hz1 hz2 rfl (by decide) v zs.length _ hs hown W.heap.size A ys.length c _ hx (ints_reads hy) (fun u hu => by obtain ⟨z, _, rfl⟩ := List.mem_map.1 hu; rfl) (by unfold maxLen; omega) (by omega) hbase ?_
  intro v' w' h1 h2 h3
  refine h v' w' ?_ h2 h3
  unfold OwnI; rw [List.length_append, List.map_append]; exact h1
end Go.Proofs.Ythagafkjlecagaa
namespace Go.Proofs.Ythagafkjlecagaa
open Go.RowKit

/-- the cells of holdings -/
def valsH (hs : List Hd) : List Value := (flatH hs).map (Value.int .i64)
theorem vals_len (hs : List Hd) : (valsH hs).length = hs.length * 3 := by unfold valsH; rw [List.length_map, flat_len]
theorem vals_append (a b : List Hd) : valsH (a ++ b) = valsH a ++ valsH b := by unfold valsH; rw [flat_append, List.map_append]
theorem vals_take (hs : List Hd) (k : Nat) : (valsH hs).take (k * 3) = valsH (hs.take k) := by unfold valsH; rw [← List.map_take, flat_take]
theorem vals_drop (hs : List Hd) (k : Nat) : (valsH hs).drop (k * 3) = valsH (hs.drop k) := by unfold valsH; rw [← List.map_drop, flat_drop]
theorem vals_one (hs : List Hd) : ∀ u ∈ valsH hs, u.oneCell' = true := fun u hu => by
  unfold valsH at hu
  obtain ⟨z, _, rfl⟩ := List.mem_map.1 hu
  rfl
theorem vals_get {hs : List Hd} {k : Nat} (h : k < hs.length) : (valsH hs)[k * 3]? = some (.int .i64 (hs.getD k hd0).1) ∧ (valsH hs)[k * 3 + 1]? = some (.int .i64 (hs.getD k hd0).2.1) ∧ (valsH hs)[k * 3 + 2]? = some (.int .i64 (hs.getD k hd0).2.2) := by
  obtain ⟨a, b, c⟩ := flat_get hs k h
  have hl := flat_len hs
  have get : ∀ j, j < (flatH hs).length → (valsH hs)[j]? = some (.int .i64 ((flatH hs).getD j 0)) := fun j hj => by
    unfold valsH
    rw [List.getElem?_map, List.getElem?_eq_getElem hj, List.getD_eq_getElem?_getD, List.getElem?_eq_getElem hj]; rfl
  rw [get _ (by omega), get _ (by omega), get _ (by omega), a, b, c]
  exact ⟨rfl, rfl, rfl⟩
theorem add_off (g o j : Nat) : (⟨g, o, none⟩ : Addr).add j = ⟨g, o + j, none⟩ := by
  unfold Addr.add
  by_cases h : j = 0
  · subst h; simp
  · simp [h]
theorem hs_reads {w : World} {a : Option Addr} {hs : List Hd} (h : IsHs w a hs) : Reads w w.heap.size 3 a hs.length (valsH hs) := by
  refine ⟨vals_len hs, fun hn => ?_⟩
  rcases h with rfl | ⟨g, o, rfl, hc⟩
  · exact absurd hn (by simp)
  · refine ⟨⟨g, o, none⟩, rfl, ?_, fun j u hu => ?_⟩
    · exact World.block_lt_of_cell? w _ (hc 0 hn).1
    · have hl := vals_len hs
      have hj : j < (valsH hs).length := by
        rcases Nat.lt_or_ge j (valsH hs).length with h | h
        · exact h
        · rw [List.getElem?_eq_none h] at hu; cases hu
      have hk : j / 3 < hs.length := by omega
      obtain ⟨c0, c1, c2⟩ := hc _ hk
      obtain ⟨v0, v1, v2⟩ := vals_get hk
      have hm : j % 3 = 0 ∨ j % 3 = 1 ∨ j % 3 = 2 := by omega
      rw [add_off]
      rcases hm with e | e | e
      · have ej : j = j / 3 * 3 := by omega
        rw [ej] at hu ⊢; rw [v0] at hu; rw [c0, ← hu]
      · have ej : j = j / 3 * 3 + 1 := by omega
        rw [ej] at hu ⊢; rw [v1] at hu; rw [← Nat.add_assoc, c1, ← hu]
      · have ej : j = j / 3 * 3 + 2 := by omega
        rw [ej] at hu ⊢; rw [v2] at hu; rw [← Nat.add_assoc, c2, ← hu]
theorem reads_hs {w : World} {B : Nat} {a : Option Addr} {hs : List Hd} (h : Reads w B 3 a hs.length (valsH hs)) (hsp : ∀ ad, a = some ad → ad.spot = none) : IsHs w a hs := by
  by_cases hn : hs = []
  · exact .inl hn
  · obtain ⟨ad, rfl, _, hc⟩ := h.2 (by cases hs with | nil => exact absurd rfl hn | cons _ _ => simp)
    obtain ⟨g, o, sp⟩ := ad
    obtain rfl : sp = none := hsp _ rfl
    refine .inr ⟨g, o, rfl, fun i hi => ?_⟩
    obtain ⟨v0, v1, v2⟩ := vals_get hi
    have e0 := hc _ _ v0
    have e1 := hc _ _ v1
    have e2 := hc _ _ v2
    rw [add_off] at e0 e1 e2
    rw [← Nat.add_assoc] at e1 e2
    exact ⟨e0, e1, e2⟩
theorem infoH : (Try.prog.info? 130).map (fun i => (i.zero, i.size, i.bytes)) = some (some (.agg #[.int .i64 0, .int .i64 0, .int .i64 0]), 3, 24) := by kernel_rfl
/-- a row of the call's own that holds hs -/
def OwnH (w : World) (base : Nat) (v : Value) (hs : List Hd) : Prop := w.ownsRow base 130 3 v hs.length (valsH hs)
theorem own_hs {w : World} {base : Nat} {v : Value} {hs : List Hd} (h : OwnH w base v hs) : ∃ (b : Option Addr) (cap : Nat), v = .slice b hs.length cap ∧ IsHs w b hs := by
  have h0 := h
  rcases h.2 with ⟨hv, hn⟩ | ⟨g, cap, cur, hv, _⟩
  · exact ⟨none, 0, by rw [hv, hn], .inl (List.eq_nil_of_length_eq_zero hn)⟩
  · subst hv
    exact ⟨some ⟨g, 0, none⟩, cap, rfl, reads_hs (Reads.of_own h0) (fun ad e => by injection e with e; rw [← e])⟩
theorem hs_take {w : World} {g o : Nat} {hs : List Hd} (hc : ∀ i, i < hs.length → w.cell? ⟨g, o + i * 3, none⟩ = some (.int .i64 (hs.getD i hd0).1) ∧ w.cell? ⟨g, o + i * 3 + 1, none⟩ = some (.int .i64 (hs.getD i hd0).2.1) ∧ w.cell? ⟨g, o + i * 3 + 2, none⟩ = some (.int .i64 (hs.getD i hd0).2.2)) (k : Nat) : IsHs w (some ⟨g, o, none⟩) (hs.take k) := by
  refine .inr ⟨g, o, rfl, fun i hi => ?_⟩
  rw [List.length_take] at hi
  have e : (hs.take k).getD i hd0 = hs.getD i hd0 := by
    rw [List.getD_eq_getElem?_getD, List.getD_eq_getElem?_getD, List.getElem?_take_of_lt (by omega)]
  rw [e]; exact hc i (by omega)
/-- where a holding that is built anew lies -/
theorem new_cells (w : World) (cs : List Value) (t : TypeId) : ∀ j u, cs[j]? = some u → (w.alloc (.cells cs.toArray t)).cell? ((⟨w.heap.size, 0, none⟩ : Addr).add j) = some u := fun j u hu => by
  rw [add_off, Nat.zero_add, (Blk.new w t cs.toArray).cell j, ← hu]; simp
end Go.Proofs.Ythagafkjlecagaa
namespace Go.Proofs.Ythagafkjlecagaa
open Go.RowKit

/-- what is left: a row of the call's own -/
def NewH (w : World) (hs : List Hd) (e : Ending) (w' : World) : Prop := ∃ v, e = .returned v ∧ OwnH w' w.heap.size v hs ∧ Below w.heap.size w w'

theorem own_base {w : World} {base n : Nat} {v : Value} {xs : List Value} (h : w.ownsRow (base + 1) 130 3 v n xs) : w.ownsRow base 130 3 v n xs := by
  refine ⟨h.1, ?_⟩
  rcases h.2 with h | ⟨g, cap, cur, a, b, c⟩
  · exact .inl h
  · exact .inr ⟨g, cap, cur, a, by omega, c⟩
theorem own_tail {w1 : World} {base m : Nat} {v1 : Value} {a b : List Hd} {k : Nat} (h : w1.ownsRow (base + 1) 130 3 v1 (k + m) (valsH a ++ valsH b)) (hk : a.length = k) (hn : b.length = m) : OwnH w1 base v1 (a ++ [] ++ b) := by
  unfold OwnH
  rw [List.append_nil, List.length_append, vals_append, hk, hn]; exact own_base h
theorem own_tail2 {w1 : World} {base m : Nat} {v1 : Value} {a b : List Hd} {k : Nat} {o n d : Int} (h : w1.ownsRow (base + 1) 130 3 v1 (k + 1 + m) (valsH a ++ [.int .i64 o, .int .i64 n, .int .i64 d] ++ valsH b)) (hk : a.length = k) (hn : b.length = m) : OwnH w1 base v1 (a ++ [(o, n, d)] ++ b) := by
  unfold OwnH
  rw [List.length_append, List.length_append, vals_append, vals_append, hk, hn]; exact own_base h
theorem with_raw {L : Led} (ha : Asc L) {o n d : Int} {q : Rat} {hs : List Hd} (hh : hs = rawL L) (hq : shareIs n d q) {k : Nat} (hk : k ≤ hs.length) (h1 : ∀ j, j < k → (hs.getD j hd0).1 < o) (h2 : k < hs.length → o ≤ (hs.getD k hd0).1) {s : Nat} (hsk : s = if k < hs.length ∧ (hs.getD k hd0).1 = o then k + 1 else k) :
    rawL (setL L o q) = hs.take k ++ (if n = 0 then [] else [(o, n, d)]) ++ hs.drop s := by
  rw [hsk]
  clear hsk
  subst hh
  rw [raw_len] at hk h2 ⊢
  have g : ∀ j, j < L.length → ((rawL L).getD j hd0).1 = (L.getD j (0, 0)).1 := fun j hj => by rw [raw_get L hj]; rfl
  rw [with_set ha o q hk (fun j hj => by rw [← g j (by omega)]; exact h1 j hj) (fun hl => by rw [← g k hl]; exact h2 hl), raw_append, raw_append, raw_take, raw_drop]
  have e1 : rawL (if q = 0 then [] else [(o, q)]) = (if n = 0 then [] else [(o, n, d)]) := by
    have := shareIs_zero hq
    rw [decide_eq_decide] at this
    by_cases hz : q = 0
    · rw [if_pos hz, if_pos (this.1 hz)]; rfl
    · rw [if_neg hz, if_neg (fun c => hz (this.2 c))]
      show [rawH (o, q)] = _
      rw [shareIs_raw hq hz]
  have e2 : skipL L o k = if k < L.length ∧ ((rawL L).getD k hd0).1 = o then k + 1 else k := by
    unfold skipL
    by_cases hl : k < L.length
    · rw [g k hl]
    · rw [if_neg (fun c => hl c.1), if_neg (fun c => hl c.1)]
  rw [e1, e2]
end Go.Proofs.Ythagafkjlecagaa
namespace Go.Proofs.Ythagafkjlecagaa
open Go.RowKit

def ShareV (w : World) (hs : List Hd) (o : Int) (e : Ending) (w' : World) : Prop := e = .returned (.agg #[.int .i64 (shR hs o).1, .int .i64 (shR hs o).2]) ∧ Below w.heap.size w w'
theorem shR_hit {hs : List Hd} {o : Int} {k : Nat} (hk : k < hs.length) (h : ∀ j, j < k → (hs.getD j hd0).1 ≠ o) {n d : Int} (he : hs.getD k hd0 = (o, n, d)) : shR hs o = (n, d) := by
  rw [shR_at hk h (by rw [he]), he]

set_option maxHeartbeats 1000000 in
theorem sshare (a : Option Addr) (cap : Nat) (hs : List Hd) (o : Int) (w : World) (h : IsHs w a hs) (hn : hs.length ≤ 1048576) :
    Calls Try.prog 98 #[.slice a hs.length cap, .int .i64 o] w (ShareV w hs o) := by
  rcases h with rfl | ⟨g, off, rfl, hc⟩
  · go_enter Try.func98, Try.ntmps98
    go_wp2_with fail
    refine wp_loop_rounds 1 ?_
    rw [rounds_succ]
    go_wp2_with fail
    exact bodyPost_ret (v := .agg #[.int .i64 0, .int .i64 1]) (by simp [results, Try.results98, go_sem]) rfl ⟨rfl, by go_grown⟩
  · have HC := Lib.hid hc
    clear hc
    go_enter Try.func98, Try.ntmps98
    go_wp2_with fail
    go_loopw [5] (fun i wr => ∃ k : Nat, k ≤ hs.length ∧ i = .int .i64 k ∧ Hid (∀ j, j < k → (hs.getD j hd0).1 ≠ o) ∧ Blk wr w.heap.size 31 #[.int .i64 0, .int .i64 0] ∧ Below w.heap.size w wr) (fun i _ => hs.length - (intOf i).toNat)
    case atStart => exact ⟨0, Nat.zero_le _, rfl, fun j hj => by omega, Blk.new _ _ _, by go_grown⟩
    case round =>
      obtain ⟨k, hk, rfl, HK, hS, hB⟩ := hrel
      by_cases hlt : k < hs.length
      · obtain ⟨c0, c1, c2⟩ := cells_at HC.out hB hlt
        have hy : (hs.getD k hd0).1 ≠ o → ∀ j, j < k + 1 → (hs.getD j hd0).1 ≠ o := fun e j hj => by
          by_cases ej : j = k
          · subst ej; exact e
          · exact HK.out j (by omega)
        have hh2 : ∀ n d : Int, hs.getD k hd0 = (o, n, d) → shR hs o = (n, d) := fun n d e => shR_hit hlt HK.out e
        generalize hs.getD k hd0 = hh at c0 c1 c2 hy hh2
        obtain ⟨x, n, d⟩ := hh
        dsimp only at c0 c1 c2 hy
        obtain ⟨t0, t1, t2, t3, t4⟩ := blk_two hS
        have HY := Lib.hid hy
        have HH := Lib.hid hh2
        have HS := Lib.hid hS
        have HB := Lib.hid hB
        clear hy hh2 hS hB
        by_cases hx : x = o
        · have e : (x == o) = true := by simpa using hx
          have HR : Hid (shR hs o = (n, d)) := HH.out n d (by rw [hx])
          clear hx
          go_wp2_with fail
          exact bodyPost_ret (v := .agg #[.int .i64 n, .int .i64 d]) (by simp [results, Try.results98, go_sem, t0, t1]) rfl ⟨by rw [HR.out], ((HB.out.setCell (by simp) _).setCell (by simp) _)⟩
        · have e : (x == o) = false := by simpa using hx
          go_wp2_with fail
          go_roundw
          case rel => exact ⟨k + 1, by omega, by go_num, HY.out hx, HS.out, HB.out⟩
          case measure => simp [intOf]; omega
      · have HN : Hid (shR hs o = (0, 1)) := shR_none (fun j hj => HK.out j (by omega))
        obtain ⟨t0, t1, t2, t3, t4⟩ := blk_two hS
        go_wp2_with fail
        exact bodyPost_ret (v := .agg #[.int .i64 0, .int .i64 1]) (by simp [results, Try.results98, go_sem, t0, t1]) rfl ⟨by rw [HN.out], (hB.setCell (by simp) _).setCell (by simp) _⟩
end Go.Proofs.Ythagafkjlecagaa
namespace Go.Proofs.Ythagafkjlecagaa
open Go.RowKit

def shV (hs : List Hd) (o : Int) : Int × Int := if vlR hs then shR hs o else (0, 0)
def ShareO (w : World) (hs : List Hd) (o : Int) (e : Ending) (w' : World) : Prop := e = .returned (.agg #[.int .i64 (shV hs o).1, .int .i64 (shV hs o).2]) ∧ Below w.heap.size w w'
end Go.Proofs.Ythagafkjlecagaa
namespace Go.Proofs.Ythagafkjlecagaa
open Go.RowKit

/-- shares of L, as fractions -/
theorem sub_led {L : Led} (hf : ∀ x ∈ L, frB x.2 = true) (o : Int) {p : Rat} (hp : frB p = true) :
    (Wsh.vfB (shareL L o).num ((shareL L o).den : Int) && Wsh.vfB p.num (p.den : Int) && Wsh.redB ((shareL L o).num * (p.den : Int) - p.num * ((shareL L o).den : Int)) (((shareL L o).den : Int) * (p.den : Int))) = frB (shareL L o - p) ∧
    Wsh.rn ((shareL L o).num * (p.den : Int) - p.num * ((shareL L o).den : Int)) (((shareL L o).den : Int) * (p.den : Int)) = (shareL L o - p).num ∧ Wsh.rd ((shareL L o).num * (p.den : Int) - p.num * ((shareL L o).den : Int)) (((shareL L o).den : Int) * (p.den : Int)) = ((shareL L o - p).den : Int) := by
  obtain ⟨a, b, c⟩ := sub_red (shareL L o) p
  exact ⟨by rw [q_vf (share_frA hf o), q_vf hp, a]; rfl, b, c⟩
theorem add_led {L : Led} (hf : ∀ x ∈ L, frB x.2 = true) (o : Int) {p : Rat} (hp : frB p = true) :
    (Wsh.vfB (shareL L o).num ((shareL L o).den : Int) && Wsh.vfB p.num (p.den : Int) && Wsh.redB ((shareL L o).num * (p.den : Int) + p.num * ((shareL L o).den : Int)) (((shareL L o).den : Int) * (p.den : Int))) = frB (shareL L o + p) ∧
    Wsh.rn ((shareL L o).num * (p.den : Int) + p.num * ((shareL L o).den : Int)) (((shareL L o).den : Int) * (p.den : Int)) = (shareL L o + p).num ∧ Wsh.rd ((shareL L o).num * (p.den : Int) + p.num * ((shareL L o).den : Int)) (((shareL L o).den : Int) * (p.den : Int)) = ((shareL L o + p).den : Int) := by
  obtain ⟨a, b, c⟩ := add_red (shareL L o) p
  exact ⟨by rw [q_vf (share_frA hf o), q_vf hp, a]; rfl, b, c⟩
theorem keepM {w W wq : World} {x y : Value} (hb : Below W.heap.size W wq) (h : W.cell? ⟨w.heap.size, 0, none⟩ = some x ∧ W.cell? ⟨w.heap.size, 1, none⟩ = some y ∧ Below w.heap.size w W) : wq.cell? ⟨w.heap.size, 0, none⟩ = some x ∧ wq.cell? ⟨w.heap.size, 1, none⟩ = some y ∧ Below w.heap.size w wq :=
  ⟨(hb.cell (World.block_lt_of_cell? W _ h.1)).trans h.1, (hb.cell (World.block_lt_of_cell? W _ h.2.1)).trans h.2.1, bel_tr h.2.2 hb⟩
theorem keepMset {w W : World} {x y u v : Value} {b : Nat} (h : W.cell? ⟨w.heap.size, 0, none⟩ = some x ∧ W.cell? ⟨w.heap.size, 1, none⟩ = some y ∧ Below w.heap.size w W) (hlt : w.heap.size < b) : ((W.setCell ⟨b, 0, none⟩ u).setCell ⟨b, 1, none⟩ v).cell? ⟨w.heap.size, 0, none⟩ = some x ∧ ((W.setCell ⟨b, 0, none⟩ u).setCell ⟨b, 1, none⟩ v).cell? ⟨w.heap.size, 1, none⟩ = some y ∧ Below w.heap.size w ((W.setCell ⟨b, 0, none⟩ u).setCell ⟨b, 1, none⟩ v) := by
  have hq : ∀ (V : World) (k l : Nat) (z : Value), (V.setCell ⟨b, k, none⟩ z).cell? ⟨w.heap.size, l, none⟩ = V.cell? ⟨w.heap.size, l, none⟩ := fun V k l z => World.cell?_setCell_other V _ _ z (fun e => by injection e with e; omega)
  exact ⟨by rw [hq, hq]; exact h.1, by rw [hq, hq]; exact h.2.1, (h.2.2.setCell (Nat.le_of_lt hlt) _).setCell (Nat.le_of_lt hlt) _⟩

theorem keepMR {w W : World} {x y : Value} {o o' : Obj} (h : (W.alloc o).cell? ⟨w.heap.size, 0, none⟩ = some x ∧ (W.alloc o).cell? ⟨w.heap.size, 1, none⟩ = some y ∧ Below w.heap.size w (W.alloc o)) (hB : Below w.heap.size w W) (hlt : w.heap.size < W.heap.size) : (W.alloc o').cell? ⟨w.heap.size, 0, none⟩ = some x ∧ (W.alloc o').cell? ⟨w.heap.size, 1, none⟩ = some y ∧ Below w.heap.size w (W.alloc o') := by
  have e : ∀ (l : Nat) (o : Obj), (W.alloc o).cell? ⟨w.heap.size, l, none⟩ = W.cell? ⟨w.heap.size, l, none⟩ := fun l o => World.cell?_alloc_lt W o ⟨w.heap.size, l, none⟩ hlt
  rw [e, e] at h
  exact ⟨by rw [e]; exact h.1, by rw [e]; exact h.2.1, hB.alloc (Nat.le_of_lt hlt) _⟩

theorem blk_second (w : World) (o : Obj) (t : TypeId) (cs : Array Value) : Blk ((w.alloc o).alloc (.cells cs t)) (w.heap.size + 1) t cs := by
  have := Blk.new (w.alloc o) t cs
  rw [World.size_alloc] at this
  exact this
/-- what is left, or nothing -/
def MoveV (w : World) (b : Bool) (L : Led) (e : Ending) (w' : World) : Prop := ∃ v, e = .returned (.tuple #[v, .bool b]) ∧ (b = false → v = .slice none 0 0) ∧ (b = true → OwnH w' w.heap.size v (rawL L)) ∧ Below w.heap.size w w'
theorem own_le {w : World} {base base' : Nat} {v : Value} {hs : List Hd} (h : OwnH w base' v hs) (hb : base ≤ base') : OwnH w base v hs := by
  refine ⟨h.1, ?_⟩
  rcases h.2 with h | ⟨g, cap, cur, a, b, c⟩
  · exact .inl h
  · exact .inr ⟨g, cap, cur, a, Nat.le_trans hb b, c⟩
theorem own_hs2 {w : World} {base : Nat} {v : Value} {hs : List Hd} (h : OwnH w base v hs) : ∃ (b : Option Addr) (cap : Nat), v = .slice b hs.length cap ∧ IsHs w b hs ∧ hs.length ≤ cap := by
  have h0 := h
  rcases h.2 with ⟨hv, hn⟩ | ⟨g, cap, cur, hv, _, _, hnc, _⟩
  · exact ⟨none, 0, by rw [hv, hn], .inl (List.eq_nil_of_length_eq_zero hn), by omega⟩
  · subst hv
    exact ⟨some ⟨g, 0, none⟩, cap, rfl, reads_hs (Reads.of_own h0) (fun ad e => by injection e with e; rw [← e]), hnc⟩

theorem keepN {w W wq : World} {x y u v : Value} {k : Nat} (hb : Below W.heap.size W wq) (h : W.cell? ⟨w.heap.size, 0, none⟩ = some x ∧ W.cell? ⟨w.heap.size, 1, none⟩ = some y ∧ W.cell? ⟨k, 0, none⟩ = some u ∧ W.cell? ⟨k, 1, none⟩ = some v ∧ Below w.heap.size w W) : wq.cell? ⟨w.heap.size, 0, none⟩ = some x ∧ wq.cell? ⟨w.heap.size, 1, none⟩ = some y ∧ wq.cell? ⟨k, 0, none⟩ = some u ∧ wq.cell? ⟨k, 1, none⟩ = some v ∧ Below w.heap.size w wq := by
  have n : ∀ {p : Addr} {v : Value}, W.cell? p = some v → wq.cell? p = some v := fun h => (hb.cell (World.block_lt_of_cell? W _ h)).trans h
  exact ⟨n h.1, n h.2.1, n h.2.2.1, n h.2.2.2.1, bel_tr h.2.2.2.2 hb⟩
theorem keepNb {w W : World} {x y u v : Value} {k : Nat} (h : W.cell? ⟨w.heap.size, 0, none⟩ = some x ∧ W.cell? ⟨w.heap.size, 1, none⟩ = some y ∧ W.cell? ⟨k, 0, none⟩ = some u ∧ W.cell? ⟨k, 1, none⟩ = some v ∧ Below w.heap.size w W) : Below w.heap.size w W := h.2.2.2.2

end Go.Proofs.Ythagafkjlecagaa
namespace Go.Proofs.Ythagafkjlecagaa
open Go.RowKit

def okH (zs : List Int) (owner : Int) (k : Nat) : Bool := decide (1 ≤ zs.getD k 0) && decide (zs.getD k 0 ≤ 999) && decide (zs.getD k 0 ≠ owner) && decide (zs.getD k 0 ∉ zs.take k)
/-- heirs that there can be -/
def heirsB (zs : List Int) (owner : Int) : Bool := decide (1 ≤ zs.length) && decide (zs.length ≤ 12) && (List.range zs.length).all (okH zs owner)
theorem okH_def (zs : List Int) (owner : Int) (k : Nat) : okH zs owner k = (decide (1 ≤ zs.getD k 0) && decide (zs.getD k 0 ≤ 999) && decide (zs.getD k 0 ≠ owner) && decide (zs.getD k 0 ∉ zs.take k)) := rfl
theorem heirs_no1 {zs : List Int} {owner : Int} (h : zs.length < 1 ∨ 12 < zs.length) : heirsB zs owner = false := by
  unfold heirsB
  rcases h with h | h
  · rw [decide_eq_false (by omega : ¬ 1 ≤ zs.length)]; rfl
  · rw [decide_eq_false (by omega : ¬ zs.length ≤ 12)]; simp
theorem heirs_no2 {zs : List Int} {owner : Int} {k : Nat} (hk : k < zs.length) (h : okH zs owner k = false) : heirsB zs owner = false := by
  unfold heirsB; rw [rng_no hk h]; simp
theorem heirs_yes {zs : List Int} {owner : Int} (h1 : 1 ≤ zs.length) (h2 : zs.length ≤ 12) (h : ∀ j, j < zs.length → okH zs owner j = true) : heirsB zs owner = true := by
  unfold heirsB; rw [decide_eq_true h1, decide_eq_true h2, rng_yes h]; rfl
theorem ints_take {w : World} {a : Option Addr} {zs : List Int} (h : IsInts w a zs) (k : Nat) : IsInts w a (zs.take k) := by
  rcases h with rfl | ⟨g, o, ha, hc⟩
  · exact .inl (by simp)
  · refine .inr ⟨g, o, ha, fun i hi => ?_⟩
    rw [List.length_take] at hi
    have e : (zs.take k).getD i 0 = zs.getD i 0 := by rw [List.getD_eq_getElem?_getD, List.getD_eq_getElem?_getD, List.getElem?_take_of_lt (by omega)]
    rw [e]; exact hc i (by omega)
theorem mem_get {zs : List Int} {n : Int} : n ∈ zs ↔ ∃ j, j < zs.length ∧ zs.getD j 0 = n := by
  constructor
  · intro h
    obtain ⟨i, hi, e⟩ := List.getElem_of_mem h
    exact ⟨i, hi, by rw [List.getD_eq_getElem?_getD, List.getElem?_eq_getElem hi]; exact e⟩
  · rintro ⟨j, hj, e⟩
    rw [← e]; exact getD_mem hj

/-- what spec.placeIn leaves: a number of at least 0 where the number is in the list -/
def PlaceV (zs : List Int) (n : Int) (w : World) (e : Ending) (w' : World) : Prop := ∃ v : Int, e = .returned (.int .i64 v) ∧ (n ∈ zs → 0 ≤ v) ∧ (n ∉ zs → v = -1) ∧ w = w'
set_option maxHeartbeats 1000000 in
theorem splace (a : Option Addr) (cap m : Nat) (zs : List Int) (n : Int) (w : World) (h : IsInts w a zs) (hl : zs.length = m) (hn : m ≤ 1048576) :
    Calls Try.prog 109 #[.slice a m cap, .int .i64 n] w (PlaceV zs n w) := by
  subst hl
  rcases h with rfl | ⟨g, o, rfl, hc⟩
  · go_enter Try.func109, Try.ntmps109
    go_wp2
    go_rounds 1
    go_ret
    exact ⟨-1, rfl, (fun c => by simp at c), (fun _ => rfl), rfl⟩
  · have HC := Lib.hid hc
    clear hc
    go_enter Try.func109, Try.ntmps109
    go_wp2
    go_loop [5] (fun i => ∃ k : Nat, k ≤ zs.length ∧ i = .int .i64 k ∧ Hid (∀ j, j < k → zs.getD j 0 ≠ n)) (fun i => zs.length - (intOf i).toNat)
    case atStart => exact ⟨0, Nat.zero_le _, rfl, fun j hj => by omega⟩
    case round =>
      obtain ⟨k, hk, rfl, HK⟩ := hrel
      by_cases hlt : k < zs.length
      · have hc := HC.out k hlt
        have hy : zs.getD k 0 ≠ n → ∀ j, j < k + 1 → zs.getD j 0 ≠ n := fun e j hj => by
          by_cases ej : j = k
          · subst ej; exact e
          · exact HK.out j (by omega)
        have hm : zs.getD k 0 = n → n ∈ zs := fun e => mem_get.2 ⟨k, hlt, e⟩
        generalize zs.getD k 0 = z at hc hy hm
        have HY := Lib.hid hy
        have HM := Lib.hid hm
        clear hy hm
        by_cases e : z = n
        · have eb : (z == n) = true := by simpa using e
          have HMM := Lib.hid (HM.out e)
          clear e
          go_wp2_with fail
          go_ret
          exact ⟨(k : Int), rfl, (fun _ => by omega), (fun c => absurd HMM.out c), rfl⟩
        · have eb : (z == n) = false := by simpa using e
          go_wp2_with fail
          go_round
          case rel => exact ⟨k + 1, by omega, by go_num, HY.out e⟩
          case measure => simp [intOf]; omega
      · have HN : Hid (n ∉ zs) := by
          show _ ∉ _
          rw [mem_get]
          rintro ⟨j, hj, e⟩
          exact HK.out j (by omega) e
        go_wp2_with fail
        go_ret
        exact ⟨-1, rfl, (fun c => absurd c HN.out), (fun _ => rfl), rfl⟩

end Go.Proofs.Ythagafkjlecagaa
namespace Go.Proofs.Ythagafkjlecagaa
open Go.RowKit
set_option linter.unusedSimpArgs false
set_option linter.unusedVariables false

/-- at a lie the lists rs, in this world -/
def IsRows (w : World) (a : Option Addr) (rs : List (List Int)) : Prop := rs = [] ∨ ∃ g o, a = some ⟨g, o, none⟩ ∧ ∀ i, i < rs.length → ∃ A cap, w.cell? ⟨g, o + i, none⟩ = some (.slice A (rs.getD i []).length cap) ∧ (rs.getD i []).length ≤ cap ∧ IsInts w A (rs.getD i [])
theorem rows_below {w w' : World} {a : Option Addr} {rs : List (List Int)} (h : IsRows w a rs) (hB : Below w.heap.size w w') : IsRows w' a rs := by
  rcases h with h | ⟨g, o, ha, hc⟩
  · exact .inl h
  · refine .inr ⟨g, o, ha, fun i hi => ?_⟩
    obtain ⟨A, cap, c, hl, hi2⟩ := hc i hi
    exact ⟨A, cap, (hB.cell (World.block_lt_of_cell? w _ c)).trans c, hl, ints_below hi2 hB⟩
theorem has_no {n : Nat} {r : List Int} {k : Nat} (hk : k < n) (h : (k : Int) ∉ r) : hasB n r = false := by
  unfold hasB
  rw [Bool.and_eq_false_iff]
  exact .inr (rng_no hk (decide_eq_false h))
theorem has_len {n : Nat} {r : List Int} (h : r.length ≠ n) : hasB n r = false := by
  unfold hasB; rw [decide_eq_false h]; rfl
theorem has_yes {n : Nat} {r : List Int} (h : r.length = n) (h2 : ∀ k : Nat, k < n → (k : Int) ∈ r) : hasB n r = true := by
  unfold hasB; rw [decide_eq_true h, rng_yes fun j hj => decide_eq_true (h2 j hj)]; rfl

theorem wish_no1 {rs : List (List Int)} (h : 8 < rs.length) : wishB rs = false := by unfold wishB; rw [decide_eq_false (by omega)]; rfl
theorem rows_mem {rs : List (List Int)} {k : Nat} (h : k < rs.length) : rs.getD k [] ∈ rs := by
  rw [List.getD_eq_getElem?_getD, List.getElem?_eq_getElem h]; exact List.getElem_mem _
theorem wish_no2 {rs : List (List Int)} {k : Nat} (h : k < rs.length) (h2 : ordB rs.length (rs.getD k []) = false) : wishB rs = false := by
  unfold wishB
  rw [Bool.and_eq_false_iff]
  refine .inr ?_
  rw [Bool.eq_false_iff]
  intro c
  rw [List.all_eq_true] at c
  rw [c _ (rows_mem h)] at h2
  cases h2
theorem wish_yes {rs : List (List Int)} (h : rs.length ≤ 8) (h2 : ∀ k, k < rs.length → ordB rs.length (rs.getD k []) = true) : wishB rs = true := by
  unfold wishB
  rw [decide_eq_true h, Bool.true_and, List.all_eq_true]
  intro x hx
  obtain ⟨k, hk, e⟩ := List.mem_iff_getElem.1 hx
  have := h2 k hk
  rwa [List.getD_eq_getElem?_getD, List.getElem?_eq_getElem hk, Option.getD_some, e] at this

end Go.Proofs.Ythagafkjlecagaa
namespace Go.Proofs.Ythagafkjlecagaa
open Go.RowKit
set_option linter.unusedSimpArgs false
set_option linter.unusedVariables false
/-- what is told of lists of numbers that came in -/
def RowsIn (w : World) (a : Option Addr) (len cap : Nat) (rs : List (List Int)) : Prop := rs.length = len ∧ IsRows w a rs ∧ len ≤ cap ∧ cap ≤ maxLen ∧ ∀ r ∈ rs, r.length ≤ maxLen
/-- what is left behind the sizes of lists -/
def szL : Int → List (List Int) → Int
  | left, [] => left
  | left, r :: t => if left - (r.length : Int) < 0 then -1 else szL (left - (r.length : Int)) t
def szSS (left : Int) (rs : List (List Int)) : Int := if left - (rs.length : Int) < 0 then -1 else szL (left - (rs.length : Int)) rs
theorem szL_pos : ∀ (rs : List (List Int)) (left : Int), ¬ szL left rs < 0 → 0 ≤ left → ∀ r ∈ rs, (r.length : Int) ≤ left := by
  intro rs
  induction rs with
  | nil => intro left _ _ r h; cases h
  | cons x t ih =>
    intro left h h0 r hr
    have e : szL left (x :: t) = if left - (x.length : Int) < 0 then -1 else szL (left - (x.length : Int)) t := rfl
    rw [e] at h
    by_cases c : left - (x.length : Int) < 0
    · rw [if_pos c] at h; omega
    · rw [if_neg c] at h
      rcases List.mem_cons.1 hr with rfl | hr
      · omega
      · have := ih _ h (by omega) r hr; omega
theorem szSS_pos {left : Int} {rs : List (List Int)} (h : ¬ szSS left rs < 0) (h0 : 0 ≤ left) : (rs.length : Int) ≤ left ∧ ∀ r ∈ rs, (r.length : Int) ≤ left := by
  unfold szSS at h
  by_cases c : left - (rs.length : Int) < 0
  · rw [if_pos c] at h; omega
  · rw [if_neg c] at h
    exact ⟨by omega, fun r hr => by have := szL_pos rs _ h (by omega) r hr; omega⟩
end Go.Proofs.Ythagafkjlecagaa
namespace Go.Proofs.Ythagafkjlecagaa
open Go.RowKit
set_option linter.unusedSimpArgs false
set_option linter.unusedVariables false
theorem infoRowL : (Try.prog.info? 24).map (fun i => (i.zero, i.size, i.bytes)) = some (some (.slice none 0 0), 1, 24) := by kernel_rfl
theorem rows_nth {w : World} {a : Option Addr} {rs : List (List Int)} (h : IsRows w a rs) {k : Nat} (hk : k < rs.length) : ∃ g o A cap, a = some ⟨g, o, none⟩ ∧ w.cell? ⟨g, o + k, none⟩ = some (.slice A (rs.getD k []).length cap) ∧ (rs.getD k []).length ≤ cap ∧ IsInts w A (rs.getD k []) := by
  rcases h with rfl | ⟨g, o, rfl, hc⟩
  · simp at hk
  · obtain ⟨A, cap, a, b, c⟩ := hc k hk
    exact ⟨g, o, A, cap, rfl, a, b, c⟩
theorem ret_z {z y : Int} (h : z = y) : Ending.returned (.int .i64 z) = Ending.returned (.int .i64 y) := by rw [h]
theorem szL_at {rs : List (List Int)} {k : Nat} (hk : k < rs.length) (L : Int) : szL L (rs.drop k) = if L - ((rs.getD k []).length : Int) < 0 then -1 else szL (L - ((rs.getD k []).length : Int)) (rs.drop (k + 1)) := by
  rw [List.drop_eq_getElem_cons hk]
  rw [List.getD_eq_getElem?_getD, List.getElem?_eq_getElem hk]; rfl
theorem lszI (A : Option Addr) (n cap : Nat) (L : Int) (w : World) (h0 : 0 ≤ L) (h1 : L ≤ 1048576) (hn : n ≤ 9223372036854775807) :
    Calls Try.prog 58 #[.slice A n cap, .int .i64 L] w fun e w' => e = .returned (.int .i64 (if L - (n : Int) < 0 then -1 else L - (n : Int))) ∧ w = w' := by
  have wz : IntKind.i64.wrap (L - (n : Int)) = L - (n : Int) := by rw [IntKind.wrap_i64]; omega
  by_cases c : L - (n : Int) < 0
  · have e0 : decide (L - (n : Int) < 0) = true := decide_eq_true c
    rw [if_pos c]
    clear c
    go_enter Try.func58, Try.ntmps58
    go_wp2_with fail
    go_ret
    exact ⟨rfl, rfl⟩
  · have e0 : decide (L - (n : Int) < 0) = false := decide_eq_false c
    rw [if_neg c]
    clear c
    go_enter Try.func58, Try.ntmps58
    go_wp2_with fail
    go_ret
    exact ⟨rfl, rfl⟩
/-- block g is a row of lists of the call's own, each in a block of its own -/
def RowSS (w : World) (g : Nat) (G : Nat → Nat) (n : Nat) (rs : List (List Int)) : Prop := (w.rowIs g 24 rs.length fun j => if j < n then .slice (some ⟨G j, 0, none⟩) (rs.getD j []).length (rs.getD j []).length else .slice none 0 0) ∧ (∀ j, j < n → g < G j ∧ Row w (G j) (rs.getD j [])) ∧ ∀ i j, i < j → j < n → G i < G j
theorem RowSS.rows {w : World} {g : Nat} {G : Nat → Nat} {rs : List (List Int)} (h : RowSS w g G rs.length rs) : IsRows w (some ⟨g, 0, none⟩) rs := by
  refine .inr ⟨g, 0, rfl, fun i hi => ⟨some ⟨G i, 0, none⟩, (rs.getD i []).length, ?_, Nat.le_refl _, row_ints (h.2.1 i hi).2⟩⟩
  have := h.1.cell hi
  rw [if_pos hi] at this
  rw [Nat.zero_add]; exact this
/-- what toIntSS leaves -/
def CopiedSS (w : World) (rs : List (List Int)) (e : Ending) (w' : World) : Prop := ∃ (g : Nat) (G : Nat → Nat), e = .returned (.slice (some ⟨g, 0, none⟩) rs.length rs.length) ∧ w.heap.size ≤ g ∧ RowSS w' g G rs.length rs ∧ Below w.heap.size w w'
end Go.Proofs.Ythagafkjlecagaa
namespace Go.Proofs.Ythagafkjlecagaa
open Go.RowKit

/-- block g begins with the numbers zs, and may be written -/
def Flat (w : World) (g : Nat) (t : TypeId) (zs : List Int) : Prop := ∃ cs : Array Value, w.heap[g]? = some (.cells cs t (0, 0)) ∧ ∀ j, j < zs.length → cs[j]? = some (.int .i64 (zs.getD j 0))
theorem Flat.cell {w : World} {g : Nat} {t : TypeId} {zs : List Int} (h : Flat w g t zs) {j : Nat} (hj : j < zs.length) : w.cell? ⟨g, j, none⟩ = some (.int .i64 (zs.getD j 0)) := by
  obtain ⟨cs, hb, hc⟩ := h
  rw [cell_of_row w g j cs t (0, 0) hb]; exact hc j hj
theorem Flat.frozen {w : World} {g : Nat} {t : TypeId} {zs : List Int} (h : Flat w g t zs) (j : Nat) : w.frozen? ⟨g, j, none⟩ = false := by
  obtain ⟨cs, hb, hc⟩ := h
  simp [World.frozen?, hb]
theorem Flat.lt {w : World} {g : Nat} {t : TypeId} {zs : List Int} (h : Flat w g t zs) : g < w.heap.size := by
  obtain ⟨cs, hb, hc⟩ := h
  exact Blk.lt hb
theorem Flat.of_block {w w' : World} {g : Nat} {t : TypeId} {zs : List Int} (h : Flat w g t zs) (e : w'.heap[g]? = w.heap[g]?) : Flat w' g t zs := by
  obtain ⟨cs, hb, hc⟩ := h
  exact ⟨cs, e.trans hb, hc⟩
theorem Flat.next {w w' : World} {g : Nat} {t : TypeId} {zs : List Int} (h : Flat w g t zs) (hb : Below w.heap.size w w') : Flat w' g t zs := h.of_block (hb.block g h.lt)
theorem Flat.apart {w w' : World} {g g' : Nat} {t : TypeId} {zs : List Int} (h : Flat w g t zs) (hG : w.grownBy w' (some g')) (hne : g ≠ g') : Flat w' g t zs :=
  h.of_block (hG.block g h.lt (fun e => by injection e with e; exact hne e))
theorem getD_setF {zs : List Int} {i j : Nat} {z : Int} (hi : i < zs.length) : (zs.set i z).getD j 0 = if j = i then z else zs.getD j 0 := by
  rw [List.getD_eq_getElem?_getD, List.getD_eq_getElem?_getD, List.getElem?_set]
  by_cases e : i = j
  · subst e; rw [if_pos rfl, if_pos hi, if_pos rfl]; rfl
  · rw [if_neg e, if_neg (fun c => e c.symm)]
theorem Flat.set_ {w : World} {g : Nat} {t : TypeId} {zs : List Int} (h : Flat w g t zs) {i : Nat} (hi : i < zs.length) (z : Int) : Flat (w.setCell ⟨g, i, none⟩ (.int .i64 z)) g t (zs.set i z) := by
  obtain ⟨cs, hb, hc⟩ := h
  refine ⟨cs.setIfInBounds i (.int .i64 z), Blk.set_ hb i _, fun j hj => ?_⟩
  rw [List.length_set] at hj
  have hs : i < cs.size := by
    have := hc i hi
    rcases Nat.lt_or_ge i cs.size with h | h
    · exact h
    · rw [Array.getElem?_eq_none h] at this; cases this
  rw [Array.getElem?_setIfInBounds, getD_setF hi]
  by_cases e : i = j
  · subst e; rw [if_pos rfl, if_pos hs, if_pos rfl]
  · rw [if_neg e, if_neg (fun c => e c.symm)]; exact hc j hj
theorem Flat.row {w : World} {g : Nat} {t : TypeId} {n : Nat} {f : Nat → Value} {zs : List Int} (h : w.rowIs g t n f) (hl : zs.length ≤ n) (hf : ∀ j, j < zs.length → f j = .int .i64 (zs.getD j 0)) : Flat w g t zs := by
  obtain ⟨cs, hb, _, hc⟩ := h
  exact ⟨cs, hb, fun j hj => by rw [hc j (by omega), hf j hj]⟩
/-- a row of the call's own that begins with numbers: nil, or a block -/
theorem Flat.own {w : World} {base : Nat} {e : TypeId} {size n : Nat} {v : Value} {zs : List Int} (h : w.ownsRow base e size v n (zs.map (Value.int .i64))) : (v = .slice none 0 0 ∧ n = 0) ∨ ∃ g cap, v = .slice (some ⟨g, 0, none⟩) n cap ∧ base ≤ g ∧ Flat w g e zs ∧ n ≤ cap := by
  rcases h.2 with h0 | ⟨g, cap, cur, rfl, hg, hb, hnc, _, _, ht⟩
  · exact .inl h0
  · refine .inr ⟨g, cap, rfl, hg, ⟨cur, hb, fun j hj => ?_⟩, hnc⟩
    have hl := h.1
    rw [List.length_map] at hl
    have : (List.take (n * size) cur.toList)[j]? = some (.int .i64 (zs.getD j 0)) := by
      rw [ht, List.getElem?_map, List.getElem?_eq_getElem hj, List.getD_eq_getElem?_getD, List.getElem?_eq_getElem hj]; rfl
    rw [List.getElem?_take_of_lt (by omega)] at this
    simpa using this
theorem Flat.hs {w : World} {g : Nat} {t : TypeId} {hs : List Hd} (h : Flat w g t (flatH hs)) : IsHs w (some ⟨g, 0, none⟩) hs := by
  refine .inr ⟨g, 0, rfl, fun i hi => ?_⟩
  obtain ⟨a, b, c⟩ := flat_get hs i hi
  have hl := flat_len hs
  rw [Nat.zero_add]
  exact ⟨by rw [h.cell (by omega), a], by rw [h.cell (by omega), b], by rw [h.cell (by omega), c]⟩

end Go.Proofs.Ythagafkjlecagaa
namespace Go.Proofs.Ythagafkjlecagaa
open Go.RowKit
set_option linter.unusedSimpArgs false
set_option linter.unusedVariables false
/-- s, s + 1 .. -/
def mkS (s : Int) (n : Nat) : List Int := (List.range n).map fun (i : Nat) => s + (i : Int)
theorem mkS_len (s : Int) (n : Nat) : (mkS s n).length = n := by unfold mkS; simp
theorem mkS_get (s : Int) (n : Nat) {k : Nat} (h : k < n) : (mkS s n).getD k 0 = s + (k : Int) := by
  unfold mkS
  rw [List.getD_eq_getElem?_getD, List.getElem?_map, List.getElem?_range h]; rfl
/-- the first j numbers written anew -/
def mkTo (s : Int) (zs : List Int) (j : Nat) : List Int := (List.range zs.length).map fun (i : Nat) => if i < j then s + (i : Int) else zs.getD i 0
theorem mkTo_len (s : Int) (zs : List Int) (j : Nat) : (mkTo s zs j).length = zs.length := by unfold mkTo; simp
theorem mkTo_get (s : Int) (zs : List Int) (j : Nat) {i : Nat} (h : i < zs.length) : (mkTo s zs j).getD i 0 = if i < j then s + (i : Int) else zs.getD i 0 := by
  unfold mkTo
  rw [List.getD_eq_getElem?_getD, List.getElem?_map, List.getElem?_range h]; rfl
theorem mk_ext {a b : List Int} (hl : a.length = b.length) (h : ∀ i, i < a.length → a.getD i 0 = b.getD i 0) : a = b := by
  apply List.ext_getElem hl
  intro i h1 h2
  have := h i h1
  rw [List.getD_eq_getElem?_getD, List.getElem?_eq_getElem h1, List.getD_eq_getElem?_getD, List.getElem?_eq_getElem h2] at this
  exact this
theorem mkTo_zero (s : Int) (zs : List Int) : mkTo s zs 0 = zs := mk_ext (mkTo_len s zs 0) (fun i hi => by rw [mkTo_len] at hi; rw [mkTo_get s zs 0 hi, if_neg (Nat.not_lt_zero _)])
theorem mkTo_set (s : Int) {zs : List Int} {j : Nat} (h : j < zs.length) : (mkTo s zs j).set j (s + (j : Int)) = mkTo s zs (j + 1) := by
  refine mk_ext (by rw [List.length_set, mkTo_len, mkTo_len]) (fun i hi => ?_)
  rw [List.length_set, mkTo_len] at hi
  rw [getD_setF (by rw [mkTo_len]; exact h), mkTo_get s zs j hi, mkTo_get s zs (j + 1) hi]
  by_cases e : i = j
  · subst e; rw [if_pos rfl, if_pos (by omega)]
  · rw [if_neg e]
    by_cases c : i < j
    · rw [if_pos c, if_pos (by omega)]
    · rw [if_neg c, if_neg (by omega)]
theorem mkTo_end (s : Int) (zs : List Int) : mkTo s zs zs.length = mkS s zs.length := by
  refine mk_ext (by rw [mkTo_len, mkS_len]) (fun i hi => ?_)
  rw [mkTo_len] at hi
  rw [mkTo_get s zs _ hi, if_pos hi, mkS_get s _ hi]
/-- a row of the call's own that begins with numbers: nil, or a block -/
def RowF (w : World) (base : Nat) (t : TypeId) (v : Value) (n : Nat) (zs : List Int) : Prop := (v = .slice none 0 0 ∧ n = 0) ∨ ∃ g cap, v = .slice (some ⟨g, 0, none⟩) n cap ∧ base ≤ g ∧ Flat w g t zs ∧ n ≤ cap
theorem RowF.next {w w' : World} {base n : Nat} {t : TypeId} {v : Value} {zs : List Int} (h : RowF w base t v n zs) (hb : Below w.heap.size w w') : RowF w' base t v n zs := by
  rcases h with h | ⟨g, cap, hv, hg, F, hc⟩
  · exact .inl h
  · exact .inr ⟨g, cap, hv, hg, F.next hb, hc⟩
theorem RowF.base {w : World} {a b n : Nat} {t : TypeId} {v : Value} {zs : List Int} (h : RowF w b t v n zs) (hab : a ≤ b) : RowF w a t v n zs := by
  rcases h with h | ⟨g, cap, hv, hg, r⟩
  · exact .inl h
  · exact .inr ⟨g, cap, hv, Nat.le_trans hab hg, r⟩
/-- a row of another type has another block -/
theorem Flat.type_ne {w : World} {g g' : Nat} {t t' : TypeId} {zs zs' : List Int} (h : Flat w g t zs) (h' : Flat w g' t' zs') (hne : t ≠ t') : g ≠ g' := by
  rintro rfl
  obtain ⟨cs, hb, _⟩ := h
  obtain ⟨cs', hb', _⟩ := h'
  rw [hb] at hb'
  injection hb' with e
  injection e with _ e2
  exact hne e2
theorem RowF.apart {w w' : World} {base n base' n' : Nat} {t t' : TypeId} {v v' : Value} {zs zs' : List Int} (h : RowF w base t v n zs) (h' : RowF w base' t' v' n' zs') (hne : t ≠ t') (hG : w.grownBy w' v'.ownBlock) : RowF w' base t v n zs := by
  rcases h with h | ⟨g, cap, hv, hg, F, hc⟩
  · exact .inl h
  · refine .inr ⟨g, cap, hv, hg, F.of_block (hG.block g F.lt ?_), hc⟩
    rcases h' with ⟨e, _⟩ | ⟨g', cap', e, _, F', _⟩
    · rw [e]; intro c; cases c
    · rw [e]; intro c
      injection c with c
      exact F.type_ne F' hne c
theorem RowF.far {w w' : World} {base n : Nat} {t : TypeId} {v : Value} {zs : List Int} {row : Option Nat} (h : RowF w base t v n zs) (hG : w.grownBy w' row) (hr : ∀ q, row = some q → q < base) : RowF w' base t v n zs := by
  rcases h with h | ⟨g, cap, hv, hg, F, hc⟩
  · exact .inl h
  · refine .inr ⟨g, cap, hv, hg, F.of_block (hG.block g F.lt ?_), hc⟩
    intro c
    have := hr g c.symm
    omega
theorem RowF.lt {w : World} {base n : Nat} {t : TypeId} {v : Value} {zs : List Int} (h : RowF w base t v n zs) : ∀ q, v.ownBlock = some q → base ≤ q ∧ q < w.heap.size := by
  rcases h with ⟨e, _⟩ | ⟨g, cap, e, hg, F, _⟩
  · rw [e]; intro q c; cases c
  · rw [e]; intro q c
    injection c with c
    have c : g = q := c
    subst c; exact ⟨hg, F.lt⟩
theorem below_rowF {w a b : World} {base n : Nat} {t : TypeId} {v : Value} {zs : List Int} (h : Below w.heap.size w a) (hR : RowF a base t v n zs) (hb : w.heap.size ≤ base) (hG : a.grownBy b v.ownBlock) : Below w.heap.size w b :=
  h.grown hG h.size (fun q hq => Nat.le_trans hb (hR.lt q hq).1)
end Go.Proofs.Ythagafkjlecagaa
namespace Go.Proofs.Ythagafkjlecagaa
open Go.RowKit
set_option linter.unusedSimpArgs false
set_option linter.unusedVariables false
theorem rowN {w w' : World} {base n size : Nat} {t : TypeId} {v : Value} {xs : List Value} (h : w.ownsRow base t size v n xs) (hb : Below w.heap.size w w') : w'.ownsRow base t size v n xs := by
  refine ⟨h.1, ?_⟩
  rcases h.2 with h0 | ⟨g, cap, cur, hv, hg, hb0, r⟩
  · exact .inl h0
  · exact .inr ⟨g, cap, cur, hv, hg, (hb.block g (Blk.lt hb0)).trans hb0, r⟩
theorem rowH {w w' : World} {base n size : Nat} {t : TypeId} {v : Value} {xs : List Value} (h : w.ownsRow base t size v n xs) (hk : ∀ (g : Nat) (cs : Array Value), w.heap[g]? = some (Obj.cells cs t (0, 0)) → w'.heap[g]? = w.heap[g]?) : w'.ownsRow base t size v n xs := by
  refine ⟨h.1, ?_⟩
  rcases h.2 with h0 | ⟨g, cap, cur, hv, hg, hb0, r⟩
  · exact .inl h0
  · exact .inr ⟨g, cap, cur, hv, hg, (hk g cur hb0).trans hb0, r⟩
theorem blk_type {w : World} {b g : Nat} {t t' : TypeId} {cs cs' : Array Value} (K : Blk w b t cs) (h : w.heap[g]? = some (Obj.cells cs' t' (0, 0))) (hne : t ≠ t') : g ≠ b := by
  rintro rfl
  unfold Blk at K
  rw [K] at h
  injection h with e
  injection e with _ e2
  exact hne e2
theorem rowS {w : World} {base n size b : Nat} {t t' : TypeId} {v : Value} {xs : List Value} {cs : Array Value} (h : w.ownsRow base t size v n xs) (K : Blk w b t' cs) (hne : t' ≠ t) (j : Nat) (x : Value) : (w.setCell ⟨b, j, none⟩ x).ownsRow base t size v n xs :=
  rowH h (fun g cs' hg => Below.heap_setCell w ⟨b, j, none⟩ x g (blk_type K hg hne))
theorem rowG {w w' : World} {base n size : Nat} {t : TypeId} {v : Value} {xs : List Value} {O : Obj} (h : w.ownsRow base t size v n xs) (hG : (w.alloc O).grownBy w' (some w.heap.size)) : w'.ownsRow base t size v n xs :=
  rowH h (fun g cs hg => by
    have hlt : g < w.heap.size := Blk.lt hg
    exact (hG.block g (by simp; omega) (fun e => by injection e with e; omega)).trans (Below.heap_alloc w O g hlt))
theorem blkN {w w' : World} {g : Nat} {t : TypeId} {cs : Array Value} {O : Obj} (h : Blk w g t cs) (hG : (w.alloc O).grownBy w' (some w.heap.size)) : Blk w' g t cs :=
  (h.alloc O).grown hG (fun e => by injection e with e; exact absurd h.lt (by omega))
theorem belN {w0 w w' : World} {O : Obj} (h : Below w0.heap.size w0 w) (hG : (w.alloc O).grownBy w' (some w.heap.size)) : Below w0.heap.size w0 w' :=
  (h.alloc h.size O).grown hG (by have := h.size; simp; omega) (fun q e => by injection e with e; have := h.size; omega)
theorem own_form {w : World} {base n size : Nat} {t : TypeId} {v : Value} {xs : List Value} (h : w.ownsRow base t size v n xs) : ∃ b k, v = .slice b n k ∧ n ≤ k := by
  rcases h.2 with ⟨e, h0⟩ | ⟨g, cap, cur, e, _, _, hc, _⟩
  · exact ⟨none, 0, by rw [e, h0], by omega⟩
  · exact ⟨_, _, e, hc⟩
theorem own_rowF {w : World} {base n size : Nat} {t : TypeId} {v : Value} {zs : List Int} (h : w.ownsRow base t size v n (zs.map (Value.int .i64))) : RowF w base t v n zs := Flat.own h
/-- 6 cells of a block stored anew -/
def sets6 (w : World) (b : Nat) (v0 v1 v2 v3 v4 v5 : Value) : World := ((((((w.setCell ⟨b, 0, none⟩ v0).setCell ⟨b, 1, none⟩ v1).setCell ⟨b, 2, none⟩ v2).setCell ⟨b, 3, none⟩ v3).setCell ⟨b, 4, none⟩ v4).setCell ⟨b, 5, none⟩ v5)
theorem sets6_below {w W : World} {b : Nat} {v0 v1 v2 v3 v4 v5 : Value} (h : Below w.heap.size w W) (hb : w.heap.size ≤ b) : Below w.heap.size w (sets6 W b v0 v1 v2 v3 v4 v5) := ((((((h.setCell (p := ⟨b, 0, none⟩) hb v0).setCell (p := ⟨b, 1, none⟩) hb v1).setCell (p := ⟨b, 2, none⟩) hb v2).setCell (p := ⟨b, 3, none⟩) hb v3).setCell (p := ⟨b, 4, none⟩) hb v4).setCell (p := ⟨b, 5, none⟩) hb v5)
theorem sets6_blk {w : World} {b : Nat} {t : TypeId} {u0 u1 u2 u3 u4 u5 v0 v1 v2 v3 v4 v5 : Value} (h : Blk w b t #[u0, u1, u2, u3, u4, u5]) : Blk (sets6 w b v0 v1 v2 v3 v4 v5) b t #[v0, v1, v2, v3, v4, v5] := by
  have k := ((((((h.set_ 0 v0).set_ 1 v1).set_ 2 v2).set_ 3 v3).set_ 4 v4).set_ 5 v5)
  simp only [List.setIfInBounds_toArray, List.set_cons_zero, List.set_cons_succ] at k
  exact k
theorem rowX6 {w : World} {base n size b : Nat} {t t' : TypeId} {v : Value} {xs : List Value} {cs : Array Value} {v0 v1 v2 v3 v4 v5 : Value} (h : w.ownsRow base t size v n xs) (K : Blk w b t' cs) (hne : t' ≠ t) : (sets6 w b v0 v1 v2 v3 v4 v5).ownsRow base t size v n xs :=
  rowH h (fun g cs' hg => by
    have hn := blk_type K hg hne
    unfold sets6
    rw [Below.heap_setCell _ _ _ g hn, Below.heap_setCell _ _ _ g hn, Below.heap_setCell _ _ _ g hn, Below.heap_setCell _ _ _ g hn, Below.heap_setCell _ _ _ g hn, Below.heap_setCell _ _ _ g hn])
theorem cells6 {w : World} {g : Nat} {t : TypeId} {v0 v1 v2 v3 v4 v5 : Value} (h : Blk w g t #[v0, v1, v2, v3, v4, v5]) : w.cell? ⟨g, 0, none⟩ = some v0 ∧ w.cell? ⟨g, 1, none⟩ = some v1 ∧ w.cell? ⟨g, 2, none⟩ = some v2 ∧ w.cell? ⟨g, 3, none⟩ = some v3 ∧ w.cell? ⟨g, 4, none⟩ = some v4 ∧ w.cell? ⟨g, 5, none⟩ = some v5 := ⟨h.cell 0, h.cell 1, h.cell 2, h.cell 3, h.cell 4, h.cell 5⟩
/-- 9 cells of a block stored anew -/
def sets9 (w : World) (b : Nat) (v0 v1 v2 v3 v4 v5 v6 v7 v8 : Value) : World := (((((((((w.setCell ⟨b, 0, none⟩ v0).setCell ⟨b, 1, none⟩ v1).setCell ⟨b, 2, none⟩ v2).setCell ⟨b, 3, none⟩ v3).setCell ⟨b, 4, none⟩ v4).setCell ⟨b, 5, none⟩ v5).setCell ⟨b, 6, none⟩ v6).setCell ⟨b, 7, none⟩ v7).setCell ⟨b, 8, none⟩ v8)
theorem sets9_below {w W : World} {b : Nat} {v0 v1 v2 v3 v4 v5 v6 v7 v8 : Value} (h : Below w.heap.size w W) (hb : w.heap.size ≤ b) : Below w.heap.size w (sets9 W b v0 v1 v2 v3 v4 v5 v6 v7 v8) := (((((((((h.setCell (p := ⟨b, 0, none⟩) hb v0).setCell (p := ⟨b, 1, none⟩) hb v1).setCell (p := ⟨b, 2, none⟩) hb v2).setCell (p := ⟨b, 3, none⟩) hb v3).setCell (p := ⟨b, 4, none⟩) hb v4).setCell (p := ⟨b, 5, none⟩) hb v5).setCell (p := ⟨b, 6, none⟩) hb v6).setCell (p := ⟨b, 7, none⟩) hb v7).setCell (p := ⟨b, 8, none⟩) hb v8)
theorem sets9_blk {w : World} {b : Nat} {t : TypeId} {u0 u1 u2 u3 u4 u5 u6 u7 u8 v0 v1 v2 v3 v4 v5 v6 v7 v8 : Value} (h : Blk w b t #[u0, u1, u2, u3, u4, u5, u6, u7, u8]) : Blk (sets9 w b v0 v1 v2 v3 v4 v5 v6 v7 v8) b t #[v0, v1, v2, v3, v4, v5, v6, v7, v8] := by
  have k := (((((((((h.set_ 0 v0).set_ 1 v1).set_ 2 v2).set_ 3 v3).set_ 4 v4).set_ 5 v5).set_ 6 v6).set_ 7 v7).set_ 8 v8)
  simp only [List.setIfInBounds_toArray, List.set_cons_zero, List.set_cons_succ] at k
  exact k
theorem rowX9 {w : World} {base n size b : Nat} {t t' : TypeId} {v : Value} {xs : List Value} {cs : Array Value} {v0 v1 v2 v3 v4 v5 v6 v7 v8 : Value} (h : w.ownsRow base t size v n xs) (K : Blk w b t' cs) (hne : t' ≠ t) : (sets9 w b v0 v1 v2 v3 v4 v5 v6 v7 v8).ownsRow base t size v n xs :=
  rowH h (fun g cs' hg => by
    have hn := blk_type K hg hne
    unfold sets9
    rw [Below.heap_setCell _ _ _ g hn, Below.heap_setCell _ _ _ g hn, Below.heap_setCell _ _ _ g hn, Below.heap_setCell _ _ _ g hn, Below.heap_setCell _ _ _ g hn, Below.heap_setCell _ _ _ g hn, Below.heap_setCell _ _ _ g hn, Below.heap_setCell _ _ _ g hn, Below.heap_setCell _ _ _ g hn])
theorem cells9 {w : World} {g : Nat} {t : TypeId} {v0 v1 v2 v3 v4 v5 v6 v7 v8 : Value} (h : Blk w g t #[v0, v1, v2, v3, v4, v5, v6, v7, v8]) : w.cell? ⟨g, 0, none⟩ = some v0 ∧ w.cell? ⟨g, 1, none⟩ = some v1 ∧ w.cell? ⟨g, 2, none⟩ = some v2 ∧ w.cell? ⟨g, 3, none⟩ = some v3 ∧ w.cell? ⟨g, 4, none⟩ = some v4 ∧ w.cell? ⟨g, 5, none⟩ = some v5 ∧ w.cell? ⟨g, 6, none⟩ = some v6 ∧ w.cell? ⟨g, 7, none⟩ = some v7 ∧ w.cell? ⟨g, 8, none⟩ = some v8 := ⟨h.cell 0, h.cell 1, h.cell 2, h.cell 3, h.cell 4, h.cell 5, h.cell 6, h.cell 7, h.cell 8⟩
theorem fS {w y : World} {g b j : Nat} {t : TypeId} {cs : Array Value} {v : Value} (h : Blk w g t cs) (hy : y = w.setCell ⟨b, j, none⟩ v) (hn : g ≠ b) : Blk y g t cs := by subst hy; exact h.far (p := ⟨b, j, none⟩) hn v
theorem fS2 {w y : World} {g b j j2 : Nat} {t : TypeId} {cs : Array Value} {v v2 : Value} (h : Blk w g t cs) (hy : y = (w.setCell ⟨b, j, none⟩ v).setCell ⟨b, j2, none⟩ v2) (hn : g ≠ b) : Blk y g t cs := fS (fS h rfl hn) hy hn
theorem rS {w y : World} {base n size b j : Nat} {t t' : TypeId} {v x : Value} {xs : List Value} {cs : Array Value} (h : w.ownsRow base t size v n xs) (K : Blk w b t' cs) (hy : y = w.setCell ⟨b, j, none⟩ x) (hne : t' ≠ t) : y.ownsRow base t size v n xs := by subst hy; exact rowS h K hne j x
theorem rS2 {w y : World} {base n size b j j2 : Nat} {t t' : TypeId} {v x x2 : Value} {xs : List Value} {cs : Array Value} (h : w.ownsRow base t size v n xs) (K : Blk w b t' cs) (hy : y = (w.setCell ⟨b, j, none⟩ x).setCell ⟨b, j2, none⟩ x2) (hne : t' ≠ t) : y.ownsRow base t size v n xs := rS (rS h K rfl hne) (K.set_ j x) hy hne
theorem bS {w0 w y : World} {b j : Nat} {v : Value} (h : Below w0.heap.size w0 w) (hy : y = w.setCell ⟨b, j, none⟩ v) (hb : w0.heap.size ≤ b) : Below w0.heap.size w0 y := by subst hy; exact h.setCell (p := ⟨b, j, none⟩) hb v
theorem bS2 {w0 w y : World} {b j j2 : Nat} {v v2 : Value} (h : Below w0.heap.size w0 w) (hy : y = (w.setCell ⟨b, j, none⟩ v).setCell ⟨b, j2, none⟩ v2) (hb : w0.heap.size ≤ b) : Below w0.heap.size w0 y := bS (bS h rfl hb) hy hb
theorem S10_0 {w y : World} {b : Nat} {t : TypeId} {u0 u1 u2 u3 u4 u5 u6 u7 u8 u9 v : Value} (h : Blk w b t #[u0, u1, u2, u3, u4, u5, u6, u7, u8, u9]) (hy : y = w.setCell ⟨b, 0, none⟩ v) : Blk y b t #[v, u1, u2, u3, u4, u5, u6, u7, u8, u9] := by subst hy; exact h.set_ 0 v
theorem S10_1 {w y : World} {b : Nat} {t : TypeId} {u0 u1 u2 u3 u4 u5 u6 u7 u8 u9 v : Value} (h : Blk w b t #[u0, u1, u2, u3, u4, u5, u6, u7, u8, u9]) (hy : y = w.setCell ⟨b, 1, none⟩ v) : Blk y b t #[u0, v, u2, u3, u4, u5, u6, u7, u8, u9] := by subst hy; exact h.set_ 1 v
theorem S10_2 {w y : World} {b : Nat} {t : TypeId} {u0 u1 u2 u3 u4 u5 u6 u7 u8 u9 v : Value} (h : Blk w b t #[u0, u1, u2, u3, u4, u5, u6, u7, u8, u9]) (hy : y = w.setCell ⟨b, 2, none⟩ v) : Blk y b t #[u0, u1, v, u3, u4, u5, u6, u7, u8, u9] := by subst hy; exact h.set_ 2 v
theorem S10_3 {w y : World} {b : Nat} {t : TypeId} {u0 u1 u2 u3 u4 u5 u6 u7 u8 u9 v : Value} (h : Blk w b t #[u0, u1, u2, u3, u4, u5, u6, u7, u8, u9]) (hy : y = w.setCell ⟨b, 3, none⟩ v) : Blk y b t #[u0, u1, u2, v, u4, u5, u6, u7, u8, u9] := by subst hy; exact h.set_ 3 v
theorem S10_4 {w y : World} {b : Nat} {t : TypeId} {u0 u1 u2 u3 u4 u5 u6 u7 u8 u9 v : Value} (h : Blk w b t #[u0, u1, u2, u3, u4, u5, u6, u7, u8, u9]) (hy : y = w.setCell ⟨b, 4, none⟩ v) : Blk y b t #[u0, u1, u2, u3, v, u5, u6, u7, u8, u9] := by subst hy; exact h.set_ 4 v
theorem S10_5 {w y : World} {b : Nat} {t : TypeId} {u0 u1 u2 u3 u4 u5 u6 u7 u8 u9 v : Value} (h : Blk w b t #[u0, u1, u2, u3, u4, u5, u6, u7, u8, u9]) (hy : y = w.setCell ⟨b, 5, none⟩ v) : Blk y b t #[u0, u1, u2, u3, u4, v, u6, u7, u8, u9] := by subst hy; exact h.set_ 5 v
theorem S10_6 {w y : World} {b : Nat} {t : TypeId} {u0 u1 u2 u3 u4 u5 u6 u7 u8 u9 v : Value} (h : Blk w b t #[u0, u1, u2, u3, u4, u5, u6, u7, u8, u9]) (hy : y = w.setCell ⟨b, 6, none⟩ v) : Blk y b t #[u0, u1, u2, u3, u4, u5, v, u7, u8, u9] := by subst hy; exact h.set_ 6 v
theorem S10_7 {w y : World} {b : Nat} {t : TypeId} {u0 u1 u2 u3 u4 u5 u6 u7 u8 u9 v : Value} (h : Blk w b t #[u0, u1, u2, u3, u4, u5, u6, u7, u8, u9]) (hy : y = w.setCell ⟨b, 7, none⟩ v) : Blk y b t #[u0, u1, u2, u3, u4, u5, u6, v, u8, u9] := by subst hy; exact h.set_ 7 v
theorem S10_8 {w y : World} {b : Nat} {t : TypeId} {u0 u1 u2 u3 u4 u5 u6 u7 u8 u9 v : Value} (h : Blk w b t #[u0, u1, u2, u3, u4, u5, u6, u7, u8, u9]) (hy : y = w.setCell ⟨b, 8, none⟩ v) : Blk y b t #[u0, u1, u2, u3, u4, u5, u6, u7, v, u9] := by subst hy; exact h.set_ 8 v
theorem S10_9 {w y : World} {b : Nat} {t : TypeId} {u0 u1 u2 u3 u4 u5 u6 u7 u8 u9 v : Value} (h : Blk w b t #[u0, u1, u2, u3, u4, u5, u6, u7, u8, u9]) (hy : y = w.setCell ⟨b, 9, none⟩ v) : Blk y b t #[u0, u1, u2, u3, u4, u5, u6, u7, u8, v] := by subst hy; exact h.set_ 9 v
theorem S10_3x2 {w y : World} {b : Nat} {t : TypeId} {u0 u1 u2 u3 u4 u5 u6 u7 u8 u9 v v2 : Value} (h : Blk w b t #[u0, u1, u2, u3, u4, u5, u6, u7, u8, u9]) (hy : y = (w.setCell ⟨b, 3, none⟩ v).setCell ⟨b, 4, none⟩ v2) : Blk y b t #[u0, u1, u2, v, v2, u5, u6, u7, u8, u9] := S10_4 (S10_3 h rfl) hy
theorem S9_0 {w y : World} {b : Nat} {t : TypeId} {u0 u1 u2 u3 u4 u5 u6 u7 u8 v : Value} (h : Blk w b t #[u0, u1, u2, u3, u4, u5, u6, u7, u8]) (hy : y = w.setCell ⟨b, 0, none⟩ v) : Blk y b t #[v, u1, u2, u3, u4, u5, u6, u7, u8] := by subst hy; exact h.set_ 0 v
theorem S9_1 {w y : World} {b : Nat} {t : TypeId} {u0 u1 u2 u3 u4 u5 u6 u7 u8 v : Value} (h : Blk w b t #[u0, u1, u2, u3, u4, u5, u6, u7, u8]) (hy : y = w.setCell ⟨b, 1, none⟩ v) : Blk y b t #[u0, v, u2, u3, u4, u5, u6, u7, u8] := by subst hy; exact h.set_ 1 v
theorem S9_2 {w y : World} {b : Nat} {t : TypeId} {u0 u1 u2 u3 u4 u5 u6 u7 u8 v : Value} (h : Blk w b t #[u0, u1, u2, u3, u4, u5, u6, u7, u8]) (hy : y = w.setCell ⟨b, 2, none⟩ v) : Blk y b t #[u0, u1, v, u3, u4, u5, u6, u7, u8] := by subst hy; exact h.set_ 2 v
theorem S9_3 {w y : World} {b : Nat} {t : TypeId} {u0 u1 u2 u3 u4 u5 u6 u7 u8 v : Value} (h : Blk w b t #[u0, u1, u2, u3, u4, u5, u6, u7, u8]) (hy : y = w.setCell ⟨b, 3, none⟩ v) : Blk y b t #[u0, u1, u2, v, u4, u5, u6, u7, u8] := by subst hy; exact h.set_ 3 v
theorem S9_4 {w y : World} {b : Nat} {t : TypeId} {u0 u1 u2 u3 u4 u5 u6 u7 u8 v : Value} (h : Blk w b t #[u0, u1, u2, u3, u4, u5, u6, u7, u8]) (hy : y = w.setCell ⟨b, 4, none⟩ v) : Blk y b t #[u0, u1, u2, u3, v, u5, u6, u7, u8] := by subst hy; exact h.set_ 4 v
theorem S9_5 {w y : World} {b : Nat} {t : TypeId} {u0 u1 u2 u3 u4 u5 u6 u7 u8 v : Value} (h : Blk w b t #[u0, u1, u2, u3, u4, u5, u6, u7, u8]) (hy : y = w.setCell ⟨b, 5, none⟩ v) : Blk y b t #[u0, u1, u2, u3, u4, v, u6, u7, u8] := by subst hy; exact h.set_ 5 v
theorem S9_6 {w y : World} {b : Nat} {t : TypeId} {u0 u1 u2 u3 u4 u5 u6 u7 u8 v : Value} (h : Blk w b t #[u0, u1, u2, u3, u4, u5, u6, u7, u8]) (hy : y = w.setCell ⟨b, 6, none⟩ v) : Blk y b t #[u0, u1, u2, u3, u4, u5, v, u7, u8] := by subst hy; exact h.set_ 6 v
theorem S9_7 {w y : World} {b : Nat} {t : TypeId} {u0 u1 u2 u3 u4 u5 u6 u7 u8 v : Value} (h : Blk w b t #[u0, u1, u2, u3, u4, u5, u6, u7, u8]) (hy : y = w.setCell ⟨b, 7, none⟩ v) : Blk y b t #[u0, u1, u2, u3, u4, u5, u6, v, u8] := by subst hy; exact h.set_ 7 v
theorem S9_8 {w y : World} {b : Nat} {t : TypeId} {u0 u1 u2 u3 u4 u5 u6 u7 u8 v : Value} (h : Blk w b t #[u0, u1, u2, u3, u4, u5, u6, u7, u8]) (hy : y = w.setCell ⟨b, 8, none⟩ v) : Blk y b t #[u0, u1, u2, u3, u4, u5, u6, u7, v] := by subst hy; exact h.set_ 8 v
theorem S9_3x2 {w y : World} {b : Nat} {t : TypeId} {u0 u1 u2 u3 u4 u5 u6 u7 u8 v v2 : Value} (h : Blk w b t #[u0, u1, u2, u3, u4, u5, u6, u7, u8]) (hy : y = (w.setCell ⟨b, 3, none⟩ v).setCell ⟨b, 4, none⟩ v2) : Blk y b t #[u0, u1, u2, v, v2, u5, u6, u7, u8] := S9_4 (S9_3 h rfl) hy
theorem X9b {w y : World} {b : Nat} {t : TypeId} {u0 u1 u2 u3 u4 u5 u6 u7 u8 v0 v1 v2 v3 v4 v5 v6 v7 v8 : Value} (h : Blk w b t #[u0, u1, u2, u3, u4, u5, u6, u7, u8]) (hy : y = sets9 w b v0 v1 v2 v3 v4 v5 v6 v7 v8) : Blk y b t #[v0, v1, v2, v3, v4, v5, v6, v7, v8] := by subst hy; exact sets9_blk h
theorem X9r {w y : World} {base n size b : Nat} {t t' : TypeId} {v : Value} {xs : List Value} {cs : Array Value} {v0 v1 v2 v3 v4 v5 v6 v7 v8 : Value} (h : w.ownsRow base t size v n xs) (K : Blk w b t' cs) (hy : y = sets9 w b v0 v1 v2 v3 v4 v5 v6 v7 v8) (hne : t' ≠ t) : y.ownsRow base t size v n xs := by subst hy; exact rowX9 h K hne
theorem X9B {w0 w y : World} {b : Nat} {v0 v1 v2 v3 v4 v5 v6 v7 v8 : Value} (h : Below w0.heap.size w0 w) (hy : y = sets9 w b v0 v1 v2 v3 v4 v5 v6 v7 v8) (hb : w0.heap.size ≤ b) : Below w0.heap.size w0 y := by subst hy; exact sets9_below h hb
theorem S6_0 {w y : World} {b : Nat} {t : TypeId} {u0 u1 u2 u3 u4 u5 v : Value} (h : Blk w b t #[u0, u1, u2, u3, u4, u5]) (hy : y = w.setCell ⟨b, 0, none⟩ v) : Blk y b t #[v, u1, u2, u3, u4, u5] := by subst hy; exact h.set_ 0 v
theorem S6_1 {w y : World} {b : Nat} {t : TypeId} {u0 u1 u2 u3 u4 u5 v : Value} (h : Blk w b t #[u0, u1, u2, u3, u4, u5]) (hy : y = w.setCell ⟨b, 1, none⟩ v) : Blk y b t #[u0, v, u2, u3, u4, u5] := by subst hy; exact h.set_ 1 v
theorem S6_2 {w y : World} {b : Nat} {t : TypeId} {u0 u1 u2 u3 u4 u5 v : Value} (h : Blk w b t #[u0, u1, u2, u3, u4, u5]) (hy : y = w.setCell ⟨b, 2, none⟩ v) : Blk y b t #[u0, u1, v, u3, u4, u5] := by subst hy; exact h.set_ 2 v
theorem S6_3 {w y : World} {b : Nat} {t : TypeId} {u0 u1 u2 u3 u4 u5 v : Value} (h : Blk w b t #[u0, u1, u2, u3, u4, u5]) (hy : y = w.setCell ⟨b, 3, none⟩ v) : Blk y b t #[u0, u1, u2, v, u4, u5] := by subst hy; exact h.set_ 3 v
theorem S6_4 {w y : World} {b : Nat} {t : TypeId} {u0 u1 u2 u3 u4 u5 v : Value} (h : Blk w b t #[u0, u1, u2, u3, u4, u5]) (hy : y = w.setCell ⟨b, 4, none⟩ v) : Blk y b t #[u0, u1, u2, u3, v, u5] := by subst hy; exact h.set_ 4 v
theorem S6_5 {w y : World} {b : Nat} {t : TypeId} {u0 u1 u2 u3 u4 u5 v : Value} (h : Blk w b t #[u0, u1, u2, u3, u4, u5]) (hy : y = w.setCell ⟨b, 5, none⟩ v) : Blk y b t #[u0, u1, u2, u3, u4, v] := by subst hy; exact h.set_ 5 v
theorem S6_3x2 {w y : World} {b : Nat} {t : TypeId} {u0 u1 u2 u3 u4 u5 v v2 : Value} (h : Blk w b t #[u0, u1, u2, u3, u4, u5]) (hy : y = (w.setCell ⟨b, 3, none⟩ v).setCell ⟨b, 4, none⟩ v2) : Blk y b t #[u0, u1, u2, v, v2, u5] := S6_4 (S6_3 h rfl) hy
theorem X6b {w y : World} {b : Nat} {t : TypeId} {u0 u1 u2 u3 u4 u5 v0 v1 v2 v3 v4 v5 : Value} (h : Blk w b t #[u0, u1, u2, u3, u4, u5]) (hy : y = sets6 w b v0 v1 v2 v3 v4 v5) : Blk y b t #[v0, v1, v2, v3, v4, v5] := by subst hy; exact sets6_blk h
theorem X6r {w y : World} {base n size b : Nat} {t t' : TypeId} {v : Value} {xs : List Value} {cs : Array Value} {v0 v1 v2 v3 v4 v5 : Value} (h : w.ownsRow base t size v n xs) (K : Blk w b t' cs) (hy : y = sets6 w b v0 v1 v2 v3 v4 v5) (hne : t' ≠ t) : y.ownsRow base t size v n xs := by subst hy; exact rowX6 h K hne
theorem X6B {w0 w y : World} {b : Nat} {v0 v1 v2 v3 v4 v5 : Value} (h : Below w0.heap.size w0 w) (hy : y = sets6 w b v0 v1 v2 v3 v4 v5) (hb : w0.heap.size ≤ b) : Below w0.heap.size w0 y := by subst hy; exact sets6_below h hb
end Go.Proofs.Ythagafkjlecagaa
namespace Go.Proofs.Ythagafkjlecagaa
open Go.RowKit

/-- laws.toFrac -/
theorem ltoFrac (n d : Int) (w : World) :
    Calls Try.prog 62 #[.agg #[.int .i64 n, .int .i64 d]] w fun e w' => e = .returned (.agg #[.int .i64 n, .int .i64 d]) ∧ Below w.heap.size w w' := by
  go_enter Try.func62, Try.ntmps62
  go_wp2
  refine bodyPost_ret (v := .agg #[.int .i64 n, .int .i64 d]) (by simp [results, Try.results62, go_sem]) rfl ⟨rfl, by go_grown⟩

/-- laws.eqFrac of a fraction and itself -/
theorem leqFrac (n d : Int) (w : World) :
    Calls Try.prog 69 #[.agg #[.int .i64 n, .int .i64 d], .agg #[.int .i64 n, .int .i64 d]] w fun e w' => e = .returned (.bool true) ∧ Below w.heap.size w w' := by
  go_enter Try.func69, Try.ntmps69
  go_wp2
  go_ret
  exact ⟨rfl, by go_grown⟩
end Go.Proofs.Ythagafkjlecagaa
namespace Go.Proofs.Ythagafkjlecagaa
open Go.RowKit

/-- the reader in block b, which has read at most P numbers -/
def Rd (w : World) (b : Nat) (P : Int) : Prop := ∃ (a : Option Addr) (len cap k : Nat),
  w.cell? ⟨b, 0, none⟩ = some (.slice a len cap) ∧ w.cell? ⟨b, 1, none⟩ = some (.int .i64 (k : Int)) ∧ (k : Int) ≤ P ∧ w.frozen? ⟨b, 1, none⟩ = false ∧ len ≤ 2000 ∧
  (len = 0 ∨ ∃ ab off, a = some ⟨ab, off, none⟩ ∧ ab < b ∧ ∀ i, i < len → ∃ x : Int, w.cell? ⟨ab, off + i, none⟩ = some (.int .u8 x) ∧ 0 ≤ x ∧ x < 256)

theorem g_alloc {a w : World} {row : Option Nat} (h : a.grownBy w row) (o : Obj) : a.grownBy (w.alloc o) row :=
  ⟨h.os, h.tape, h.output, Nat.le_trans h.size (by simp), fun i hi hne => (Below.heap_alloc w o i (Nat.lt_of_lt_of_le hi h.size)).trans (h.block i hi hne)⟩
theorem g_set {a w : World} {g : Nat} (h : a.grownBy w (some g)) {p : Addr} (hp : p.block = g ∨ a.heap.size ≤ p.block) (u : Value) : a.grownBy (w.setCell p u) (some g) :=
  ⟨h.os, h.tape, h.output, by simpa [World.setCell] using h.size, fun i hi hne => (Below.heap_setCell w p u i (by
    rintro rfl
    rcases hp with hp | hp
    · exact hne (by rw [hp])
    · omega)).trans (h.block i hi hne)⟩
theorem g_below {a w : World} (h : Below a.heap.size a w) (row : Option Nat) : a.grownBy w row := ⟨h.os, h.tape, h.output, h.size, fun i hi _ => h.block i hi⟩
theorem g_drewN {a w : World} {row : Option Nat} (h : a.grownBy w row) (n : Nat) : a.grownBy (w.drewN n) row := ⟨h.os, h.tape, h.output, h.size, h.block⟩
theorem g_trans {a b c : World} {g : Nat} (h : a.grownBy b (some g)) (k : b.grownBy c (some g)) : a.grownBy c (some g) :=
  ⟨k.os.trans h.os, k.tape.trans h.tape, k.output.trans h.output, Nat.le_trans h.size k.size, fun i hi hne => (k.block i (Nat.lt_of_lt_of_le hi h.size) hne).trans (h.block i hi hne)⟩
theorem g_cell {a w : World} {g : Nat} (h : a.grownBy w (some g)) {b o : Nat} (hb : b < a.heap.size) (hne : b ≠ g) : w.cell? ⟨b, o, none⟩ = a.cell? ⟨b, o, none⟩ :=
  World.cell?_of_block (h.block b hb (fun e => hne (by injection e)))
theorem g_frozen {a w : World} {g : Nat} (h : a.grownBy w (some g)) {b o : Nat} (hb : b < a.heap.size) (hne : b ≠ g) : w.frozen? ⟨b, o, none⟩ = a.frozen? ⟨b, o, none⟩ :=
  World.frozen?_of_block (h.block b hb (fun e => hne (by injection e)))

theorem so {w : World} {a c : Addr} {v u : Value} (h : a ≠ c) (hu : w.cell? c = some u) : (w.setCell a v).cell? c = some u := by
  rw [World.cell?_setCell_other]
  · exact hu
  · exact h
theorem ofInt_i64 (a : Nat) (ha : a < 9223372036854775808) : (BitVec.ofInt 64 (a : Int)).toNat = a := by
  rw [BitVec.ofInt_natCast, BitVec.toNat_ofNat]; exact Nat.mod_eq_of_lt (by omega)
theorem i64_xor_nat (a b : Nat) (ha : a < 9223372036854775808) (hb : b < 9223372036854775808) : bits .xor .i64 (a : Int) (b : Int) = ((a ^^^ b : Nat) : Int) := by
  have hx : a ^^^ b < 2 ^ 63 := Nat.xor_lt_two_pow (by omega) (by omega)
  show IntKind.i64.wrap ((BitVec.ofInt 64 (a : Int) ^^^ BitVec.ofInt 64 (b : Int)).toNat : Int) = _
  rw [BitVec.toNat_xor, ofInt_i64 a ha, ofInt_i64 b hb, IntKind.wrap_i64]
  omega
theorem mixv (X n : Int) (h0 : 0 ≤ X) (h1 : X ≤ 1000000000) (hn : 1 ≤ n) : 0 ≤ (bits .xor .i64 X (X / 64)).tmod n ∧ (bits .xor .i64 X (X / 64)).tmod n < n := by
  obtain ⟨a, rfl⟩ := Int.eq_ofNat_of_zero_le h0
  have e : ((a : Int) / 64) = ((a / 64 : Nat) : Int) := by omega
  rw [e, i64_xor_nat a (a / 64) (by omega) (by omega)]
  rw [Int.tmod_eq_emod_of_nonneg (by omega)]
  exact ⟨Int.emod_nonneg _ (by omega), Int.emod_lt_of_pos _ (by omega)⟩
theorem pick_low (b len cap k : Nat) (a : Option Addr) (n : Int) (w : World) (_h0 : w.cell? ⟨b, 0, none⟩ = some (.slice a len cap)) (h1 : w.cell? ⟨b, 1, none⟩ = some (.int .i64 (k : Int))) (hf : w.frozen? ⟨b, 1, none⟩ = false) (hk : (k : Int) ≤ 100000) (hn : n < 1) :
    Calls Try.prog 50 #[.pointer (some ⟨b, 0, none⟩), .int .i64 n] w fun e w' => e = .returned (.int .i64 0) ∧ w.setCell ⟨b, 1, none⟩ (.int .i64 ((k : Int) + 1)) = w' := by
  go_enter Try.func50, Try.ntmps50
  go_wp2
  go_ret
  exact ⟨rfl, rfl⟩
theorem pick_none (b cap k : Nat) (a : Option Addr) (n : Int) (w : World) (h0 : w.cell? ⟨b, 0, none⟩ = some (.slice a 0 cap)) (h1 : w.cell? ⟨b, 1, none⟩ = some (.int .i64 (k : Int))) (hf : w.frozen? ⟨b, 1, none⟩ = false) (hk : (k : Int) ≤ 100000) (hn : 1 ≤ n) :
    Calls Try.prog 50 #[.pointer (some ⟨b, 0, none⟩), .int .i64 n] w fun e w' => e = .returned (.int .i64 0) ∧ w.setCell ⟨b, 1, none⟩ (.int .i64 ((k : Int) + 1)) = w' := by
  have e1 : (⟨b, 1, none⟩ : Addr) ≠ ⟨b, 0, none⟩ := by simp
  have c0 := so (v := .int .i64 ((k : Int) + 1)) e1 h0
  go_enter Try.func50, Try.ntmps50
  go_wp2
  go_ret
  exact ⟨rfl, rfl⟩
theorem pick_byte (b len cap k ab off : Nat) (x n : Int) (w : World) (h0 : w.cell? ⟨b, 0, none⟩ = some (.slice (some ⟨ab, off, none⟩) len cap)) (h1 : w.cell? ⟨b, 1, none⟩ = some (.int .i64 (k : Int))) (hf : w.frozen? ⟨b, 1, none⟩ = false) (hl : len ≤ 2000) (hn : 1 ≤ n) (hlt : k < len)
    (hne : ab ≠ b) (hx : w.cell? ⟨ab, off + k, none⟩ = some (.int .u8 x)) (hx0 : 0 ≤ x) (hx1 : x < 256) :
    Calls Try.prog 50 #[.pointer (some ⟨b, 0, none⟩), .int .i64 n] w fun e w' => e = .returned (.int .i64 (x % n)) ∧ w.setCell ⟨b, 1, none⟩ (.int .i64 ((k : Int) + 1)) = w' := by
  have e1 : (⟨b, 1, none⟩ : Addr) ≠ ⟨b, 0, none⟩ := by simp
  have e2 : (⟨b, 1, none⟩ : Addr) ≠ ⟨ab, off + k, none⟩ := by intro h; injection h with h; exact hne h.symm
  have c0 := so (v := .int .i64 ((k : Int) + 1)) e1 h0
  have c2 := so (v := .int .i64 ((k : Int) + 1)) e2 hx
  have hl0 : ((len : Int) == 0) = false := by simp; omega
  clear e2
  go_enter Try.func50, Try.ntmps50
  go_wp2
  go_ret
  exact ⟨rfl, rfl⟩
theorem pick_mix (b len cap k ab off : Nat) (x y n : Int) (w : World) (h0 : w.cell? ⟨b, 0, none⟩ = some (.slice (some ⟨ab, off, none⟩) len cap)) (h1 : w.cell? ⟨b, 1, none⟩ = some (.int .i64 (k : Int))) (hf : w.frozen? ⟨b, 1, none⟩ = false) (hl : len ≤ 2000) (hl1 : 1 ≤ len) (hk : k ≤ 100000) (hn : 1 ≤ n) (hlt : ¬ k < len)
    (hne : ab ≠ b) (hx : w.cell? ⟨ab, off + k % len, none⟩ = some (.int .u8 x)) (hx0 : 0 ≤ x) (hx1 : x < 256) (hy : w.cell? ⟨ab, off + (k * 7 + 3) % len, none⟩ = some (.int .u8 y)) (hy0 : 0 ≤ y) (hy1 : y < 256) :
    Calls Try.prog 50 #[.pointer (some ⟨b, 0, none⟩), .int .i64 n] w fun e w' => (∃ v : Int, e = .returned (.int .i64 v) ∧ 0 ≤ v ∧ v < n) ∧ ∃ m, (w.setCell ⟨b, 1, none⟩ (.int .i64 ((k : Int) + 1))).drewN m = w' := by
  have e1 : (⟨b, 1, none⟩ : Addr) ≠ ⟨b, 0, none⟩ := by simp
  have e2 : (⟨b, 1, none⟩ : Addr) ≠ ⟨ab, off + k % len, none⟩ := by intro h; injection h with h; exact hne h.symm
  have e3 : (⟨b, 1, none⟩ : Addr) ≠ ⟨ab, off + (k * 7 + 3) % len, none⟩ := by intro h; injection h with h; exact hne h.symm
  have c0 := so (v := .int .i64 ((k : Int) + 1)) e1 h0
  have c2 := so (v := .int .i64 ((k : Int) + 1)) e2 hx
  have c3 := so (v := .int .i64 ((k : Int) + 1)) e3 hy
  have hl0 : ((len : Int) == 0) = false := by simp; omega
  have hk' : ¬ (k : Int) < (len : Int) := by omega
  have m1 : (k : Int) % (len : Int) < (len : Int) := Int.emod_lt_of_pos _ (by omega)
  have m2 : 0 ≤ (k : Int) % (len : Int) := Int.emod_nonneg _ (by omega)
  have m3 : ((k : Int) * 7 + 3) % (len : Int) < (len : Int) := Int.emod_lt_of_pos _ (by omega)
  have m4 : 0 ≤ ((k : Int) * 7 + 3) % (len : Int) := Int.emod_nonneg _ (by omega)
  have q1 : 0 ≤ (k : Int) / (len : Int) := Int.ediv_nonneg (by omega) (by omega)
  have q2 : (k : Int) / (len : Int) ≤ 100000 := Int.le_trans (Int.ediv_le_self _ (by omega)) (by omega)
  clear e2 e3
  go_enter Try.func50, Try.ntmps50
  go_wp2_with fail
  go_quiet (fail)
  go_wp2
  go_ret
  exact ⟨⟨_, rfl, mixv _ n (by omega) (by omega) hn⟩, _, rfl⟩

/-- what pick leaves -/
def Picked (w : World) (b : Nat) (P n : Int) (e : Ending) (w' : World) : Prop := ∃ v : Nat, e = .returned (.int .i64 (v : Int)) ∧ ((v : Int) < n ∨ v = 0) ∧ Rd w' b P ∧ w.grownBy w' (some b)
theorem picked {w : World} {b : Nat} {P n v : Int} {w' : World} (h0 : 0 ≤ v) (h1 : v < n ∨ v = 0) (h2 : Rd w' b P) (h3 : w.grownBy w' (some b)) : Picked w b P n (.returned (.int .i64 v)) w' :=
  ⟨v.toNat, by rw [Int.toNat_of_nonneg h0], by omega, h2, h3⟩

theorem rd_step {w : World} {b : Nat} {P : Int} {a : Option Addr} {len cap k : Nat} (m : Nat) (h0 : w.cell? ⟨b, 0, none⟩ = some (.slice a len cap)) (h1 : w.cell? ⟨b, 1, none⟩ = some (.int .i64 (k : Int))) (hk : (k : Int) ≤ P) (hf : w.frozen? ⟨b, 1, none⟩ = false) (hl : len ≤ 2000)
    (hr : len = 0 ∨ ∃ ab off, a = some ⟨ab, off, none⟩ ∧ ab < b ∧ ∀ i, i < len → ∃ x : Int, w.cell? ⟨ab, off + i, none⟩ = some (.int .u8 x) ∧ 0 ≤ x ∧ x < 256) :
    Rd ((w.setCell ⟨b, 1, none⟩ (.int .i64 ((k : Int) + 1))).drewN m) b (P + 1) ∧ w.grownBy ((w.setCell ⟨b, 1, none⟩ (.int .i64 ((k : Int) + 1))).drewN m) (some b) := by
  have hg : w.grownBy ((w.setCell ⟨b, 1, none⟩ (.int .i64 ((k : Int) + 1))).drewN m) (some b) := g_drewN (g_set (g_below (Below.refl _ _) _) (.inl rfl) _) m
  refine ⟨⟨a, len, cap, k + 1, ?_, ?_, by omega, ?_, hl, ?_⟩, hg⟩
  · show (w.setCell ⟨b, 1, none⟩ (.int .i64 ((k : Int) + 1))).cell? _ = _
    exact so (by simp) h0
  · show (w.setCell ⟨b, 1, none⟩ (.int .i64 ((k : Int) + 1))).cell? _ = _
    rw [World.cell?_setCell_same' _ _ _ (by rw [h1]; rfl)]; simp
  · show (w.setCell ⟨b, 1, none⟩ (.int .i64 ((k : Int) + 1))).frozen? _ = _
    simp [go_sem, hf]
  · rcases hr with hr | ⟨ab, off, ha, hlt, hx⟩
    · exact .inl hr
    · refine .inr ⟨ab, off, ha, hlt, fun i hi => ?_⟩
      obtain ⟨x, hc, h2⟩ := hx i hi
      refine ⟨x, ?_, h2⟩
      show (w.setCell ⟨b, 1, none⟩ (.int .i64 ((k : Int) + 1))).cell? _ = _
      exact so (by intro h; injection h with h; omega) hc
theorem pick_any (b : Nat) (P n : Int) (w : World) (h : Rd w b P) (hP : P ≤ 100000) :
    Calls Try.prog 50 #[.pointer (some ⟨b, 0, none⟩), .int .i64 n] w (Picked w b (P + 1) n) := by
  obtain ⟨a, len, cap, k, h0, h1, hk, hf, hl, hr⟩ := h
  by_cases hn : n < 1
  · refine (pick_low b len cap k a n w h0 h1 hf (by omega) hn).mono ?_
    rintro e w' ⟨rfl, rfl⟩
    exact picked (by omega) (.inr rfl) (rd_step 0 h0 h1 hk hf hl hr).1 (rd_step 0 h0 h1 hk hf hl hr).2
  · by_cases hz : len = 0
    · subst hz
      refine (pick_none b cap k a n w h0 h1 hf (by omega) (by omega)).mono ?_
      rintro e w' ⟨rfl, rfl⟩
      exact picked (by omega) (.inr rfl) (rd_step 0 h0 h1 hk hf hl hr).1 (rd_step 0 h0 h1 hk hf hl hr).2
    · have hr' := hr
      rcases hr' with hr' | ⟨ab, off, rfl, hlt, hx⟩
      · exact absurd hr' hz
      · by_cases hkl : k < len
        · obtain ⟨x, hc, x0, x1⟩ := hx k hkl
          refine (pick_byte b len cap k ab off x n w h0 h1 hf hl (by omega) hkl (by omega) hc x0 x1).mono ?_
          rintro e w' ⟨rfl, rfl⟩
          exact picked (Int.emod_nonneg _ (by omega)) (.inl (Int.emod_lt_of_pos _ (by omega))) (rd_step 0 h0 h1 hk hf hl hr).1 (rd_step 0 h0 h1 hk hf hl hr).2
        · obtain ⟨x, hc, x0, x1⟩ := hx (k % len) (Nat.mod_lt _ (by omega))
          obtain ⟨y, hd, y0, y1⟩ := hx ((k * 7 + 3) % len) (Nat.mod_lt _ (by omega))
          refine (pick_mix b len cap k ab off x y n w h0 h1 hf hl (by omega) (by omega) (by omega) hkl (by omega) hc x0 x1 hd y0 y1).mono ?_
          rintro e w' ⟨⟨v, rfl, v0, v1⟩, m, rfl⟩
          exact picked v0 (.inl v1) (rd_step m h0 h1 hk hf hl hr).1 (rd_step m h0 h1 hk hf hl hr).2

/-- what one of a list leaves -/
def Oned (w : World) (b : Nat) (P lo hi : Int) (e : Ending) (w' : World) : Prop := ∃ v : Int, e = .returned (.int .i64 v) ∧ lo ≤ v ∧ v ≤ hi ∧ Rd w' b P ∧ w.grownBy w' (some b)
theorem one_any (b g n cap : Nat) (P lo hi : Int) (w : World) (h : Rd w b P) (hP : P ≤ 100000) (hgb : g ≠ b) (hgs : g < w.heap.size) (hn : 1 ≤ n) (hn' : n ≤ 1000)
    (hc : ∀ i, i < n → ∃ z : Int, w.cell? ⟨g, i, none⟩ = some (.int .i64 z) ∧ lo ≤ z ∧ z ≤ hi) :
    Calls Try.prog 73 #[.pointer (some ⟨b, 0, none⟩), .slice (some ⟨g, 0, none⟩) n cap] w (Oned w b (P + 1) lo hi) := by
  go_enter Try.func73, Try.ntmps73
  go_wp2_with fail
  refine (pick_any b P n _ h hP).mono ?_
  rintro e w' ⟨v, rfl, hv, hR, hG⟩
  have hvn : v < n := by omega
  have hvi : (v : Int) < (n : Int) := by omega
  obtain ⟨z, hz, z0, z1⟩ := hc v hvn
  have hz' := (g_cell (o := v) hG hgs hgb).trans hz
  clear hz hc hv
  go_wp2
  go_ret
  exact ⟨z, rfl, z0, z1, hR, hG⟩

/-- newReader -/
def Made (w : World) (e : Ending) (w' : World) : Prop := e = .returned (.pointer (some ⟨w.heap.size, 0, none⟩)) ∧ Rd w' w.heap.size 0 ∧ Below w.heap.size w w' ∧ w.heap.size < w'.heap.size
theorem byte_bd {z : Int} (h : (Lit.int .u8 z).wf = true) : 0 ≤ z ∧ z < 256 := by
  have := bounds_u8 h
  omega
theorem rd_new (w : World) (a : Option Addr) (len cap : Nat) (t : TypeId) (hl : len ≤ 2000)
    (hr : len = 0 ∨ ∃ ab off, a = some ⟨ab, off, none⟩ ∧ ab < w.heap.size ∧ ∀ i, i < len → ∃ x : Int, w.cell? ⟨ab, off + i, none⟩ = some (.int .u8 x) ∧ 0 ≤ x ∧ x < 256) :
    Made w (.returned (.pointer (some ⟨w.heap.size, 0, none⟩))) (w.alloc (.cells #[.slice a len cap, .int .i64 0] t)) := by
  have hb : Below w.heap.size w (w.alloc (.cells #[.slice a len cap, .int .i64 0] t)) := (Below.refl _ _).alloc (Nat.le_refl _) _
  refine ⟨rfl, ⟨a, len, cap, 0, by simp [go_sem], by simp [go_sem], by simp, by simp [go_sem], hl, ?_⟩, hb, by simp⟩
  rcases hr with hr | ⟨ab, off, ha, hlt, hx⟩
  · exact .inl hr
  · refine .inr ⟨ab, off, ha, hlt, fun i hi => ?_⟩
    obtain ⟨x, hc, h2⟩ := hx i hi
    exact ⟨x, (hb.cell (p := ⟨ab, off + i, none⟩) hlt).trans hc, h2⟩
theorem row_bytes {w : World} {x : Addr} {len cap : Nat} {zs : List Int} (hl : len ≤ cap) (hz : zs.length = cap) (hcell : ∀ i, i < zs.length → w.cell? (x.add i) = some (.int .u8 (zs.getD i 0))) (hwz : ∀ n ∈ zs, (Lit.int .u8 n).wf = true) :
    len = 0 ∨ ∃ ab off, some x = some (⟨ab, off, none⟩ : Addr) ∧ ab < w.heap.size ∧ ∀ i, i < len → ∃ y : Int, w.cell? ⟨ab, off + i, none⟩ = some (.int .u8 y) ∧ 0 ≤ y ∧ y < 256 := by
  by_cases h0 : len = 0
  · exact .inl h0
  · obtain ⟨b, off, spot⟩ := x
    have hc := hcell 0 (by omega)
    have hspot : spot = none := by simpa [Addr.add] using World.cell?_spot hc
    subst hspot
    have hlt : b < w.heap.size := World.block_lt_of_cell? w _ hc
    refine .inr ⟨b, off, rfl, hlt, fun i hi => ?_⟩
    have hci := hcell i (by omega)
    have hci' : w.cell? ⟨b, off + i, none⟩ = some (.int .u8 (zs.getD i 0)) := by
      by_cases hi0 : i = 0
      · subst hi0; simpa [Addr.add] using hci
      · simpa [Addr.add, hi0] using hci
    exact ⟨zs.getD i 0, hci', byte_bd (hwz _ (by rw [List.getD_eq_getElem?_getD, List.getElem?_eq_getElem (by omega)]; simp))⟩
theorem newReader_any (a : Option Addr) (len cap : Nat) (zs : List Int) (w : World) (h : IsRow .u8 w a len cap zs) :
    Calls Try.prog 47 #[.slice a len cap] w (Made w) := by
  rcases h with ⟨rfl, rfl, rfl, rfl⟩ | ⟨x, rfl, hl, hm, hz, hcell, hwz⟩
  · go_enter Try.func47, Try.ntmps47
    go_wp2
    go_ret
    exact rd_new w none 0 0 _ (by omega) (.inl rfl)
  · have hr := row_bytes hl hz hcell hwz
    clear hcell hwz
    unfold maxLen at hm
    by_cases h2 : (2000 : Int) < (len : Int)
    · have hr2 : 2000 = 0 ∨ ∃ ab off, some x = some (⟨ab, off, none⟩ : Addr) ∧ ab < w.heap.size ∧ ∀ i, i < 2000 → ∃ y : Int, w.cell? ⟨ab, off + i, none⟩ = some (.int .u8 y) ∧ 0 ≤ y ∧ y < 256 := by
        rcases hr with hr | ⟨ab, off, ha, hb, hx⟩
        · omega
        · exact .inr ⟨ab, off, ha, hb, fun i hi => hx i (by omega)⟩
      have HR := Lib.hid hr2
      clear hr hr2
      go_enter Try.func47, Try.ntmps47
      go_wp2
      go_ret
      exact rd_new w (some x) 2000 cap _ (by omega) HR.out
    · have HR := Lib.hid hr
      clear hr
      go_enter Try.func47, Try.ntmps47
      go_wp2
      go_ret
      exact rd_new w (some x) len cap _ (by omega) HR.out

/-- a block of two cells that may be written -/
def Cell2 (w : World) (g : Nat) (x y : Value) : Prop := w.cell? ⟨g, 0, none⟩ = some x ∧ w.cell? ⟨g, 1, none⟩ = some y ∧ w.frozen? ⟨g, 0, none⟩ = false ∧ w.frozen? ⟨g, 1, none⟩ = false ∧ g < w.heap.size
theorem c2_new (w : World) (x y : Value) (t : TypeId) : Cell2 (w.alloc (.cells #[x, y] t)) w.heap.size x y := by
  refine ⟨?_, ?_, ?_, ?_, ?_⟩ <;> simp [go_sem]
theorem c2_below {w w' : World} {g : Nat} {x y : Value} (h : Cell2 w g x y) (hB : Below w.heap.size w w') : Cell2 w' g x y := by
  obtain ⟨h0, h1, h2, h3, h4⟩ := h
  exact ⟨(hB.cell (p := ⟨g, 0, none⟩) h4).trans h0, (hB.cell (p := ⟨g, 1, none⟩) h4).trans h1, (hB.frozen (p := ⟨g, 0, none⟩) h4).trans h2, (hB.frozen (p := ⟨g, 1, none⟩) h4).trans h3, Nat.lt_of_lt_of_le h4 hB.size⟩
theorem c2_alloc {w : World} {g : Nat} {x y : Value} (h : Cell2 w g x y) (o : Obj) : Cell2 (w.alloc o) g x y := c2_below h ((Below.refl _ _).alloc (Nat.le_refl _) _)
theorem c2_grown {w w' : World} {g b : Nat} {x y : Value} (h : Cell2 w g x y) (hG : w.grownBy w' (some b)) (hne : g ≠ b) : Cell2 w' g x y := by
  obtain ⟨h0, h1, h2, h3, h4⟩ := h
  exact ⟨(g_cell hG h4 hne).trans h0, (g_cell hG h4 hne).trans h1, (g_frozen hG h4 hne).trans h2, (g_frozen hG h4 hne).trans h3, Nat.lt_of_lt_of_le h4 hG.size⟩
theorem rd_below {w w' : World} {b B : Nat} {P : Int} (h : Rd w b P) (hb : b < B) (hB : Below B w w') : Rd w' b P := by
  obtain ⟨a, len, cap, k, h0, h1, hk, hf, hl, hr⟩ := h
  refine ⟨a, len, cap, k, (hB.cell (p := ⟨b, 0, none⟩) hb).trans h0, (hB.cell (p := ⟨b, 1, none⟩) hb).trans h1, hk, (hB.frozen (p := ⟨b, 1, none⟩) hb).trans hf, hl, ?_⟩
  rcases hr with hr | ⟨ab, off, ha, hlt, hx⟩
  · exact .inl hr
  · refine .inr ⟨ab, off, ha, hlt, fun i hi => ?_⟩
    obtain ⟨x, hc, h2⟩ := hx i hi
    exact ⟨x, (hB.cell (p := ⟨ab, off + i, none⟩) (Nat.lt_trans hlt hb)).trans hc, h2⟩
theorem rd_end {w w4 wf : World} {b : Nat} {P P' : Int} (hb : b < w.heap.size) (hR : Rd w4 b P') (hP : P' = P) (hG : w.grownBy w4 (some b)) (hB : Below w.heap.size w4 wf) : Rd wf b P ∧ w.grownBy wf (some b) :=
  ⟨hP ▸ rd_below hR hb hB, ⟨hB.os.trans hG.os, hB.tape.trans hG.tape, hB.output.trans hG.output, Nat.le_trans hG.size hB.size, fun i hi hne => (hB.block i hi).trans (hG.block i hi hne)⟩⟩
theorem rd_up {w : World} {b : Nat} {P P' : Int} (h : Rd w b P) (hP : P ≤ P') : Rd w b P' := by
  obtain ⟨a, len, cap, k, h0, h1, hk, hr⟩ := h
  exact ⟨a, len, cap, k, h0, h1, by omega, hr⟩
theorem rd_alloc {w : World} {b : Nat} {P : Int} (h : Rd w b P) (hb : b < w.heap.size) (o : Obj) : Rd (w.alloc o) b P := rd_below h hb ((Below.refl _ _).alloc (Nat.le_refl _) _)
theorem g_new {w w' : World} {b : Nat} {o : Obj} (h : (w.alloc o).grownBy w' (some b)) : w.grownBy w' (some b) := g_trans (World.grownBy_alloc w o _) h
theorem lit_cells (w : World) (zs : List Int) (t : TypeId) (lo hi : Int) (hz : ∀ z ∈ zs, lo ≤ z ∧ z ≤ hi) :
    ∀ i, i < zs.length → ∃ z : Int, (w.alloc (.cells (zs.map (Value.int .i64)).toArray t)).cell? ⟨w.heap.size, i, none⟩ = some (.int .i64 z) ∧ lo ≤ z ∧ z ≤ hi := by
  intro i hi'
  refine ⟨zs[i], ?_, hz _ (List.getElem_mem hi')⟩
  simp [World.cell?_alloc_new, hi']
/-- one of a list that has just been made -/
theorem one_lit (b n : Nat) (P lo hi : Int) (zs : List Int) (t : TypeId) (w : World) (h : Rd w b P) (hP : P ≤ 100000) (hb : b < w.heap.size) (hl : zs.length = n) (hn : 1 ≤ n) (hn' : n ≤ 1000) (hz : ∀ z ∈ zs, lo ≤ z ∧ z ≤ hi) :
    Calls Try.prog 73 #[.pointer (some ⟨b, 0, none⟩), .slice (some ⟨w.heap.size, 0, none⟩) n n] (w.alloc (.cells (zs.map (Value.int .i64)).toArray t)) (Oned w b (P + 1) lo hi) := by
  refine (one_any b w.heap.size n n P lo hi _ (rd_alloc h hb _) hP (by omega) (by simp) hn hn' (by rw [← hl]; exact lit_cells w zs t lo hi hz)).mono ?_
  rintro e w' ⟨v, rfl, v0, v1, hR, hG⟩
  exact ⟨v, rfl, v0, v1, hR, g_new hG⟩
theorem row_below {k : IntKind} {w w' : World} {a : Option Addr} {len cap : Nat} {zs : List Int} (h : IsRow k w a len cap zs) (hB : Below w.heap.size w w') : IsRow k w' a len cap zs := by
  rcases h with h | ⟨x, ha, hl, hm, hz, hcell, hwz⟩
  · exact .inl h
  · refine .inr ⟨x, ha, hl, hm, hz, fun i hi => ?_, hwz⟩
    have hc := hcell i hi
    exact (hB.cell (World.block_lt_of_cell? w _ hc)).trans hc
theorem below_grown {w w1 w2 : World} {b : Nat} (h : Below w.heap.size w w1) (hG : w1.grownBy w2 (some b)) (hb : w.heap.size ≤ b) : Below w.heap.size w w2 :=
  ⟨hG.os.trans h.os, hG.tape.trans h.tape, hG.output.trans h.output, Nat.le_trans h.size hG.size, fun i hi => (hG.block i (Nat.lt_of_lt_of_le hi h.size) (fun e => by injection e with e; omega)).trans (h.block i hi)⟩
end Go.Proofs.Ythagafkjlecagaa
namespace Go.Proofs.Ythagafkjlecagaa
open Go.RowKit
set_option linter.unusedSimpArgs false
set_option linter.unusedVariables false
def sumLn : List (List Int) → Int
  | [] => 0
  | r :: t => (r.length : Int) + sumLn t
theorem sumLn_pos : ∀ rs, 0 ≤ sumLn rs := by
  intro rs
  induction rs with
  | nil => exact Int.le_refl _
  | cons r t ih => show 0 ≤ (r.length : Int) + sumLn t; omega
theorem sumLn_at {rs : List (List Int)} {k : Nat} (hk : k < rs.length) : sumLn (rs.drop k) = ((rs.getD k []).length : Int) + sumLn (rs.drop (k + 1)) := by
  rw [List.drop_eq_getElem_cons hk, List.getD_eq_getElem?_getD, List.getElem?_eq_getElem hk]; rfl
theorem szL_sum : ∀ (rs : List (List Int)) (left : Int), ¬ szL left rs < 0 → 0 ≤ left → sumLn rs ≤ left := by
  intro rs
  induction rs with
  | nil => intro left _ h; exact h
  | cons x t ih =>
    intro left h h0
    have e : szL left (x :: t) = if left - (x.length : Int) < 0 then -1 else szL (left - (x.length : Int)) t := rfl
    rw [e] at h
    show (x.length : Int) + sumLn t ≤ left
    by_cases c : left - (x.length : Int) < 0
    · rw [if_pos c] at h; omega
    · rw [if_neg c] at h
      have := ih _ h (by omega); omega
theorem szSS_sum {left : Int} {rs : List (List Int)} (h : ¬ szSS left rs < 0) : sumLn rs ≤ left := by
  unfold szSS at h
  by_cases c : left - (rs.length : Int) < 0
  · rw [if_pos c] at h; omega
  · rw [if_neg c] at h
    have := szL_sum rs _ h (by omega); omega
theorem RowSS.next {w w' : World} {g : Nat} {G : Nat → Nat} {rs : List (List Int)} (h : RowSS w g G rs.length rs) (hg : g < w.heap.size) (hb : Below w.heap.size w w') : RowSS w' g G rs.length rs :=
  ⟨World.rowIs.of_block h.1 (hb.block g hg), fun j hj => ⟨(h.2.1 j hj).1, row_keep (h.2.1 j hj).2 hb⟩, h.2.2⟩
/-- what marks on lists in the blocks lo to hi leave -/
def MarkedSS (lo hi : Nat) (w : World) (e : Ending) (w' : World) : Prop := ∃ s : Int, e = .returned (.int .i64 s) ∧ 0 ≤ s ∧ (∀ base v zs, OwnI w base v zs → (∀ q, v.ownBlock = some q → hi ≤ q) → OwnI w' base v zs) ∧ ∀ W0 : World, W0.heap.size ≤ lo → Below W0.heap.size W0 w → Below W0.heap.size W0 w'
end Go.Proofs.Ythagafkjlecagaa
namespace Go.Proofs.Ythagafkjlecagaa
open Go.RowKit
set_option linter.unusedSimpArgs false
set_option linter.unusedVariables false

theorem rwNe {w : World} {b g : Nat} {t' : TypeId} {zs : List Int} {cs : Array Value} (h : Row w g zs) (K : Blk w b t' cs) (hne : t' ≠ 3) : g ≠ b := by
  obtain ⟨c, hc, _⟩ := h
  exact blk_type K hc hne
theorem rwS {w : World} {b g : Nat} {t' : TypeId} {zs : List Int} {cs : Array Value} (h : Row w g zs) (K : Blk w b t' cs) (hne : t' ≠ 3) (j : Nat) (v : Value) : Row (w.setCell ⟨b, j, none⟩ v) g zs :=
  World.rowIs.of_block h (Below.heap_setCell w ⟨b, j, none⟩ v g (rwNe h K hne))
theorem rwX6 {w : World} {b g : Nat} {t' : TypeId} {zs : List Int} {cs : Array Value} {v0 v1 v2 v3 v4 v5 : Value} (h : Row w g zs) (K : Blk w b t' cs) (hne : t' ≠ 3) : Row (sets6 w b v0 v1 v2 v3 v4 v5) g zs :=
  World.rowIs.of_block h (by
    have hn := rwNe h K hne
    unfold sets6
    rw [Below.heap_setCell _ _ _ g hn, Below.heap_setCell _ _ _ g hn, Below.heap_setCell _ _ _ g hn, Below.heap_setCell _ _ _ g hn, Below.heap_setCell _ _ _ g hn, Below.heap_setCell _ _ _ g hn])
theorem wS {w y : World} {b g j : Nat} {t' : TypeId} {zs : List Int} {cs : Array Value} {x : Value} (h : Row w g zs) (K : Blk w b t' cs) (hy : y = w.setCell ⟨b, j, none⟩ x) (hne : t' ≠ 3) : Row y g zs := by subst hy; exact rwS h K hne j x
theorem X6w {w y : World} {b g : Nat} {t' : TypeId} {zs : List Int} {cs : Array Value} {v0 v1 v2 v3 v4 v5 : Value} (h : Row w g zs) (K : Blk w b t' cs) (hy : y = sets6 w b v0 v1 v2 v3 v4 v5) (hne : t' ≠ 3) : Row y g zs := by subst hy; exact rwX6 h K hne
def zss (ds : List Dd) : List (List Int) := ds.map fun x => x.zs
theorem zss_len (ds : List Dd) : (zss ds).length = ds.length := by unfold zss; simp
theorem zss_get (ds : List Dd) (k : Nat) : (zss ds).getD k [] = (ds.getD k dd0).zs := by
  unfold zss
  rw [List.getD_eq_getElem?_getD, List.getD_eq_getElem?_getD, List.getElem?_map]
  cases ds[k]? <;> rfl
set_option maxRecDepth 100000 in
/-- laws.szDeed -/
theorem lszDd (A : Option Addr) (cz : Nat) (x : Dd) (L : Int) (w : World) (h0 : 0 ≤ L) (h1 : L ≤ 1048576) (hn : x.zs.length ≤ 9223372036854775807) :
    Calls Try.prog 34 #[.agg #[.int .i64 x.k, .int .i64 x.o, .int .i64 x.t, .int .i64 x.n, .int .i64 x.d, .slice A x.zs.length cz], .int .i64 L] w fun e w' => e = .returned (.int .i64 (if L - (x.zs.length : Int) < 0 then -1 else L - (x.zs.length : Int))) ∧ Below w.heap.size w w' := by
  obtain ⟨k, o, t, n, d, zs⟩ := x
  dsimp only at hn ⊢
  have B := (Below.refl w.heap.size w).alloc (Nat.le_refl _) (.cells #[.int .i64 k, .int .i64 o, .int .i64 t, .int .i64 n, .int .i64 d, .slice A zs.length cz] 26)
  have K := Blk.new w 26 #[.int .i64 k, .int .i64 o, .int .i64 t, .int .i64 n, .int .i64 d, .slice A zs.length cz]
  obtain ⟨q0, q1, q2, q3, q4, q5⟩ := cells6 K
  by_cases c : L - (zs.length : Int) < 0
  · have e1 : decide ((-1 : Int) < 0) = true := rfl
    have CC : ∀ W, Calls Try.prog 58 #[.slice A zs.length cz, .int .i64 L] W fun e w' => e = .returned (.int .i64 (-1)) ∧ W = w' := fun W => by
      have := lszI A zs.length cz L W h0 h1 hn
      rw [if_pos c] at this; exact this
    rw [if_pos c]
    clear c K
    go_enter Try.func34, Try.ntmps34
    go_wp2_with fail
    refine (CC _).mono ?_
    rintro e u ⟨rfl, rfl⟩
    go_wp2_with fail
    go_ret
    exact ⟨rfl, B⟩
  · have e1 : decide (L - (zs.length : Int) < 0) = false := decide_eq_false c
    have CC : ∀ W, Calls Try.prog 58 #[.slice A zs.length cz, .int .i64 L] W fun e w' => e = .returned (.int .i64 (L - (zs.length : Int))) ∧ W = w' := fun W => by
      have := lszI A zs.length cz L W h0 h1 hn
      rw [if_neg c] at this; exact this
    rw [if_neg c]
    clear c K
    generalize L - (zs.length : Int) = L' at *
    go_enter Try.func34, Try.ntmps34
    go_wp2_with fail
    refine (CC _).mono ?_
    rintro e u ⟨rfl, rfl⟩
    go_wp2_with fail
    go_ret
    exact ⟨rfl, B⟩
/-- deeds that came in -/
def DsRaw (w : World) (a : Option Addr) (ds : List Dd) : Prop := ds = [] ∨ ∃ g o, a = some ⟨g, o, none⟩ ∧ ∀ i, i < ds.length → ∃ (A : Option Addr) (cz : Nat), (w.cell? ⟨g, o + i * 6, none⟩ = some (.int .i64 (ds.getD i dd0).k) ∧ w.cell? ⟨g, o + i * 6 + 1, none⟩ = some (.int .i64 (ds.getD i dd0).o) ∧ w.cell? ⟨g, o + i * 6 + 2, none⟩ = some (.int .i64 (ds.getD i dd0).t) ∧ w.cell? ⟨g, o + i * 6 + 3, none⟩ = some (.int .i64 (ds.getD i dd0).n) ∧ w.cell? ⟨g, o + i * 6 + 4, none⟩ = some (.int .i64 (ds.getD i dd0).d) ∧ w.cell? ⟨g, o + i * 6 + 5, none⟩ = some (.slice A (ds.getD i dd0).zs.length cz)) ∧ IsInts w A (ds.getD i dd0).zs ∧ (ds.getD i dd0).zs.length ≤ cz
theorem dsRaw_is {w : World} {a : Option Addr} {ds : List Dd} (h : DsRaw w a ds) (hn : ∀ i, i < ds.length → (ds.getD i dd0).zs.length ≤ 1048576) : IsDds w a ds := by
  rcases h with h | ⟨g, o, ha, hc⟩
  · exact .inl h
  · refine .inr ⟨g, o, ha, fun i hi => ?_⟩
    obtain ⟨A, cz, ⟨c0, c1, c2, c3, c4, c5⟩, hI, hz⟩ := hc i hi
    exact ⟨A, cz, c0, c1, c2, c3, c4, c5, hI, hn i hi, hz⟩
/-- what toDeed leaves -/
def OutDd (w : World) (x : Dd) (e : Ending) (w' : World) : Prop := ∃ g : Nat, e = .returned (.agg #[.int .i64 x.k, .int .i64 x.o, .int .i64 x.t, .int .i64 x.n, .int .i64 x.d, .slice (some ⟨g, 0, none⟩) x.zs.length x.zs.length]) ∧ w.heap.size ≤ g ∧ Row w' g x.zs ∧ Below w.heap.size w w'
set_option maxRecDepth 100000 in
set_option maxHeartbeats 6000000 in
/-- laws.toDeed -/
theorem ltoDd (A : Option Addr) (cz : Nat) (x : Dd) (w : World) (h : IsInts w A x.zs) (hn : x.zs.length ≤ 1048576) :
    Calls Try.prog 36 #[.agg #[.int .i64 x.k, .int .i64 x.o, .int .i64 x.t, .int .i64 x.n, .int .i64 x.d, .slice A x.zs.length cz]] w (OutDd w x) := by
  obtain ⟨k, o, t, n, d, zs⟩ := x
  dsimp only at h hn ⊢
  have HI := Lib.hid (fun W (hW : Below w.heap.size w W) => ints_below h hW)
  clear h
  go_enter Try.func36, Try.ntmps36
  have KA := ((Blk.new w 26 #[.int .i64 k, .int .i64 o, .int .i64 t, .int .i64 n, .int .i64 d, .slice A zs.length cz]).alloc (.cells #[.int .i64 0, .int .i64 0, .int .i64 0, .int .i64 0, .int .i64 0, .slice none 0 0] 33)).alloc (.cells #[.int .i64 0, .int .i64 0, .int .i64 0, .int .i64 0, .int .i64 0, .slice none 0 0] 33)
  have KR : Blk (((w.alloc (.cells #[.int .i64 k, .int .i64 o, .int .i64 t, .int .i64 n, .int .i64 d, .slice A zs.length cz] 26)).alloc (.cells #[.int .i64 0, .int .i64 0, .int .i64 0, .int .i64 0, .int .i64 0, .slice none 0 0] 33)).alloc (.cells #[.int .i64 0, .int .i64 0, .int .i64 0, .int .i64 0, .int .i64 0, .slice none 0 0] 33)) (w.heap.size + 1) 33 #[.int .i64 0, .int .i64 0, .int .i64 0, .int .i64 0, .int .i64 0, .slice none 0 0] := by
    have := (Blk.new (w.alloc (.cells #[.int .i64 k, .int .i64 o, .int .i64 t, .int .i64 n, .int .i64 d, .slice A zs.length cz] 26)) 33 #[.int .i64 0, .int .i64 0, .int .i64 0, .int .i64 0, .int .i64 0, .slice none 0 0]).alloc (.cells #[.int .i64 0, .int .i64 0, .int .i64 0, .int .i64 0, .int .i64 0, .slice none 0 0] 33)
    rw [World.size_alloc] at this; exact this
  have KO : Blk (((w.alloc (.cells #[.int .i64 k, .int .i64 o, .int .i64 t, .int .i64 n, .int .i64 d, .slice A zs.length cz] 26)).alloc (.cells #[.int .i64 0, .int .i64 0, .int .i64 0, .int .i64 0, .int .i64 0, .slice none 0 0] 33)).alloc (.cells #[.int .i64 0, .int .i64 0, .int .i64 0, .int .i64 0, .int .i64 0, .slice none 0 0] 33)) (w.heap.size + 1 + 1) 33 #[.int .i64 0, .int .i64 0, .int .i64 0, .int .i64 0, .int .i64 0, .slice none 0 0] := by
    have := Blk.new ((w.alloc (.cells #[.int .i64 k, .int .i64 o, .int .i64 t, .int .i64 n, .int .i64 d, .slice A zs.length cz] 26)).alloc (.cells #[.int .i64 0, .int .i64 0, .int .i64 0, .int .i64 0, .int .i64 0, .slice none 0 0] 33)) 33 #[.int .i64 0, .int .i64 0, .int .i64 0, .int .i64 0, .int .i64 0, .slice none 0 0]
    rw [World.size_alloc, World.size_alloc] at this; exact this
  have B : Below w.heap.size w (((w.alloc (.cells #[.int .i64 k, .int .i64 o, .int .i64 t, .int .i64 n, .int .i64 d, .slice A zs.length cz] 26)).alloc (.cells #[.int .i64 0, .int .i64 0, .int .i64 0, .int .i64 0, .int .i64 0, .slice none 0 0] 33)).alloc (.cells #[.int .i64 0, .int .i64 0, .int .i64 0, .int .i64 0, .int .i64 0, .slice none 0 0] 33)) := by go_grown
  obtain ⟨u0, hy⟩ : ∃ y, y = ((w.alloc (.cells #[.int .i64 k, .int .i64 o, .int .i64 t, .int .i64 n, .int .i64 d, .slice A zs.length cz] 26)).alloc (.cells #[.int .i64 0, .int .i64 0, .int .i64 0, .int .i64 0, .int .i64 0, .slice none 0 0] 33)).alloc (.cells #[.int .i64 0, .int .i64 0, .int .i64 0, .int .i64 0, .int .i64 0, .slice none 0 0] 33) := ⟨_, rfl⟩
  rw [← hy] at KA KR KO B
  have HY := Lib.hid hy
  clear hy
  have HS0 := Lib.hid (And.intro KA (And.intro KR (And.intro KO B)))
  clear KA KR KO B
  go_wp2_with (first | (show wpList _ _ _ _ _ _; rw [← HY.out]; clear HY; obtain ⟨KA, KR, KO, B⟩ := HS0.out; clear HS0; have fz0 := KO.frozen 0; obtain ⟨qA_0, qA_1, qA_2, qA_3, qA_4, qA_5⟩ := cells6 KA; obtain ⟨qR_0, qR_1, qR_2, qR_3, qR_4, qR_5⟩ := cells6 KR; obtain ⟨qO_0, qO_1, qO_2, qO_3, qO_4, qO_5⟩ := cells6 KO; obtain ⟨y1s, hy⟩ : ∃ y, y = World.setCell u0 ⟨w.heap.size + 1 + 1, 0, none⟩ (.int .i64 k) := ⟨_, rfl⟩; replace KA := fS KA hy (by omega); replace KR := fS KR hy (by omega); replace KO := S6_0 KO hy; replace B := bS B hy (by omega); have HY := Lib.hid hy; clear hy; have HS1 := Lib.hid (And.intro KA (And.intro KR (And.intro KO B))); clear KA KR KO B) | (show wpList _ _ _ _ _ (World.setCell u0 _ _); rw [← HY.out]; clear HY fz0; clear qA_0 qA_1 qA_2 qA_3 qA_4 qA_5 qR_0 qR_1 qR_2 qR_3 qR_4 qR_5 qO_0 qO_1 qO_2 qO_3 qO_4 qO_5; obtain ⟨KA, KR, KO, B⟩ := HS1.out; clear HS1; have fz0 := KO.frozen 1; obtain ⟨qA_0, qA_1, qA_2, qA_3, qA_4, qA_5⟩ := cells6 KA; obtain ⟨qR_0, qR_1, qR_2, qR_3, qR_4, qR_5⟩ := cells6 KR; obtain ⟨qO_0, qO_1, qO_2, qO_3, qO_4, qO_5⟩ := cells6 KO; obtain ⟨y2s, hy⟩ : ∃ y, y = World.setCell y1s ⟨w.heap.size + 1 + 1, 1, none⟩ (.int .i64 o) := ⟨_, rfl⟩; replace KA := fS KA hy (by omega); replace KR := fS KR hy (by omega); replace KO := S6_1 KO hy; replace B := bS B hy (by omega); have HY := Lib.hid hy; clear hy; have HS2 := Lib.hid (And.intro KA (And.intro KR (And.intro KO B))); clear KA KR KO B) | (show wpList _ _ _ _ _ (World.setCell y1s _ _); rw [← HY.out]; clear HY fz0; clear qA_0 qA_1 qA_2 qA_3 qA_4 qA_5 qR_0 qR_1 qR_2 qR_3 qR_4 qR_5 qO_0 qO_1 qO_2 qO_3 qO_4 qO_5; obtain ⟨KA, KR, KO, B⟩ := HS2.out; clear HS2; have fz0 := KO.frozen 2; obtain ⟨qA_0, qA_1, qA_2, qA_3, qA_4, qA_5⟩ := cells6 KA; obtain ⟨qR_0, qR_1, qR_2, qR_3, qR_4, qR_5⟩ := cells6 KR; obtain ⟨qO_0, qO_1, qO_2, qO_3, qO_4, qO_5⟩ := cells6 KO; obtain ⟨y3s, hy⟩ : ∃ y, y = World.setCell y2s ⟨w.heap.size + 1 + 1, 2, none⟩ (.int .i64 t) := ⟨_, rfl⟩; replace KA := fS KA hy (by omega); replace KR := fS KR hy (by omega); replace KO := S6_2 KO hy; replace B := bS B hy (by omega); have HY := Lib.hid hy; clear hy; have HS3 := Lib.hid (And.intro KA (And.intro KR (And.intro KO B))); clear KA KR KO B) | (show wpList _ _ _ _ _ (World.setCell y2s _ _); rw [← HY.out]; clear HY fz0; clear qA_0 qA_1 qA_2 qA_3 qA_4 qA_5 qR_0 qR_1 qR_2 qR_3 qR_4 qR_5 qO_0 qO_1 qO_2 qO_3 qO_4 qO_5; obtain ⟨KA, KR, KO, B⟩ := HS3.out; clear HS3; obtain ⟨qA_0, qA_1, qA_2, qA_3, qA_4, qA_5⟩ := cells6 KA; obtain ⟨qR_0, qR_1, qR_2, qR_3, qR_4, qR_5⟩ := cells6 KR; obtain ⟨qO_0, qO_1, qO_2, qO_3, qO_4, qO_5⟩ := cells6 KO))
  refine (ltoFrac n d _).mono ?_
  rintro e u1 ⟨rfl, C⟩
  clear qA_0 qA_1 qA_2 qA_3 qA_4 qA_5 qR_0 qR_1 qR_2 qR_3 qR_4 qR_5 qO_0 qO_1 qO_2 qO_3 qO_4 qO_5
  replace KA := KA.next C
  replace KR := KR.next C
  replace KO := KO.next C
  replace B := bel_tr B C
  clear C
  have fz0 := KO.frozen 3
  have fz1 := KO.frozen 4
  obtain ⟨qA_0, qA_1, qA_2, qA_3, qA_4, qA_5⟩ := cells6 KA
  obtain ⟨qR_0, qR_1, qR_2, qR_3, qR_4, qR_5⟩ := cells6 KR
  obtain ⟨qO_0, qO_1, qO_2, qO_3, qO_4, qO_5⟩ := cells6 KO
  obtain ⟨y4s, hy⟩ : ∃ y, y = World.setCell (World.setCell u1 ⟨w.heap.size + 1 + 1, 3, none⟩ (.int .i64 n)) ⟨w.heap.size + 1 + 1, 4, none⟩ (.int .i64 d) := ⟨_, rfl⟩
  replace KA := fS2 KA hy (by omega)
  replace KR := fS2 KR hy (by omega)
  replace KO := S6_3x2 KO hy
  replace B := bS2 B hy (by omega)
  have HY := Lib.hid hy
  clear hy
  have HS4 := Lib.hid (And.intro KA (And.intro KR (And.intro KO B)))
  clear KA KR KO B
  go_wp2_with (first | (show wpList _ _ _ _ _ (World.setCell (World.setCell u1 _ _) _ _); rw [← HY.out]; clear HY fz0 fz1; clear qA_0 qA_1 qA_2 qA_3 qA_4 qA_5 qR_0 qR_1 qR_2 qR_3 qR_4 qR_5 qO_0 qO_1 qO_2 qO_3 qO_4 qO_5; obtain ⟨KA, KR, KO, B⟩ := HS4.out; clear HS4; obtain ⟨qA_0, qA_1, qA_2, qA_3, qA_4, qA_5⟩ := cells6 KA; obtain ⟨qR_0, qR_1, qR_2, qR_3, qR_4, qR_5⟩ := cells6 KR; obtain ⟨qO_0, qO_1, qO_2, qO_3, qO_4, qO_5⟩ := cells6 KO))
  refine (ltoIntS A cz zs _ (HI.out _ B) hn).mono ?_
  rintro e u2 ⟨gz, rfl, lgz, Rz, C⟩
  clear qA_0 qA_1 qA_2 qA_3 qA_4 qA_5 qR_0 qR_1 qR_2 qR_3 qR_4 qR_5 qO_0 qO_1 qO_2 qO_3 qO_4 qO_5
  have lz : w.heap.size ≤ gz := (by have := B.size; omega)
  replace KA := KA.next C
  replace KR := KR.next C
  replace KO := KO.next C
  replace B := bel_tr B C
  clear C lgz
  have fz0 := KO.frozen 5
  obtain ⟨qA_0, qA_1, qA_2, qA_3, qA_4, qA_5⟩ := cells6 KA
  obtain ⟨qR_0, qR_1, qR_2, qR_3, qR_4, qR_5⟩ := cells6 KR
  obtain ⟨qO_0, qO_1, qO_2, qO_3, qO_4, qO_5⟩ := cells6 KO
  obtain ⟨y5s, hy⟩ : ∃ y, y = World.setCell u2 ⟨w.heap.size + 1 + 1, 5, none⟩ (.slice (some ⟨gz, 0, none⟩) zs.length zs.length) := ⟨_, rfl⟩
  replace Rz := wS Rz KO hy (by decide)
  replace KA := fS KA hy (by omega)
  replace KR := fS KR hy (by omega)
  replace KO := S6_5 KO hy
  replace B := bS B hy (by omega)
  have HY := Lib.hid hy
  clear hy
  have HS5 := Lib.hid (And.intro KA (And.intro KR (And.intro KO (And.intro Rz B))))
  clear KA KR KO Rz B
  go_wp2_with (first | (show wpList _ _ _ _ _ (World.setCell u2 _ _); rw [← HY.out]; clear HY fz0; clear qA_0 qA_1 qA_2 qA_3 qA_4 qA_5 qR_0 qR_1 qR_2 qR_3 qR_4 qR_5 qO_0 qO_1 qO_2 qO_3 qO_4 qO_5; obtain ⟨KA, KR, KO, Rz, B⟩ := HS5.out; clear HS5; have fr0 := KR.frozen 0; have fr1 := KR.frozen 1; have fr2 := KR.frozen 2; have fr3 := KR.frozen 3; have fr4 := KR.frozen 4; have fr5 := KR.frozen 5; obtain ⟨qA_0, qA_1, qA_2, qA_3, qA_4, qA_5⟩ := cells6 KA; obtain ⟨qR_0, qR_1, qR_2, qR_3, qR_4, qR_5⟩ := cells6 KR; obtain ⟨qO_0, qO_1, qO_2, qO_3, qO_4, qO_5⟩ := cells6 KO; have HF := Lib.hid (And.intro KA (And.intro KR (And.intro KO (And.intro Rz B)))); clear KA KR KO Rz B))
  clear fr0 fr1 fr2 fr3 fr4 fr5
  clear qA_0 qA_1 qA_2 qA_3 qA_4 qA_5 qR_0 qR_1 qR_2 qR_3 qR_4 qR_5 qO_0 qO_1 qO_2 qO_3 qO_4 qO_5
  obtain ⟨KA, KR, KO, Rz, B⟩ := HF.out
  clear HF
  obtain ⟨uf, hy⟩ : ∃ y, y = sets6 y5s (w.heap.size + 1) (.int .i64 k) (.int .i64 o) (.int .i64 t) (.int .i64 n) (.int .i64 d) (.slice (some ⟨gz, 0, none⟩) zs.length zs.length) := ⟨_, rfl⟩
  change bodyPost _ _ _ _ _ (sets6 _ _ _ _ _ _ _ _)
  rw [← hy]
  replace Rz := X6w Rz KR hy (by decide)
  replace B := X6B B hy (by omega)
  have KOLD := KR
  replace KR := X6b KR hy
  clear KA
  clear KO
  clear KOLD hy
  obtain ⟨qR_0, qR_1, qR_2, qR_3, qR_4, qR_5⟩ := cells6 KR
  refine bodyPost_ret (v := .agg #[.int .i64 k, .int .i64 o, .int .i64 t, .int .i64 n, .int .i64 d, .slice (some ⟨gz, 0, none⟩) zs.length zs.length]) (by simp [results, Try.results36, go_sem, qR_0, qR_1, qR_2, qR_3, qR_4, qR_5]) rfl ⟨gz, rfl, lz, Rz, B⟩
end Go.Proofs.Ythagafkjlecagaa
namespace Go.Proofs.Ythagafkjlecagaa
open Go.RowKit

/-- what toHoldingS leaves -/
def CopiedH (w : World) (hs : List Hd) (e : Ending) (w' : World) : Prop := ∃ g : Nat, e = .returned (.slice (some ⟨g, 0, none⟩) hs.length hs.length) ∧ w.heap.size ≤ g ∧ Flat w' g 130 (flatH hs) ∧ Below w.heap.size w w'
theorem made_row (w : World) (n : Nat) (t : TypeId) : (w.alloc (.cells (madeCells #[.int .i64 0, .int .i64 0, .int .i64 0] n) t)).rowIs w.heap.size t n (fun _ => .int .i64 0) := by
  have hs : (madeCells #[Value.int .i64 0, .int .i64 0, .int .i64 0] n).size = n := by unfold madeCells; simp
  refine ⟨_, heap_alloc_new w _, hs, fun i hi => ?_⟩
  have hm : i % 3 = 0 ∨ i % 3 = 1 ∨ i % 3 = 2 := by omega
  unfold madeCells
  rw [Array.getElem?_map, Array.getElem?_range, if_pos hi]
  show some ((#[Value.int .i64 0, .int .i64 0, .int .i64 0] : Array Value)[i % 3]!) = _
  rcases hm with h | h | h <;> rw [h] <;> rfl
theorem run_makeH (n : Nat) (hn : n ≤ 1048576) (w : World) : (Instr.makeSlice 63 (.int .i64 (n : Int)) (.int .i64 (n : Int))).run Try.prog w = .ok (.slice (some ⟨w.heap.size, 0, none⟩) n n) (w.alloc (.cells (madeCells #[.int .i64 0, .int .i64 0, .int .i64 0] (n * 3)) 130)) := by
  obtain ⟨i0, hi0, hz0, hz1, hz2⟩ := info_parts infoH
  have := run_make (P := Try.prog) w 63 130 i0 _ Try.underlying63 hi0 hz0 .i64 .i64 (n : Int) (n : Int) (by omega) (by omega) (by rw [hz2]; omega) (by omega)
  simp only [Int.toNat_natCast, hz1] at this
  exact this

theorem keep6 {w w' : World} {p q r p' q' r' : Addr} {u v x u' v' x' : Value} (hb : Below w.heap.size w w') (h : w.cell? p = some u ∧ w.cell? q = some v ∧ w.cell? r = some x ∧ w.cell? p' = some u' ∧ w.cell? q' = some v' ∧ w.cell? r' = some x') : w'.cell? p = some u ∧ w'.cell? q = some v ∧ w'.cell? r = some x ∧ w'.cell? p' = some u' ∧ w'.cell? q' = some v' ∧ w'.cell? r' = some x' := by
  have n : ∀ {p : Addr} {v : Value}, w.cell? p = some v → w'.cell? p = some v := fun h => (hb.cell (World.block_lt_of_cell? w _ h)).trans h
  exact ⟨n h.1, n h.2.1, n h.2.2.1, n h.2.2.2.1, n h.2.2.2.2.1, n h.2.2.2.2.2⟩

/-- what markHoldingS leaves -/
def MarkedF (w : World) (g n : Nat) (e : Ending) (w' : World) : Prop := e = .returned (.int .i64 (1 + ((n * 3 : Nat) : Int))) ∧ Flat w' g 130 (marksF (n * 3)) ∧ w.grownBy w' (some g)
end Go.Proofs.Ythagafkjlecagaa
namespace Go.Proofs.Ythagafkjlecagaa
open Go.RowKit
set_option linter.unusedSimpArgs false
set_option linter.unusedVariables false

def ddv (G : Nat) (x : Dd) : Nat → Value
  | 0 => .int .i64 x.k
  | 1 => .int .i64 x.o
  | 2 => .int .i64 x.t
  | 3 => .int .i64 x.n
  | 4 => .int .i64 x.d
  | _ => .slice (some ⟨G, 0, none⟩) x.zs.length x.zs.length
def ddz : Nat → Value
  | 0 => .int .i64 0
  | 1 => .int .i64 0
  | 2 => .int .i64 0
  | 3 => .int .i64 0
  | 4 => .int .i64 0
  | _ => .slice none 0 0
/-- deeds in a row of the call's own, the heirs of each in a block of their own -/
def RowDs (w : World) (g : Nat) (G : Nat → Nat) (n : Nat) (ds : List Dd) : Prop := (w.rowIs g 33 (ds.length * 6) fun j => if j < n * 6 then ddv (G (j / 6)) (ds.getD (j / 6) dd0) (j % 6) else ddz (j % 6)) ∧ (∀ j, j < n → g < G j ∧ Row w (G j) (ds.getD j dd0).zs) ∧ ∀ i j, i < j → j < n → G i < G j
theorem RowDs.cells {w : World} {g : Nat} {G : Nat → Nat} {ds : List Dd} (h : RowDs w g G ds.length ds) {i : Nat} (hi : i < ds.length) : w.cell? ⟨g, i * 6, none⟩ = some (.int .i64 (ds.getD i dd0).k) ∧ w.cell? ⟨g, i * 6 + 1, none⟩ = some (.int .i64 (ds.getD i dd0).o) ∧ w.cell? ⟨g, i * 6 + 2, none⟩ = some (.int .i64 (ds.getD i dd0).t) ∧ w.cell? ⟨g, i * 6 + 3, none⟩ = some (.int .i64 (ds.getD i dd0).n) ∧ w.cell? ⟨g, i * 6 + 4, none⟩ = some (.int .i64 (ds.getD i dd0).d) ∧ w.cell? ⟨g, i * 6 + 5, none⟩ = some (.slice (some ⟨G i, 0, none⟩) (ds.getD i dd0).zs.length (ds.getD i dd0).zs.length) := by
  have key : ∀ q, q < 6 → w.cell? ⟨g, i * 6 + q, none⟩ = some (ddv (G i) (ds.getD i dd0) q) := fun q hq => by
    have := h.1.cell (i := i * 6 + q) (by omega)
    rw [if_pos (by omega), show (i * 6 + q) / 6 = i from by omega, show (i * 6 + q) % 6 = q from by omega] at this
    exact this
  exact ⟨key 0 (by omega), key 1 (by omega), key 2 (by omega), key 3 (by omega), key 4 (by omega), key 5 (by omega)⟩
theorem RowDs.is {w : World} {g : Nat} {G : Nat → Nat} {ds : List Dd} (h : RowDs w g G ds.length ds) (hn : ∀ i, i < ds.length → (ds.getD i dd0).zs.length ≤ 1048576) : IsDds w (some ⟨g, 0, none⟩) ds := by
  refine .inr ⟨g, 0, rfl, fun i hi => ?_⟩
  obtain ⟨c0, c1, c2, c3, c4, c5⟩ := h.cells hi
  rw [Nat.zero_add]
  exact ⟨_, _, c0, c1, c2, c3, c4, c5, row_ints (h.2.1 i hi).2, hn i hi, Nat.le_refl _⟩
theorem RowDs.next {w w' : World} {g : Nat} {G : Nat → Nat} {ds : List Dd} (h : RowDs w g G ds.length ds) (hb : Below w.heap.size w w') : RowDs w' g G ds.length ds :=
  ⟨World.rowIs.of_block h.1 (hb.block g h.1.lt), fun j hj => ⟨(h.2.1 j hj).1, row_keep (h.2.1 j hj).2 hb⟩, h.2.2⟩
/-- what toDeedS leaves -/
def CopiedDs (w : World) (ds : List Dd) (e : Ending) (w' : World) : Prop := ∃ (g : Nat) (G : Nat → Nat), e = .returned (.slice (some ⟨g, 0, none⟩) ds.length ds.length) ∧ w.heap.size ≤ g ∧ RowDs w' g G ds.length ds ∧ Below w.heap.size w w'
theorem infoDd : (Try.prog.info? 33).map (fun i => (i.zero, i.size, i.bytes)) = some (some (.agg #[.int .i64 0, .int .i64 0, .int .i64 0, .int .i64 0, .int .i64 0, .slice none 0 0]), 6, 64) := by kernel_rfl
theorem madeDd (w : World) (n : Nat) (t : TypeId) : (w.alloc (.cells (madeCells #[.int .i64 0, .int .i64 0, .int .i64 0, .int .i64 0, .int .i64 0, .slice none 0 0] n) t)).rowIs w.heap.size t n (fun j => ddz (j % 6)) := by
  have hs : (madeCells #[Value.int .i64 0, .int .i64 0, .int .i64 0, .int .i64 0, .int .i64 0, .slice none 0 0] n).size = n := by unfold madeCells; simp
  refine ⟨_, heap_alloc_new w _, hs, fun i hi => ?_⟩
  have hm : i % 6 = 0 ∨ i % 6 = 1 ∨ i % 6 = 2 ∨ i % 6 = 3 ∨ i % 6 = 4 ∨ i % 6 = 5 := by omega
  unfold madeCells
  rw [Array.getElem?_map, Array.getElem?_range, if_pos hi]
  show some ((#[Value.int .i64 0, .int .i64 0, .int .i64 0, .int .i64 0, .int .i64 0, .slice none 0 0] : Array Value)[i % 6]!) = some (ddz (i % 6))
  rcases hm with h | h | h | h | h | h <;> rw [h] <;> rfl
/-- one more deed in the row -/
theorem rowDs_step {w : World} {g : Nat} {G : Nat → Nat} {k : Nat} {ds : List Dd} {gz : Nat} (h : RowDs w g G k ds) (hk : k < ds.length) (hlt : ∀ j, j < k → G j < gz) (hg : g < gz) (hR : Row w gz (ds.getD k dd0).zs) :
    RowDs ((((((w.setCell ⟨g, k * 6, none⟩ (.int .i64 (ds.getD k dd0).k)).setCell ⟨g, k * 6 + 1, none⟩ (.int .i64 (ds.getD k dd0).o)).setCell ⟨g, k * 6 + 2, none⟩ (.int .i64 (ds.getD k dd0).t)).setCell ⟨g, k * 6 + 3, none⟩ (.int .i64 (ds.getD k dd0).n)).setCell ⟨g, k * 6 + 4, none⟩ (.int .i64 (ds.getD k dd0).d)).setCell ⟨g, k * 6 + 5, none⟩ (.slice (some ⟨gz, 0, none⟩) (ds.getD k dd0).zs.length (ds.getD k dd0).zs.length)) g (fun j => if j = k then gz else G j) (k + 1) ds := by
  have far : ∀ (q : Nat) (zs : List Int), q ≠ g → Row w q zs → Row ((((((w.setCell ⟨g, k * 6, none⟩ (.int .i64 (ds.getD k dd0).k)).setCell ⟨g, k * 6 + 1, none⟩ (.int .i64 (ds.getD k dd0).o)).setCell ⟨g, k * 6 + 2, none⟩ (.int .i64 (ds.getD k dd0).t)).setCell ⟨g, k * 6 + 3, none⟩ (.int .i64 (ds.getD k dd0).n)).setCell ⟨g, k * 6 + 4, none⟩ (.int .i64 (ds.getD k dd0).d)).setCell ⟨g, k * 6 + 5, none⟩ (.slice (some ⟨gz, 0, none⟩) (ds.getD k dd0).zs.length (ds.getD k dd0).zs.length)) q zs := fun q zs hq hr =>
    World.rowIs.of_block hr (by rw [Below.heap_setCell _ _ _ q hq, Below.heap_setCell _ _ _ q hq, Below.heap_setCell _ _ _ q hq, Below.heap_setCell _ _ _ q hq, Below.heap_setCell _ _ _ q hq, Below.heap_setCell _ _ _ q hq])
  refine ⟨((((((h.1.set (k * 6) _).set (k * 6 + 1) _).set (k * 6 + 2) _).set (k * 6 + 3) _).set (k * 6 + 4) _).set (k * 6 + 5) _).congr (fun j hj => ?_), fun j hj => ?_, fun i j hij hj => ?_⟩
  · dsimp only
    by_cases hb : k * 6 ≤ j ∧ j < k * 6 + 6
    · rw [if_pos (show j < (k + 1) * 6 from by omega), if_pos (show j / 6 = k from by omega), show j / 6 = k from by omega]
      have hm : j = k * 6 ∨ j = k * 6 + 1 ∨ j = k * 6 + 2 ∨ j = k * 6 + 3 ∨ j = k * 6 + 4 ∨ j = k * 6 + 5 := by omega
      rcases hm with e | e | e | e | e | e
      · rw [if_neg (by omega), if_neg (by omega), if_neg (by omega), if_neg (by omega), if_neg (by omega), if_pos e, show j % 6 = 0 from by omega]; rfl
      · rw [if_neg (by omega), if_neg (by omega), if_neg (by omega), if_neg (by omega), if_pos e, show j % 6 = 1 from by omega]; rfl
      · rw [if_neg (by omega), if_neg (by omega), if_neg (by omega), if_pos e, show j % 6 = 2 from by omega]; rfl
      · rw [if_neg (by omega), if_neg (by omega), if_pos e, show j % 6 = 3 from by omega]; rfl
      · rw [if_neg (by omega), if_pos e, show j % 6 = 4 from by omega]; rfl
      · rw [if_pos e, show j % 6 = 5 from by omega]; rfl
    · rw [if_neg (by omega), if_neg (by omega), if_neg (by omega), if_neg (by omega), if_neg (by omega), if_neg (by omega), if_neg (show ¬ j / 6 = k from by omega)]
      by_cases hl : j < k * 6
      · rw [if_pos hl, if_pos (by omega)]
      · rw [if_neg hl, if_neg (by omega)]
  · dsimp only
    by_cases hjk : j = k
    · rw [if_pos hjk, hjk]; exact ⟨hg, far _ _ (by omega) hR⟩
    · rw [if_neg hjk]
      obtain ⟨p1, p2⟩ := h.2.1 j (by omega)
      exact ⟨p1, far _ _ (by omega) p2⟩
  · dsimp only
    rw [if_neg (by omega : ¬ i = k)]
    by_cases hjk : j = k
    · rw [if_pos hjk]; exact hlt i (by omega)
    · rw [if_neg hjk]; exact h.2.2 i j hij (by omega)
end Go.Proofs.Ythagafkjlecagaa
namespace Go.Proofs.Ythagafkjlecagaa
open Go.RowKit
set_option linter.unusedSimpArgs false
set_option linter.unusedVariables false

set_option maxRecDepth 100000 in
set_option maxHeartbeats 6000000 in
/-- laws.eqDeed -/
theorem leqDd (A1 A2 : Option Addr) (p1 p2 : Nat) (x : Dd) (w : World) (h1 : IsInts w A1 x.zs) (h2 : IsInts w A2 x.zs) (hn : x.zs.length ≤ 1048576) :
    Calls Try.prog 40 #[.agg #[.int .i64 x.k, .int .i64 x.o, .int .i64 x.t, .int .i64 x.n, .int .i64 x.d, .slice A1 x.zs.length p1], .agg #[.int .i64 x.k, .int .i64 x.o, .int .i64 x.t, .int .i64 x.n, .int .i64 x.d, .slice A2 x.zs.length p2]] w fun e w' => e = .returned (.bool true) ∧ Below w.heap.size w w' := by
  obtain ⟨k, o, t, n, d, zs⟩ := x
  dsimp only at h1 h2 hn ⊢
  have H1 := Lib.hid (fun W (hW : Below w.heap.size w W) => ints_below h1 hW)
  have H2 := Lib.hid (fun W (hW : Below w.heap.size w W) => ints_below h2 hW)
  clear h1 h2
  have K1 := (Blk.new w 33 #[.int .i64 k, .int .i64 o, .int .i64 t, .int .i64 n, .int .i64 d, .slice A1 zs.length p1]).alloc (.cells #[.int .i64 k, .int .i64 o, .int .i64 t, .int .i64 n, .int .i64 d, .slice A2 zs.length p2] 33)
  have K2 := Blk.new (w.alloc (.cells #[.int .i64 k, .int .i64 o, .int .i64 t, .int .i64 n, .int .i64 d, .slice A1 zs.length p1] 33)) 33 #[.int .i64 k, .int .i64 o, .int .i64 t, .int .i64 n, .int .i64 d, .slice A2 zs.length p2]
  rw [World.size_alloc] at K2
  have B : Below w.heap.size w ((w.alloc (.cells #[.int .i64 k, .int .i64 o, .int .i64 t, .int .i64 n, .int .i64 d, .slice A1 zs.length p1] 33)).alloc (.cells #[.int .i64 k, .int .i64 o, .int .i64 t, .int .i64 n, .int .i64 d, .slice A2 zs.length p2] 33)) := by go_grown
  obtain ⟨q0, q1, q2, q3, q4, q5⟩ := cells6 K1
  obtain ⟨r0, r1, r2, r3, r4, r5⟩ := cells6 K2
  have b0 : (k != k) = false := by simp
  have b1 : (o != o) = false := by simp
  have b2 : (t != t) = false := by simp
  go_enter Try.func40, Try.ntmps40
  go_wp2_with fail
  refine (leqFrac n d _).mono ?_
  rintro e u1 ⟨rfl, C⟩
  clear q0 q1 q2 q3 q4 q5 r0 r1 r2 r3 r4 r5
  replace B := bel_tr B C
  replace K1 := K1.next C
  replace K2 := K2.next C
  clear C
  obtain ⟨q0, q1, q2, q3, q4, q5⟩ := cells6 K1
  obtain ⟨r0, r1, r2, r3, r4, r5⟩ := cells6 K2
  go_wp2_with fail
  refine (leqIntS A1 A2 p1 p2 zs _ (H1.out _ B) (H2.out _ B) hn).mono ?_
  rintro e u2 ⟨rfl, C⟩
  clear q0 q1 q2 q3 q4 q5 r0 r1 r2 r3 r4 r5 K1 K2
  replace B := bel_tr B C
  go_wp2_with fail
  go_ret
  exact ⟨rfl, B⟩
end Go.Proofs.Ythagafkjlecagaa
namespace Go.Proofs.Ythagafkjlecagaa
open Go.RowKit
set_option linter.unusedSimpArgs false
set_option linter.unusedVariables false

set_option maxRecDepth 100000 in
/-- laws.szEvent -/
theorem lszEv (A : Option Addr) (cz : Nat) (x : Ev) (L : Int) (w : World) (h0 : 0 ≤ L) (h1 : L ≤ 1048576) (hn : x.dd.zs.length ≤ 9223372036854775807) :
    Calls Try.prog 10 #[.agg #[.int .i64 x.k, .int .i64 x.dd.k, .int .i64 x.dd.o, .int .i64 x.dd.t, .int .i64 x.dd.n, .int .i64 x.dd.d, .slice A x.dd.zs.length cz, .int .i64 x.at_, .int .i64 x.nu], .int .i64 L] w fun e w' => e = .returned (.int .i64 (if L - (x.dd.zs.length : Int) < 0 then -1 else L - (x.dd.zs.length : Int))) ∧ Below w.heap.size w w' := by
  obtain ⟨k, ⟨dk, o, t, n, d, zs⟩, at_, nu⟩ := x
  dsimp only at hn ⊢
  have B := (Below.refl w.heap.size w).alloc (Nat.le_refl _) (.cells #[.int .i64 k, .int .i64 dk, .int .i64 o, .int .i64 t, .int .i64 n, .int .i64 d, .slice A zs.length cz, .int .i64 at_, .int .i64 nu] 28)
  have K := Blk.new w 28 #[.int .i64 k, .int .i64 dk, .int .i64 o, .int .i64 t, .int .i64 n, .int .i64 d, .slice A zs.length cz, .int .i64 at_, .int .i64 nu]
  obtain ⟨q0, q1, q2, q3, q4, q5, q6, q7, q8⟩ := cells9 K
  have CC := fun W => lszDd A cz ⟨dk, o, t, n, d, zs⟩ L W h0 h1 hn
  dsimp only at CC
  by_cases c : L - (zs.length : Int) < 0
  · have e1 : decide ((-1 : Int) < 0) = true := rfl
    rw [if_pos c] at CC ⊢
    clear c K
    go_enter Try.func10, Try.ntmps10
    go_wp2_with fail
    refine (CC _).mono ?_
    rintro e u ⟨rfl, C⟩
    replace B := bel_tr B C
    go_wp2_with fail
    go_ret
    exact ⟨rfl, B⟩
  · have e1 : decide (L - (zs.length : Int) < 0) = false := decide_eq_false c
    rw [if_neg c] at CC ⊢
    clear c K
    generalize L - (zs.length : Int) = L' at *
    go_enter Try.func10, Try.ntmps10
    go_wp2_with fail
    refine (CC _).mono ?_
    rintro e u ⟨rfl, C⟩
    replace B := bel_tr B C
    go_wp2_with fail
    go_ret
    exact ⟨rfl, B⟩
/-- what toEvent leaves -/
def OutEv (w : World) (x : Ev) (e : Ending) (w' : World) : Prop := ∃ g : Nat, e = .returned (.agg #[.int .i64 x.k, .int .i64 x.dd.k, .int .i64 x.dd.o, .int .i64 x.dd.t, .int .i64 x.dd.n, .int .i64 x.dd.d, .slice (some ⟨g, 0, none⟩) x.dd.zs.length x.dd.zs.length, .int .i64 x.at_, .int .i64 x.nu]) ∧ w.heap.size ≤ g ∧ Row w' g x.dd.zs ∧ Below w.heap.size w w'
theorem rwX9 {w : World} {b g : Nat} {t' : TypeId} {zs : List Int} {cs : Array Value} {v0 v1 v2 v3 v4 v5 v6 v7 v8 : Value} (h : Row w g zs) (K : Blk w b t' cs) (hne : t' ≠ 3) : Row (sets9 w b v0 v1 v2 v3 v4 v5 v6 v7 v8) g zs :=
  World.rowIs.of_block h (by
    have hn := rwNe h K hne
    unfold sets9
    rw [Below.heap_setCell _ _ _ g hn, Below.heap_setCell _ _ _ g hn, Below.heap_setCell _ _ _ g hn, Below.heap_setCell _ _ _ g hn, Below.heap_setCell _ _ _ g hn, Below.heap_setCell _ _ _ g hn, Below.heap_setCell _ _ _ g hn, Below.heap_setCell _ _ _ g hn, Below.heap_setCell _ _ _ g hn])
set_option maxRecDepth 100000 in
set_option maxHeartbeats 6000000 in
/-- laws.eqEvent -/
theorem leqEv (A1 A2 : Option Addr) (p1 p2 : Nat) (x : Ev) (w : World) (h1 : IsInts w A1 x.dd.zs) (h2 : IsInts w A2 x.dd.zs) (hn : x.dd.zs.length ≤ 1048576) :
    Calls Try.prog 14 #[.agg #[.int .i64 x.k, .int .i64 x.dd.k, .int .i64 x.dd.o, .int .i64 x.dd.t, .int .i64 x.dd.n, .int .i64 x.dd.d, .slice A1 x.dd.zs.length p1, .int .i64 x.at_, .int .i64 x.nu], .agg #[.int .i64 x.k, .int .i64 x.dd.k, .int .i64 x.dd.o, .int .i64 x.dd.t, .int .i64 x.dd.n, .int .i64 x.dd.d, .slice A2 x.dd.zs.length p2, .int .i64 x.at_, .int .i64 x.nu]] w fun e w' => e = .returned (.bool true) ∧ Below w.heap.size w w' := by
  obtain ⟨k, ⟨dk, o, t, n, d, zs⟩, at_, nu⟩ := x
  dsimp only at h1 h2 hn ⊢
  have CC := Lib.hid (fun W (hW : Below w.heap.size w W) => leqDd A1 A2 p1 p2 ⟨dk, o, t, n, d, zs⟩ W (ints_below h1 hW) (ints_below h2 hW) hn)
  clear h1 h2
  have K1 := (Blk.new w 35 #[.int .i64 k, .int .i64 dk, .int .i64 o, .int .i64 t, .int .i64 n, .int .i64 d, .slice A1 zs.length p1, .int .i64 at_, .int .i64 nu]).alloc (.cells #[.int .i64 k, .int .i64 dk, .int .i64 o, .int .i64 t, .int .i64 n, .int .i64 d, .slice A2 zs.length p2, .int .i64 at_, .int .i64 nu] 35)
  have K2 := Blk.new (w.alloc (.cells #[.int .i64 k, .int .i64 dk, .int .i64 o, .int .i64 t, .int .i64 n, .int .i64 d, .slice A1 zs.length p1, .int .i64 at_, .int .i64 nu] 35)) 35 #[.int .i64 k, .int .i64 dk, .int .i64 o, .int .i64 t, .int .i64 n, .int .i64 d, .slice A2 zs.length p2, .int .i64 at_, .int .i64 nu]
  rw [World.size_alloc] at K2
  have B : Below w.heap.size w ((w.alloc (.cells #[.int .i64 k, .int .i64 dk, .int .i64 o, .int .i64 t, .int .i64 n, .int .i64 d, .slice A1 zs.length p1, .int .i64 at_, .int .i64 nu] 35)).alloc (.cells #[.int .i64 k, .int .i64 dk, .int .i64 o, .int .i64 t, .int .i64 n, .int .i64 d, .slice A2 zs.length p2, .int .i64 at_, .int .i64 nu] 35)) := by go_grown
  obtain ⟨q0, q1, q2, q3, q4, q5, q6, q7, q8⟩ := cells9 K1
  obtain ⟨r0, r1, r2, r3, r4, r5, r6, r7, r8⟩ := cells9 K2
  have b0 : (k != k) = false := by simp
  have b1 : (at_ != at_) = false := by simp
  have b2 : (nu != nu) = false := by simp
  go_enter Try.func14, Try.ntmps14
  go_wp2_with fail
  refine (CC.out _ B).mono ?_
  rintro e u1 ⟨rfl, C⟩
  clear q0 q1 q2 q3 q4 q5 q6 q7 q8 r0 r1 r2 r3 r4 r5 r6 r7 r8
  replace B := bel_tr B C
  replace K1 := K1.next C
  replace K2 := K2.next C
  clear C
  obtain ⟨q0, q1, q2, q3, q4, q5, q6, q7, q8⟩ := cells9 K1
  obtain ⟨r0, r1, r2, r3, r4, r5, r6, r7, r8⟩ := cells9 K2
  go_wp2_with fail
  go_ret
  exact ⟨rfl, B⟩
end Go.Proofs.Ythagafkjlecagaa
namespace Go.Proofs.Ythagafkjlecagaa
open Go.RowKit
set_option linter.unusedSimpArgs false
set_option linter.unusedVariables false
def sets6o (w : World) (b o : Nat) (v0 v1 v2 v3 v4 v5 : Value) : World := ((((((w.setCell ⟨b, o, none⟩ v0).setCell ⟨b, o + 1, none⟩ v1).setCell ⟨b, o + 2, none⟩ v2).setCell ⟨b, o + 3, none⟩ v3).setCell ⟨b, o + 4, none⟩ v4).setCell ⟨b, o + 5, none⟩ v5)
/-- a struct of six cells is stored into the middle of a block -/
theorem wpList_store6 {P : Program} {ops : Array Oper} {rest : List Oper} {op : Oper} {a : Act} {w : World} {Q : Exit → Act → World → Prop} (hgd : op.guard = none) (ty : TypeId) (x y : Operand) (ho : op.op = .store ty x y)
    (b o : Nat) (v0 v1 v2 v3 v4 v5 : Value) (hx : a.eval x = .pointer (some ⟨b, o, none⟩)) (hy : a.eval y = .agg #[v0, v1, v2, v3, v4, v5]) {t : TypeId} {cs : Array Value} (K : Blk w b t cs) (hsz : Nat.ble (o + 6) cs.size = true)
    (hi : (P.info? ty).map (·.size) = some 6) (h1 : (v0.oneCell' && v1.oneCell' && v2.oneCell' && v3.oneCell' && v4.oneCell' && v5.oneCell') = true)
    (h : wpList P ops Q rest (a.put op.dst undef) (sets6o w b o v0 v1 v2 v3 v4 v5)) : wpList P ops Q (op :: rest) a w := by
  have h2 : (#[v0, v1, v2, v3, v4, v5] : Array Value).all (·.oneCell') = true := by
    simp only [Bool.and_eq_true] at h1
    obtain ⟨⟨⟨⟨⟨a0, a1⟩, a2⟩, a3⟩, a4⟩, a5⟩ := h1
    simp [a0, a1, a2, a3, a4, a5]
  have hs := Nat.le_of_ble_eq_true hsz
  refine wpList_store_mid hgd ty x y ho b o #[v0, v1, v2, v3, v4, v5] hx hy (fun j hj => ?_) hi h2 ?_
  · have hj' : j < 6 := hj
    have hlt : o + j < cs.size := by omega
    refine ⟨?_, K.frozen _⟩
    have := K.cell (o + j)
    rw [Array.getElem?_eq_getElem hlt] at this
    rw [this]; rfl
  · exact h
end Go.Proofs.Ythagafkjlecagaa
namespace Go.Proofs.Ythagafkjlecagaa
open Go.RowKit
set_option linter.unusedSimpArgs false
set_option linter.unusedVariables false
theorem fS6 {w y : World} {g b : Nat} {t : TypeId} {cs : Array Value} {v0 v1 v2 v3 v4 v5 : Value} (h : Blk w g t cs) (hy : y = World.setCell (World.setCell (World.setCell (World.setCell (World.setCell (World.setCell w ⟨b, 1, none⟩ (v0)) ⟨b, 2, none⟩ (v1)) ⟨b, 3, none⟩ (v2)) ⟨b, 4, none⟩ (v3)) ⟨b, 5, none⟩ (v4)) ⟨b, 6, none⟩ (v5)) (hn : g ≠ b) : Blk y g t cs := by subst hy; exact fS (fS (fS (fS (fS (fS h rfl hn) rfl hn) rfl hn) rfl hn) rfl hn) rfl hn
theorem bS6 {w0 w y : World} {b : Nat} {v0 v1 v2 v3 v4 v5 : Value} (h : Below w0.heap.size w0 w) (hy : y = World.setCell (World.setCell (World.setCell (World.setCell (World.setCell (World.setCell w ⟨b, 1, none⟩ (v0)) ⟨b, 2, none⟩ (v1)) ⟨b, 3, none⟩ (v2)) ⟨b, 4, none⟩ (v3)) ⟨b, 5, none⟩ (v4)) ⟨b, 6, none⟩ (v5)) (hb : w0.heap.size ≤ b) : Below w0.heap.size w0 y := by subst hy; exact bS (bS (bS (bS (bS (bS h rfl hb) rfl hb) rfl hb) rfl hb) rfl hb) rfl hb
theorem wS6 {w y : World} {g b : Nat} {t' : TypeId} {zs : List Int} {cs : Array Value} {v0 v1 v2 v3 v4 v5 : Value} (h : Row w g zs) (K : Blk w b t' cs) (hy : y = World.setCell (World.setCell (World.setCell (World.setCell (World.setCell (World.setCell w ⟨b, 1, none⟩ (v0)) ⟨b, 2, none⟩ (v1)) ⟨b, 3, none⟩ (v2)) ⟨b, 4, none⟩ (v3)) ⟨b, 5, none⟩ (v4)) ⟨b, 6, none⟩ (v5)) (hne : t' ≠ 3) : Row y g zs := by
  subst hy
  have hn := rwNe h K hne
  exact World.rowIs.of_block h (by rw [Below.heap_setCell _ _ _ g hn, Below.heap_setCell _ _ _ g hn, Below.heap_setCell _ _ _ g hn, Below.heap_setCell _ _ _ g hn, Below.heap_setCell _ _ _ g hn, Below.heap_setCell _ _ _ g hn])
theorem S9_1x6 {w y : World} {b : Nat} {t : TypeId} {u0 u1 u2 u3 u4 u5 u6 u7 u8 v0 v1 v2 v3 v4 v5 : Value} (h : Blk w b t #[u0, u1, u2, u3, u4, u5, u6, u7, u8]) (hy : y = World.setCell (World.setCell (World.setCell (World.setCell (World.setCell (World.setCell w ⟨b, 1, none⟩ (v0)) ⟨b, 2, none⟩ (v1)) ⟨b, 3, none⟩ (v2)) ⟨b, 4, none⟩ (v3)) ⟨b, 5, none⟩ (v4)) ⟨b, 6, none⟩ (v5)) : Blk y b t #[u0, v0, v1, v2, v3, v4, v5, u7, u8] := by subst hy; exact S9_6 (S9_5 (S9_4 (S9_3 (S9_2 (S9_1 h rfl) rfl) rfl) rfl) rfl) rfl
theorem X9w {w y : World} {b g : Nat} {t' : TypeId} {zs : List Int} {cs : Array Value} {v0 v1 v2 v3 v4 v5 v6 v7 v8 : Value} (h : Row w g zs) (K : Blk w b t' cs) (hy : y = sets9 w b v0 v1 v2 v3 v4 v5 v6 v7 v8) (hne : t' ≠ 3) : Row y g zs := by subst hy; exact rwX9 h K hne
set_option maxRecDepth 100000 in
set_option maxHeartbeats 6000000 in
/-- laws.toEvent -/
theorem ltoEv (A : Option Addr) (cz : Nat) (x : Ev) (w : World) (h : IsInts w A x.dd.zs) (hn : x.dd.zs.length ≤ 1048576) :
    Calls Try.prog 12 #[.agg #[.int .i64 x.k, .int .i64 x.dd.k, .int .i64 x.dd.o, .int .i64 x.dd.t, .int .i64 x.dd.n, .int .i64 x.dd.d, .slice A x.dd.zs.length cz, .int .i64 x.at_, .int .i64 x.nu]] w (OutEv w x) := by
  obtain ⟨k, ⟨dk, o, t, n, d, zs⟩, at_, nu⟩ := x
  dsimp only at h hn ⊢
  have CC := Lib.hid (fun W (hW : Below w.heap.size w W) => ltoDd A cz ⟨dk, o, t, n, d, zs⟩ W (ints_below h hW) hn)
  clear h
  go_enter Try.func12, Try.ntmps12
  have KA := ((Blk.new w 28 #[.int .i64 k, .int .i64 dk, .int .i64 o, .int .i64 t, .int .i64 n, .int .i64 d, .slice A zs.length cz, .int .i64 at_, .int .i64 nu]).alloc (.cells #[.int .i64 0, .int .i64 0, .int .i64 0, .int .i64 0, .int .i64 0, .int .i64 0, .slice none 0 0, .int .i64 0, .int .i64 0] 35)).alloc (.cells #[.int .i64 0, .int .i64 0, .int .i64 0, .int .i64 0, .int .i64 0, .int .i64 0, .slice none 0 0, .int .i64 0, .int .i64 0] 35)
  have KR : Blk (((w.alloc (.cells #[.int .i64 k, .int .i64 dk, .int .i64 o, .int .i64 t, .int .i64 n, .int .i64 d, .slice A zs.length cz, .int .i64 at_, .int .i64 nu] 28)).alloc (.cells #[.int .i64 0, .int .i64 0, .int .i64 0, .int .i64 0, .int .i64 0, .int .i64 0, .slice none 0 0, .int .i64 0, .int .i64 0] 35)).alloc (.cells #[.int .i64 0, .int .i64 0, .int .i64 0, .int .i64 0, .int .i64 0, .int .i64 0, .slice none 0 0, .int .i64 0, .int .i64 0] 35)) (w.heap.size + 1) 35 #[.int .i64 0, .int .i64 0, .int .i64 0, .int .i64 0, .int .i64 0, .int .i64 0, .slice none 0 0, .int .i64 0, .int .i64 0] := by
    have := (Blk.new (w.alloc (.cells #[.int .i64 k, .int .i64 dk, .int .i64 o, .int .i64 t, .int .i64 n, .int .i64 d, .slice A zs.length cz, .int .i64 at_, .int .i64 nu] 28)) 35 #[.int .i64 0, .int .i64 0, .int .i64 0, .int .i64 0, .int .i64 0, .int .i64 0, .slice none 0 0, .int .i64 0, .int .i64 0]).alloc (.cells #[.int .i64 0, .int .i64 0, .int .i64 0, .int .i64 0, .int .i64 0, .int .i64 0, .slice none 0 0, .int .i64 0, .int .i64 0] 35)
    rw [World.size_alloc] at this; exact this
  have KO : Blk (((w.alloc (.cells #[.int .i64 k, .int .i64 dk, .int .i64 o, .int .i64 t, .int .i64 n, .int .i64 d, .slice A zs.length cz, .int .i64 at_, .int .i64 nu] 28)).alloc (.cells #[.int .i64 0, .int .i64 0, .int .i64 0, .int .i64 0, .int .i64 0, .int .i64 0, .slice none 0 0, .int .i64 0, .int .i64 0] 35)).alloc (.cells #[.int .i64 0, .int .i64 0, .int .i64 0, .int .i64 0, .int .i64 0, .int .i64 0, .slice none 0 0, .int .i64 0, .int .i64 0] 35)) (w.heap.size + 1 + 1) 35 #[.int .i64 0, .int .i64 0, .int .i64 0, .int .i64 0, .int .i64 0, .int .i64 0, .slice none 0 0, .int .i64 0, .int .i64 0] := by
    have := Blk.new ((w.alloc (.cells #[.int .i64 k, .int .i64 dk, .int .i64 o, .int .i64 t, .int .i64 n, .int .i64 d, .slice A zs.length cz, .int .i64 at_, .int .i64 nu] 28)).alloc (.cells #[.int .i64 0, .int .i64 0, .int .i64 0, .int .i64 0, .int .i64 0, .int .i64 0, .slice none 0 0, .int .i64 0, .int .i64 0] 35)) 35 #[.int .i64 0, .int .i64 0, .int .i64 0, .int .i64 0, .int .i64 0, .int .i64 0, .slice none 0 0, .int .i64 0, .int .i64 0]
    rw [World.size_alloc, World.size_alloc] at this; exact this
  have B : Below w.heap.size w (((w.alloc (.cells #[.int .i64 k, .int .i64 dk, .int .i64 o, .int .i64 t, .int .i64 n, .int .i64 d, .slice A zs.length cz, .int .i64 at_, .int .i64 nu] 28)).alloc (.cells #[.int .i64 0, .int .i64 0, .int .i64 0, .int .i64 0, .int .i64 0, .int .i64 0, .slice none 0 0, .int .i64 0, .int .i64 0] 35)).alloc (.cells #[.int .i64 0, .int .i64 0, .int .i64 0, .int .i64 0, .int .i64 0, .int .i64 0, .slice none 0 0, .int .i64 0, .int .i64 0] 35)) := by go_grown
  obtain ⟨u0, hy⟩ : ∃ y, y = ((w.alloc (.cells #[.int .i64 k, .int .i64 dk, .int .i64 o, .int .i64 t, .int .i64 n, .int .i64 d, .slice A zs.length cz, .int .i64 at_, .int .i64 nu] 28)).alloc (.cells #[.int .i64 0, .int .i64 0, .int .i64 0, .int .i64 0, .int .i64 0, .int .i64 0, .slice none 0 0, .int .i64 0, .int .i64 0] 35)).alloc (.cells #[.int .i64 0, .int .i64 0, .int .i64 0, .int .i64 0, .int .i64 0, .int .i64 0, .slice none 0 0, .int .i64 0, .int .i64 0] 35) := ⟨_, rfl⟩
  rw [← hy] at KA KR KO B
  have HY := Lib.hid hy
  clear hy
  have HS0 := Lib.hid (And.intro KA (And.intro KR (And.intro KO B)))
  clear KA KR KO B
  go_wp2_with (first | (show wpList _ _ _ _ _ _; rw [← HY.out]; clear HY; obtain ⟨KA, KR, KO, B⟩ := HS0.out; clear HS0; have fz0 := KO.frozen 0; obtain ⟨qA_0, qA_1, qA_2, qA_3, qA_4, qA_5, qA_6, qA_7, qA_8⟩ := cells9 KA; obtain ⟨qR_0, qR_1, qR_2, qR_3, qR_4, qR_5, qR_6, qR_7, qR_8⟩ := cells9 KR; obtain ⟨qO_0, qO_1, qO_2, qO_3, qO_4, qO_5, qO_6, qO_7, qO_8⟩ := cells9 KO; obtain ⟨y1s, hy⟩ : ∃ y, y = World.setCell u0 ⟨w.heap.size + 1 + 1, 0, none⟩ (.int .i64 k) := ⟨_, rfl⟩; replace KA := fS KA hy (by omega); replace KR := fS KR hy (by omega); replace KO := S9_0 KO hy; replace B := bS B hy (by omega); have HY := Lib.hid hy; clear hy; have HS1 := Lib.hid (And.intro KA (And.intro KR (And.intro KO B))); clear KA KR KO B) | (show wpList _ _ _ _ _ (World.setCell u0 _ _); rw [← HY.out]; clear HY fz0; clear qA_0 qA_1 qA_2 qA_3 qA_4 qA_5 qA_6 qA_7 qA_8 qR_0 qR_1 qR_2 qR_3 qR_4 qR_5 qR_6 qR_7 qR_8 qO_0 qO_1 qO_2 qO_3 qO_4 qO_5 qO_6 qO_7 qO_8; obtain ⟨KA, KR, KO, B⟩ := HS1.out; clear HS1; obtain ⟨qA_0, qA_1, qA_2, qA_3, qA_4, qA_5, qA_6, qA_7, qA_8⟩ := cells9 KA; obtain ⟨qR_0, qR_1, qR_2, qR_3, qR_4, qR_5, qR_6, qR_7, qR_8⟩ := cells9 KR; obtain ⟨qO_0, qO_1, qO_2, qO_3, qO_4, qO_5, qO_6, qO_7, qO_8⟩ := cells9 KO))
  refine (CC.out _ B).mono ?_
  rintro e u2 ⟨gz, rfl, lgz, Rz, C⟩
  clear qA_0 qA_1 qA_2 qA_3 qA_4 qA_5 qA_6 qA_7 qA_8 qR_0 qR_1 qR_2 qR_3 qR_4 qR_5 qR_6 qR_7 qR_8 qO_0 qO_1 qO_2 qO_3 qO_4 qO_5 qO_6 qO_7 qO_8
  have lz : w.heap.size ≤ gz := (by have := B.size; omega)
  replace KA := KA.next C
  replace KR := KR.next C
  replace KO := KO.next C
  replace B := bel_tr B C
  clear C lgz
  dsimp only at Rz
  have KSA := Lib.hid KO
  obtain ⟨qA_0, qA_1, qA_2, qA_3, qA_4, qA_5, qA_6, qA_7, qA_8⟩ := cells9 KA
  obtain ⟨qR_0, qR_1, qR_2, qR_3, qR_4, qR_5, qR_6, qR_7, qR_8⟩ := cells9 KR
  obtain ⟨qO_0, qO_1, qO_2, qO_3, qO_4, qO_5, qO_6, qO_7, qO_8⟩ := cells9 KO
  obtain ⟨y2s, hy⟩ : ∃ y, y = World.setCell (World.setCell (World.setCell (World.setCell (World.setCell (World.setCell u2 ⟨w.heap.size + 1 + 1, 1, none⟩ (.int .i64 dk)) ⟨w.heap.size + 1 + 1, 2, none⟩ (.int .i64 o)) ⟨w.heap.size + 1 + 1, 3, none⟩ (.int .i64 t)) ⟨w.heap.size + 1 + 1, 4, none⟩ (.int .i64 n)) ⟨w.heap.size + 1 + 1, 5, none⟩ (.int .i64 d)) ⟨w.heap.size + 1 + 1, 6, none⟩ (.slice (some ⟨gz, 0, none⟩) zs.length zs.length) := ⟨_, rfl⟩
  replace Rz := wS6 Rz KO hy (by decide)
  replace KA := fS6 KA hy (by omega)
  replace KR := fS6 KR hy (by omega)
  replace KO := S9_1x6 KO hy
  replace B := bS6 B hy (by omega)
  have HY := Lib.hid hy
  clear hy
  have HS2 := Lib.hid (And.intro KA (And.intro KR (And.intro KO (And.intro Rz B))))
  clear KA KR KO Rz B
  go_wp2_with (first | (show wpList _ _ _ ({ dst := _, op := Op.store _ _ _, type := _, pos := _, after := _, guard := _ } :: _) _ _; refine wpList_store6 rfl _ _ _ rfl (w.heap.size + 1 + 1) 1 (.int .i64 dk) (.int .i64 o) (.int .i64 t) (.int .i64 n) (.int .i64 d) (.slice (some ⟨gz, 0, none⟩) zs.length zs.length) rfl rfl KSA.out (by rfl) (by kernel_rfl) rfl ?_; show wpList _ _ _ _ _ (World.setCell (World.setCell (World.setCell (World.setCell (World.setCell (World.setCell u2 ⟨w.heap.size + 1 + 1, 1, none⟩ (.int .i64 dk)) ⟨w.heap.size + 1 + 1, 2, none⟩ (.int .i64 o)) ⟨w.heap.size + 1 + 1, 3, none⟩ (.int .i64 t)) ⟨w.heap.size + 1 + 1, 4, none⟩ (.int .i64 n)) ⟨w.heap.size + 1 + 1, 5, none⟩ (.int .i64 d)) ⟨w.heap.size + 1 + 1, 6, none⟩ (.slice (some ⟨gz, 0, none⟩) zs.length zs.length)); rw [← HY.out]; clear KSA HY; clear qA_0 qA_1 qA_2 qA_3 qA_4 qA_5 qA_6 qA_7 qA_8 qR_0 qR_1 qR_2 qR_3 qR_4 qR_5 qR_6 qR_7 qR_8 qO_0 qO_1 qO_2 qO_3 qO_4 qO_5 qO_6 qO_7 qO_8; obtain ⟨KA, KR, KO, Rz, B⟩ := HS2.out; clear HS2; have fz0 := KO.frozen 7; obtain ⟨qA_0, qA_1, qA_2, qA_3, qA_4, qA_5, qA_6, qA_7, qA_8⟩ := cells9 KA; obtain ⟨qR_0, qR_1, qR_2, qR_3, qR_4, qR_5, qR_6, qR_7, qR_8⟩ := cells9 KR; obtain ⟨qO_0, qO_1, qO_2, qO_3, qO_4, qO_5, qO_6, qO_7, qO_8⟩ := cells9 KO; obtain ⟨y3s, hy⟩ : ∃ y, y = World.setCell y2s ⟨w.heap.size + 1 + 1, 7, none⟩ (.int .i64 at_) := ⟨_, rfl⟩; replace Rz := wS Rz KO hy (by decide); replace KA := fS KA hy (by omega); replace KR := fS KR hy (by omega); replace KO := S9_7 KO hy; replace B := bS B hy (by omega); have HY := Lib.hid hy; clear hy; have HS3 := Lib.hid (And.intro KA (And.intro KR (And.intro KO (And.intro Rz B)))); clear KA KR KO Rz B) | (show wpList _ _ _ _ _ (World.setCell y2s _ _); rw [← HY.out]; clear HY fz0; clear qA_0 qA_1 qA_2 qA_3 qA_4 qA_5 qA_6 qA_7 qA_8 qR_0 qR_1 qR_2 qR_3 qR_4 qR_5 qR_6 qR_7 qR_8 qO_0 qO_1 qO_2 qO_3 qO_4 qO_5 qO_6 qO_7 qO_8; obtain ⟨KA, KR, KO, Rz, B⟩ := HS3.out; clear HS3; have fz0 := KO.frozen 8; obtain ⟨qA_0, qA_1, qA_2, qA_3, qA_4, qA_5, qA_6, qA_7, qA_8⟩ := cells9 KA; obtain ⟨qR_0, qR_1, qR_2, qR_3, qR_4, qR_5, qR_6, qR_7, qR_8⟩ := cells9 KR; obtain ⟨qO_0, qO_1, qO_2, qO_3, qO_4, qO_5, qO_6, qO_7, qO_8⟩ := cells9 KO; obtain ⟨y4s, hy⟩ : ∃ y, y = World.setCell y3s ⟨w.heap.size + 1 + 1, 8, none⟩ (.int .i64 nu) := ⟨_, rfl⟩; replace Rz := wS Rz KO hy (by decide); replace KA := fS KA hy (by omega); replace KR := fS KR hy (by omega); replace KO := S9_8 KO hy; replace B := bS B hy (by omega); have HY := Lib.hid hy; clear hy; have HS4 := Lib.hid (And.intro KA (And.intro KR (And.intro KO (And.intro Rz B)))); clear KA KR KO Rz B) | (show wpList _ _ _ _ _ (World.setCell y3s _ _); rw [← HY.out]; clear HY fz0; clear qA_0 qA_1 qA_2 qA_3 qA_4 qA_5 qA_6 qA_7 qA_8 qR_0 qR_1 qR_2 qR_3 qR_4 qR_5 qR_6 qR_7 qR_8 qO_0 qO_1 qO_2 qO_3 qO_4 qO_5 qO_6 qO_7 qO_8; obtain ⟨KA, KR, KO, Rz, B⟩ := HS4.out; clear HS4; have fr0 := KR.frozen 0; have fr1 := KR.frozen 1; have fr2 := KR.frozen 2; have fr3 := KR.frozen 3; have fr4 := KR.frozen 4; have fr5 := KR.frozen 5; have fr6 := KR.frozen 6; have fr7 := KR.frozen 7; have fr8 := KR.frozen 8; obtain ⟨qA_0, qA_1, qA_2, qA_3, qA_4, qA_5, qA_6, qA_7, qA_8⟩ := cells9 KA; obtain ⟨qR_0, qR_1, qR_2, qR_3, qR_4, qR_5, qR_6, qR_7, qR_8⟩ := cells9 KR; obtain ⟨qO_0, qO_1, qO_2, qO_3, qO_4, qO_5, qO_6, qO_7, qO_8⟩ := cells9 KO; have HF := Lib.hid (And.intro KA (And.intro KR (And.intro KO (And.intro Rz B)))); clear KA KR KO Rz B))
  clear fr0 fr1 fr2 fr3 fr4 fr5 fr6 fr7 fr8
  clear qA_0 qA_1 qA_2 qA_3 qA_4 qA_5 qA_6 qA_7 qA_8 qR_0 qR_1 qR_2 qR_3 qR_4 qR_5 qR_6 qR_7 qR_8 qO_0 qO_1 qO_2 qO_3 qO_4 qO_5 qO_6 qO_7 qO_8
  obtain ⟨KA, KR, KO, Rz, B⟩ := HF.out
  clear HF
  obtain ⟨uf, hy⟩ : ∃ y, y = sets9 y4s (w.heap.size + 1) (.int .i64 k) (.int .i64 dk) (.int .i64 o) (.int .i64 t) (.int .i64 n) (.int .i64 d) (.slice (some ⟨gz, 0, none⟩) zs.length zs.length) (.int .i64 at_) (.int .i64 nu) := ⟨_, rfl⟩
  change bodyPost _ _ _ _ _ (sets9 _ _ _ _ _ _ _ _ _ _ _)
  rw [← hy]
  replace Rz := X9w Rz KR hy (by decide)
  replace B := X9B B hy (by omega)
  have KOLD := KR
  replace KR := X9b KR hy
  clear KA
  clear KO
  clear KOLD hy
  obtain ⟨qR_0, qR_1, qR_2, qR_3, qR_4, qR_5, qR_6, qR_7, qR_8⟩ := cells9 KR
  refine bodyPost_ret (v := .agg #[.int .i64 k, .int .i64 dk, .int .i64 o, .int .i64 t, .int .i64 n, .int .i64 d, .slice (some ⟨gz, 0, none⟩) zs.length zs.length, .int .i64 at_, .int .i64 nu]) (by simp [results, Try.results12, go_sem, qR_0, qR_1, qR_2, qR_3, qR_4, qR_5, qR_6, qR_7, qR_8]) rfl ⟨gz, rfl, lz, Rz, B⟩
end Go.Proofs.Ythagafkjlecagaa
