/- Contracts and facts of functions of this program, in build order. Conditions: those stated in each. -/
import Derived.Test.YtfcgjiciobfncaaPkFnArriveAtSuma
import Derived.Laws.OwnMore
import Derived.Maps.AppendAt
import Derived.Deep.AppendLies
import Derived.Deep.Draws
import Derived.RegionTactic
import Derived.OwnWalk
import Derived.Deep.Slices
import Derived.ChangeSame
import Derived.ChangeArms
import Derived.ProofKit
import Derived.Deep.RegionWith
import Derived.Deep.QuietTactic
import Derived.BigQuiet
import Derived.Laws.AppendOwn
import Derived.Laws.BitsAllLaws
import Derived.Laws.BitsLemmas
import Derived.WalkLawsBesides
import Derived.OpenShut
namespace Go.Proofs.Ytfcgjiciobfncaa
open Go.RowKit
set_option linter.unusedSimpArgs false
set_option linter.unusedVariables false
theorem own_ints {w : World} {base : Nat} {v : Value} {zs : List Int} (h : w.ownsRow base 3 1 v zs.length (zs.map (Value.int .i64))) : ∃ (b : Option Addr) (cap : Nat), v = .slice b zs.length cap ∧ IsInts w b zs := by
  have h0 := h
  rcases h.2 with ⟨hv, hn⟩ | ⟨g, cap, cur, hv, _⟩
  · exact ⟨none, 0, by rw [hv, hn], .inl (List.eq_nil_of_length_eq_zero hn)⟩
  · subst hv
    refine ⟨some ⟨g, 0, none⟩, cap, rfl, .inr ⟨g, 0, rfl, fun i hi => ?_⟩⟩
    have := h0.cellAt i (by omega)
    rw [List.getElem?_map, List.getElem?_eq_getElem hi] at this
    rw [Nat.zero_add, this, List.getD_eq_getElem?_getD, List.getElem?_eq_getElem hi]
    rfl
theorem take_map (l : List Int) (k : Nat) (h : k < l.length) : (l.take (k + 1)).map (Value.int .i64) = (l.take k).map (Value.int .i64) ++ [.int .i64 (l.getD k 0)] := by
  rw [List.take_succ_eq_append_getElem h, List.map_append, List.getD_eq_getElem?_getD, List.getElem?_eq_getElem h]; rfl

/-- numbers in a row of the call's own -/
def OwnI (w : World) (base : Nat) (v : Value) (zs : List Int) : Prop := w.ownsRow base 3 1 v zs.length (zs.map (Value.int .i64))
theorem OwnI.nil (w : World) (base : Nat) : OwnI w base (.slice none 0 0) [] := World.ownsRow_nil w base 3 1
theorem OwnI.new {w W : World} (h : Below w.heap.size w W) : OwnI (W.alloc (.cells #[] 3)) w.heap.size (.slice (some ⟨W.heap.size, 0, none⟩) 0 0) [] :=
  ⟨by simp, .inr ⟨W.heap.size, 0, #[], rfl, h.size, Go.Deep.blk_alloc_new _ _, Nat.le_refl _, by unfold maxLen; omega, rfl, rfl⟩⟩
theorem OwnI.one {w W : World} (h : Below w.heap.size w W) (z : Int) : (W.alloc (.cells #[.int .i64 z] 3)).ownsRow w.heap.size 3 1 (.slice (some ⟨W.heap.size, 0, none⟩) 1 1) 1 [.int .i64 z] :=
  ⟨by simp, .inr ⟨W.heap.size, 1, #[.int .i64 z], rfl, h.size, Go.Deep.blk_alloc_new _ _, Nat.le_refl _, by unfold maxLen; omega, rfl, rfl⟩⟩
theorem OwnI.snoc {w : World} {base : Nat} {v : Value} {zs : List Int} {z : Int} (h : w.ownsRow base 3 1 v (zs.length + 1) (zs.map (Value.int .i64) ++ [.int .i64 z])) : OwnI w base v (zs ++ [z]) := by
  unfold OwnI; rw [List.length_append, List.map_append]; exact h
theorem OwnI.cons {w : World} {base : Nat} {v : Value} {zs : List Int} {z : Int} (h : w.ownsRow base 3 1 v (1 + zs.length) ([.int .i64 z] ++ zs.map (Value.int .i64))) : OwnI w base v (z :: zs) := by
  unfold OwnI; rw [List.length_cons, Nat.add_comm]; exact h
theorem OwnI.ints {w : World} {base : Nat} {v : Value} {zs : List Int} (h : OwnI w base v zs) : ∃ (b : Option Addr) (cap : Nat), v = .slice b zs.length cap ∧ IsInts w b zs := own_ints h
theorem OwnI.of_block {w w' : World} {base : Nat} {v : Value} {zs : List Int} (h : OwnI w base v zs) (hb : Below w.heap.size w w') : OwnI w' base v zs := by
  refine ⟨h.1, ?_⟩
  rcases h.2 with h0 | ⟨g, cap, cur, hv, hg, hb0, r⟩
  · exact .inl h0
  · exact .inr ⟨g, cap, cur, hv, hg, (hb.block g (Blk.lt hb0)).trans hb0, r⟩
theorem own_lower {w : World} {a b : Nat} {v : Value} {zs : List Int} (h : OwnI w b v zs) (hab : a ≤ b) : OwnI w a v zs := by
  refine ⟨h.1, ?_⟩
  rcases h.2 with h0 | ⟨g, cap, cur, hv, hg, r⟩
  · exact .inl h0
  · exact .inr ⟨g, cap, cur, hv, Nat.le_trans hab hg, r⟩
/-- what a function that hands back numbers leaves -/
def OutI (w : World) (R : List Int) (e : Ending) (w' : World) : Prop := ∃ v, e = .returned v ∧ OwnI w' w.heap.size v R ∧ Below w.heap.size w w'
theorem outI_nil {w w' : World} (h : Below w.heap.size w w') : OutI w [] (.returned (.slice none 0 0)) w' := ⟨_, rfl, OwnI.nil _ _, h⟩
theorem OwnI.grow {W : World} {base : Nat} {v : Value} {zs : List Int} (h : OwnI W base v zs) : ∀ q, v.ownBlock = some q → base ≤ q := fun q hq => (World.ownsRow.lt h q hq).1
theorem OwnI.at_ {w : World} {base n c : Nat} {b : Option Addr} {zs : List Int} (h : OwnI w base (.slice b n c) zs) : IsInts w b zs := by
  obtain ⟨b', c', e, hi⟩ := OwnI.ints h
  injection e with e1 e2 e3
  subst e1; exact hi
theorem OwnI.len_ {w : World} {base n c : Nat} {b : Option Addr} {zs : List Int} (h : OwnI w base (.slice b n c) zs) : n = zs.length := by
  obtain ⟨b', c', e, hi⟩ := OwnI.ints h
  injection e with e1 e2 e3
theorem OwnI.apart {w w' : World} {base : Nat} {v : Value} {zs : List Int} {row : Option Nat} (h : OwnI w base v zs) (hg : w.grownBy w' row) (hr : ∀ q, row = some q → q < base) : OwnI w' base v zs :=
  World.ownsRow.kept h hg (by
    cases e : v.ownBlock with
    | none => exact .inl rfl
    | some k =>
      refine .inr (fun c => ?_)
      have a := hr k c.symm
      have b := (World.ownsRow.lt h k e).1
      omega)
theorem below_gv {w a b : World} {row : Option Nat} (h : Below w.heap.size w a) (hG : a.grownBy b row) (hg : ∀ q, row = some q → w.heap.size ≤ q) : Below w.heap.size w b := h.grown hG h.size hg
theorem vals_set (zs : List Int) (j : Nat) (z : Int) : (zs.map (Value.int .i64)).set j (.int .i64 z) = (zs.set j z).map (Value.int .i64) := by rw [List.map_set]
theorem OwnI.of_row {w : World} {base g n : Nat} {f : Nat → Value} {zs : List Int} (h : w.rowIs g 3 n f) (hl : zs.length = n) (hf : ∀ j, j < n → f j = .int .i64 (zs.getD j 0)) (hb : base ≤ g) (hn : n ≤ 1048576) : OwnI w base (.slice (some ⟨g, 0, none⟩) n n) zs := by
  obtain ⟨cs, hh, hs, hc⟩ := h
  refine ⟨by simp, .inr ⟨g, n, cs, by rw [hl], hb, hh, by omega, by unfold maxLen; omega, by omega, ?_⟩⟩
  apply List.ext_getElem?
  intro j
  rw [List.getElem?_take, List.getElem?_map]
  by_cases e : j < zs.length
  · rw [if_pos (by omega), Array.getElem?_toList, hc j (by omega), hf j (by omega), List.getD_eq_getElem?_getD, List.getElem?_eq_getElem e]; rfl
  · rw [if_neg (by omega), List.getElem?_eq_none (by omega)]; rfl
theorem OwnI.made {w W : World} (h : Below w.heap.size w W) (n : Nat) (hn : n ≤ 1048576) : OwnI (W.alloc (.cells (madeCells #[.int .i64 0] n) 3)) w.heap.size (.slice (some ⟨W.heap.size, 0, none⟩) n n) (List.replicate n 0) :=
  OwnI.of_row (World.rowIs_made W (.int .i64 0) n 3) (List.length_replicate ..) (fun j hj => by rw [List.getD_eq_getElem?_getD, List.getElem?_replicate, if_pos hj]; rfl) h.size hn
theorem OwnI.set_ {w : World} {base g n c : Nat} {zs : List Int} (h : OwnI w base (.slice (some ⟨g, 0, none⟩) n c) zs) (j : Nat) (z : Int) : OwnI (w.setCell ⟨g, j, none⟩ (.int .i64 z)) base (.slice (some ⟨g, 0, none⟩) n c) (zs.set j z) := by
  obtain rfl := h.len_
  have a := (World.ownsRow.stored h j (.int .i64 z)).1
  rw [vals_set] at a
  unfold OwnI
  rw [List.length_set]; exact a
theorem OwnI.cell {w : World} {base g n c : Nat} {zs : List Int} (h : OwnI w base (.slice (some ⟨g, 0, none⟩) n c) zs) {j : Nat} (hj : j < zs.length) : w.cell? ⟨g, j, none⟩ = some (.int .i64 (zs.getD j 0)) := by
  rcases h.at_ with e | ⟨g', o', e, hc⟩
  · rw [e] at hj; simp at hj
  · injection e with e; injection e with e1 e2 e3; subst e1 e2
    have := hc j hj; rw [Nat.zero_add] at this; exact this
theorem OwnI.frozen {w : World} {base g n c : Nat} {zs : List Int} (h : OwnI w base (.slice (some ⟨g, 0, none⟩) n c) zs) (j : Nat) : w.frozen? ⟨g, j, none⟩ = false := by
  obtain rfl := h.len_
  exact World.ownsRow.frozenAt h j
theorem OwnI.blk {w : World} {base g n c : Nat} {zs : List Int} (h : OwnI w base (.slice (some ⟨g, 0, none⟩) n c) zs) : base ≤ g ∧ g < w.heap.size := World.ownsRow.lt h g rfl
/-- the first k of some numbers, and 0 behind them -/
def mixZ (zs : List Int) (k : Nat) : List Int := (List.range zs.length).map fun i => if i < k then zs.getD i 0 else 0
theorem mix_len (zs : List Int) (k : Nat) : (mixZ zs k).length = zs.length := by unfold mixZ; simp
theorem mix_get (zs : List Int) (k : Nat) {i : Nat} (h : i < zs.length) : (mixZ zs k).getD i 0 = if i < k then zs.getD i 0 else 0 := by
  unfold mixZ
  rw [List.getD_eq_getElem?_getD, List.getElem?_map, List.getElem?_range h]; rfl
theorem mix_all {zs : List Int} {k : Nat} (h : zs.length ≤ k) : mixZ zs k = zs := by
  refine ext_z (mix_len zs k) (fun i hi => ?_)
  rw [mix_len] at hi
  rw [mix_get zs k hi, if_pos (by omega)]
theorem mix_none {zs : List Int} {k : Nat} (h : ∀ i, i < k → i < zs.length → zs.getD i 0 = 0) : mixZ zs k = List.replicate zs.length 0 := by
  refine ext_z (by rw [mix_len, List.length_replicate]) (fun i hi => ?_)
  rw [mix_len] at hi
  have e : (List.replicate zs.length (0 : Int)).getD i 0 = 0 := by rw [List.getD_eq_getElem?_getD, List.getElem?_replicate, if_pos hi]; rfl
  rw [mix_get zs k hi, e]
  split
  · rename_i c; exact h i c hi
  · rfl
theorem mix_set {zs : List Int} {k : Nat} (h : k < zs.length) : (mixZ zs k).set k (zs.getD k 0) = mixZ zs (k + 1) := by
  refine ext_z (by rw [List.length_set, mix_len, mix_len]) (fun i hi => ?_)
  rw [List.length_set, mix_len] at hi
  rw [getD_setZ i _ (by rw [mix_len]; exact h), mix_get zs k hi, mix_get zs (k + 1) hi]
  by_cases e : i = k
  · subst e; rw [if_pos rfl, if_pos (by omega)]
  · rw [if_neg e]
    by_cases c : i < k
    · rw [if_pos c, if_pos (by omega)]
    · rw [if_neg c, if_neg (by omega)]
theorem g_set2 {w wr : World} {g j : Nat} {v : Value} (h : w.grownBy wr (some g)) : w.grownBy (wr.setCell ⟨g, j, none⟩ v) (some g) :=
  ⟨h.os, h.tape, h.output, by simpa [World.setCell] using h.size, fun i hi hne => (Below.heap_setCell wr ⟨g, j, none⟩ v i (by rintro rfl; exact hne rfl)).trans (h.block i hi hne)⟩
theorem g_of {w w' : World} (h : Below w.heap.size w w') (row : Option Nat) : w.grownBy w' row := ⟨h.os, h.tape, h.output, h.size, fun i hi _ => h.block i hi⟩
theorem below_g {w a b : World} {g : Nat} (h : Below w.heap.size w a) (hG : a.grownBy b (some g)) (hg : w.heap.size ≤ g) : Below w.heap.size w b := h.grown hG h.size (fun q hq => by injection hq with hq; omega)
theorem OwnI.far {w : World} {base : Nat} {v : Value} {zs : List Int} (h : OwnI w base v zs) {g j : Nat} (hp : v.ownBlock ≠ some g) (u : Value) : OwnI (w.setCell ⟨g, j, none⟩ u) base v zs :=
  World.ownsRow.kept h (g_set2 (g_of (Below.refl _ _) _)) (.inr hp)
theorem OwnI.grown {w w' : World} {base : Nat} {v : Value} {zs : List Int} {row : Option Nat} (h : OwnI w base v zs) (hg : w.grownBy w' row) (hp : v.ownBlock ≠ row) : OwnI w' base v zs := World.ownsRow.kept h hg (.inr hp)
theorem grown_alloc {w w' : World} {o : Obj} {row : Option Nat} (h : (w.alloc o).grownBy w' row) : w.grownBy w' row :=
  ⟨h.os, h.tape, h.output, Nat.le_trans (by rw [World.size_alloc]; omega) h.size, fun i hi hne => (h.block i (by rw [World.size_alloc]; omega) hne).trans (Below.heap_alloc w o i hi)⟩
theorem row_apart {w w' : World} {g g' : Nat} {zs : List Int} (h : Row w g zs) (hG : w.grownBy w' (some g')) (hne : g ≠ g') : Row w' g zs :=
  World.rowIs.of_block h (hG.block g (World.rowIs.lt h) (fun e => by injection e with e; exact hne e))
theorem OwnI.form_ {w : World} {base n c : Nat} {b : Option Addr} {zs : List Int} (h : OwnI w base (.slice b n c) zs) (hl : 0 < zs.length) : ∃ g, b = some ⟨g, 0, none⟩ ∧ base ≤ g := by
  obtain rfl := h.len_
  obtain ⟨g, cap, hv, hg, _⟩ := World.ownsRow.form h hl
  injection hv with e1 e2 e3
  exact ⟨g, e1, hg⟩
/-- one number more behind a row of the call's own -/
theorem wp_snoc {ops : Array Oper} {rest : List Oper} {o : Oper} {a : Act} {Q : Exit → Act → World → Prop} (hgd : o.guard = none) (s x : Operand)
    (ho : o.op = .call { callee := .builtin .append, args := #[s, x], argTypes := #[31, 31] })
    {W : World} {base : Nat} {v : Value} {zs : List Int} {z : Int} (hs : a.eval s = v) (hown : OwnI W base v zs) {g : Nat} (hx : a.eval x = .slice (some ⟨g, 0, none⟩) 1 1) (hg : W.heap.size = g) (hn : zs.length ≤ 1048576) (hbase : base ≤ W.heap.size)
    (h : ∀ v' w', OwnI w' base v' (zs ++ [z]) → W.grownBy w' v.ownBlock → (v'.ownBlock = v.ownBlock ∨ ∃ q, v'.ownBlock = some q ∧ W.heap.size ≤ q) → wpList Try.prog ops Q rest (a.put o.dst v') w') :
    wpList Try.prog ops Q (o :: rest) a (W.alloc (.cells #[.int .i64 z] 3)) := by
  subst hg
  obtain ⟨i0, hi, hz0, hz1, hz2⟩ := info_parts infoInt
  refine wpList_append_own_at _ hgd s x 31 ho base 3 i0 (.int .i64 0) 1 8 Try.underlying31 hi hz0 hz1 hz2 rfl (by decide) v zs.length _ hs (World.ownsRow.alloc hown _) ⟨W.heap.size, 0, none⟩ 1 1 [.int .i64 z] hx rfl (cell_one_new _ _ _) (fun x hx => by simp at hx; subst hx; rfl) (by unfold maxLen; omega) (by omega) (by rw [World.size_alloc]; omega) ?_
  intro v' w' h1 h2 _ h4
  refine h v' w' (OwnI.snoc h1) (grown_alloc h2) ?_
  rcases h4 with h4 | h4
  · exact .inl h4
  · exact .inr ⟨_, h4, by rw [World.size_alloc]; omega⟩
/-- a row keeps apart from one that grew -/
theorem own_apart2 {W : World} {base : Nat} {u v v' : Value} {us : List Int} (hu : OwnI W base u us) (h : v'.ownBlock = v.ownBlock ∨ ∃ q, v'.ownBlock = some q ∧ W.heap.size ≤ q) (hne : u.ownBlock ≠ v.ownBlock) (hs : u.ownBlock ≠ none) : u.ownBlock ≠ v'.ownBlock := by
  rcases h with h | ⟨q, h, hq⟩
  · rw [h]; exact hne
  · rw [h]
    cases e : u.ownBlock with
    | none => exact absurd e hs
    | some k =>
      have := (World.ownsRow.lt hu k e).2
      intro c; injection c with c; omega
end Go.Proofs.Ytfcgjiciobfncaa
namespace Go.Proofs.Ytfcgjiciobfncaa
open Go.RowKit

theorem block_of_add (a : Addr) (n : Nat) : (a.add n).block = a.block := by unfold Addr.add; split <;> rfl
theorem add_of_add (a : Addr) (i j : Nat) : (a.add i).add j = a.add (i + j) := by
  unfold Addr.add
  by_cases hi : i = 0 <;> by_cases hj : j = 0 <;> simp [hi, hj, Nat.add_assoc]

def Reads (w : World) (B size : Nat) (A : Option Addr) (n : Nat) (xs : List Value) : Prop :=
  xs.length = n * size ∧ (0 < n → ∃ ad, A = some ad ∧ ad.block < B ∧ ∀ j u, xs[j]? = some u → w.cell? (ad.add j) = some u)

section
variable {w w' : World} {B B' size n : Nat} {A : Option Addr} {xs : List Value}
theorem Reads.none_ : Reads w B size A 0 [] := ⟨by simp, fun h => absurd h (by omega)⟩
theorem Reads.at_ {k : Nat} (h : Reads w B 1 A n xs) (hk : k < n) : ∃ ad u, A = some ad ∧ ad.block < B ∧ xs[k]? = some u ∧ w.cell? (ad.add k) = some u := by
  obtain ⟨ad, e, hb, hc⟩ := h.2 (by omega)
  have hl : k < xs.length := by have := h.1; omega
  exact ⟨ad, xs[k], e, hb, List.getElem?_eq_getElem hl, hc k _ (List.getElem?_eq_getElem hl)⟩
theorem Reads.keep (h : Reads w B size A n xs) (hk : ∀ p : Addr, p.block < B → w'.cell? p = w.cell? p) : Reads w' B size A n xs :=
  ⟨h.1, fun hn => by
    obtain ⟨ad, e, hb, hc⟩ := h.2 hn
    exact ⟨ad, e, hb, fun j u hu => (hk _ (by rw [block_of_add]; exact hb)).trans (hc j u hu)⟩⟩
theorem Reads.more (h : Reads w B size A n xs) (hB : B ≤ B') : Reads w B' size A n xs :=
  ⟨h.1, fun hn => by
    obtain ⟨ad, e, hb, hc⟩ := h.2 hn
    exact ⟨ad, e, by omega, hc⟩⟩
theorem Reads.below (h : Reads w B size A n xs) (hb : Below B w w') : Reads w' B size A n xs := h.keep fun _ hp => hb.cell hp
theorem Reads.drew (h : Reads w B size A n xs) : Reads w.drew B size A n xs := h
theorem Reads.drewN (h : Reads w B size A n xs) (k : Nat) : Reads (w.drewN k) B size A n xs := h
theorem Reads.alloc (h : Reads w B size A n xs) (hB : B ≤ w.heap.size) (o : Obj) : Reads (w.alloc o) B size A n xs := h.keep fun p hp => World.cell?_alloc_lt w o p (by omega)
theorem Reads.setCell (h : Reads w B size A n xs) {p : Addr} (hB : B ≤ p.block) (u : Value) : Reads (w.setCell p u) B size A n xs :=
  h.keep fun q hq => World.cell?_setCell_other w p q u (fun e => by subst e; omega)
theorem Reads.grown (h : Reads w B size A n xs) {row : Option Nat} (hg : w.grownBy w' row) (hB : B ≤ w.heap.size) (hr : ∀ g, row = some g → B ≤ g) : Reads w' B size A n xs :=
  h.keep fun p hp => World.cell?_of_block (hg.block p.block (by omega) (fun e => by have := hr _ e.symm; omega))
theorem Reads.cut (h : Reads w B size A n xs) {k cap : Nat} (hk : k ≤ n) (hc : n ≤ cap) :
    Reads w B size (if cap = k then A else A.map (·.add (k * size))) (n - k) (xs.drop (k * size)) := by
  refine ⟨by rw [List.length_drop, h.1, Nat.sub_mul], fun hn => ?_⟩
  obtain ⟨ad, rfl, hb, hcell⟩ := h.2 (by omega)
  rw [if_neg (by omega)]
  refine ⟨ad.add (k * size), rfl, by rw [block_of_add]; exact hb, fun j u hu => ?_⟩
  rw [add_of_add]
  exact hcell _ u (by rw [← hu, List.getElem?_drop])
theorem Reads.of_own {base : Nat} {e : TypeId} {c : Nat} (h : w.ownsRow base e size (.slice A n c) n xs) : Reads w w.heap.size size A n xs := by
  refine ⟨h.1, fun hn => ?_⟩
  obtain ⟨g, cap, hv, _, hlt⟩ := h.form hn
  have hA : A = some ⟨g, 0, none⟩ := by injection hv
  subst hA
  exact ⟨_, rfl, hlt, h.cells (g := g) rfl⟩
end

section
variable {P : Program} (w : World)

theorem run_append_of_nil (base : Nat) (t ty e : TypeId) (i : TypeInfo) (size : Nat) (ht : P.underlying t = some (.slice e)) (hi : P.info? e = some i)
    (v : Value) (n : Nat) (xs : List Value) (hown : w.ownsRow base e size v n xs) (c : Nat) : (Builtin.append_ #[t, t] ty #[v, .slice none 0 c]).run P w = .ok v w := by
  rcases hown.2 with ⟨rfl, rfl⟩ | ⟨g, cap, cur, rfl, _, _, hnc, _⟩
  · simp [Builtin.append_, run_underlying ht, sizeOf, typeInfo, hi, Builtin.lenOf, Builtin.firstCells]
  · simp [Builtin.append_, run_underlying ht, sizeOf, typeInfo, hi, Builtin.lenOf, Builtin.firstCells, hnc, storeCells]

theorem run_append_any (base : Nat) (t ty e : TypeId) (i : TypeInfo) (z : Value) (size bytes : Nat) (ht : P.underlying t = some (.slice e)) (hi : P.info? e = some i) (hz : i.zero = some z)
    (hsize : i.size = size) (hby : i.bytes = bytes) (hzs : z.cells.size = size) (hsz : 0 < size)
    (v : Value) (n : Nat) (xs : List Value) (hown : w.ownsRow base e size v n xs)
    (B : Nat) (A : Option Addr) (m c : Nat) (news : List Value) (hr : Reads w B size A m news) (h1 : ∀ u ∈ news, u.oneCell' = true)
    (h63 : n + m ≤ maxLen) (hbytes : (n + m) * bytes ≤ 140737488355328) (hbase : base ≤ w.heap.size) :
    ∃ v' w', (Builtin.append_ #[t, t] ty #[v, .slice A m c]).run P w = .ok v' w' ∧ w'.ownsRow base e size v' (n + m) (xs ++ news) ∧ w.grownBy w' v.ownBlock ∧
      (v'.ownBlock = v.ownBlock ∨ v'.ownBlock = some w.heap.size) := by
  rcases A with _ | ad
  · have hm : m = 0 := by
      rcases Nat.eq_zero_or_pos m with h0 | h0
      · exact h0
      · obtain ⟨ad, h, _⟩ := hr.2 h0
        cases h
    subst hm
    have hn : news = [] := List.eq_nil_of_length_eq_zero (by simpa using hr.1)
    subst hn
    exact ⟨v, w, run_append_of_nil w base t ty e i size ht hi v n xs hown c, by simpa using hown, World.grownBy.refl w _, .inl rfl⟩
  · have hcells : ∀ j u, news[j]? = some u → w.cell? (ad.add j) = some u := by
      intro j u hu
      rcases Nat.eq_zero_or_pos m with h0 | h0
      · subst h0
        have hn : news = [] := List.eq_nil_of_length_eq_zero (by simpa using hr.1)
        subst hn
        simp at hu
      · obtain ⟨ad', h, _, hc⟩ := hr.2 h0
        injection h with h
        subst h
        exact hc j u hu
    obtain ⟨v', w', hrun, h2, h3, _, h5⟩ := run_append_own_at (P := P) w base t ty e i z size bytes ht hi hz hsize hby hzs hsz v n xs hown ad m c news hr.1 hcells h1 h63 hbytes hbase
    exact ⟨v', w', hrun, h2, h3, h5⟩

theorem wp_append_any {o : Oper} {a : Act} {K : Act → World → Prop} {Q : Exit → Act → World → Prop} (s x : Operand) (t : TypeId)
    (ho : o.op = .call { callee := .builtin .append, args := #[s, x], argTypes := #[t, t] })
    (base : Nat) (e : TypeId) (i : TypeInfo) (z : Value) (size bytes : Nat) (ht : P.underlying t = some (.slice e)) (hi : P.info? e = some i) (hz : i.zero = some z)
    (hsize : i.size = size) (hby : i.bytes = bytes) (hzs : z.cells.size = size) (hsz : 0 < size)
    (v : Value) (n : Nat) (xs : List Value) (hs : a.eval s = v) (hown : w.ownsRow base e size v n xs)
    (B : Nat) (A : Option Addr) (m c : Nat) (news : List Value) (hx : a.eval x = .slice A m c) (hr : Reads w B size A m news) (h1 : ∀ u ∈ news, u.oneCell' = true)
    (h63 : n + m ≤ maxLen) (hbytes : (n + m) * bytes ≤ 140737488355328) (hbase : base ≤ w.heap.size)
    (h : ∀ v' w', w'.ownsRow base e size v' (n + m) (xs ++ news) → w.grownBy w' v.ownBlock → (v'.ownBlock = v.ownBlock ∨ v'.ownBlock = some w.heap.size) → K (a.put o.dst v') w') : o.wp P a w K Q := by
  obtain ⟨v', w', hrun, h2, h3, h4⟩ := run_append_any (P := P) w base t o.type e i z size bytes ht hi hz hsize hby hzs hsz v n xs hown B A m c news hr h1 h63 hbytes hbase
  unfold Oper.wp execOp
  simp only [ho, resolve, invoke, builtin, Sem.run_bind, Sem.run_pure, Result.andThen_ok, List.map_toArray, List.map_cons, List.map_nil, hs, hx, hrun]
  exact h v' w' h2 h3 h4

theorem wpList_append_any {ops : Array Oper} {rest : List Oper} {o : Oper} {a : Act} {Q : Exit → Act → World → Prop} (hgd : o.guard = none) (s x : Operand) (t : TypeId)
    (ho : o.op = .call { callee := .builtin .append, args := #[s, x], argTypes := #[t, t] })
    (base : Nat) (e : TypeId) (i : TypeInfo) (z : Value) (size bytes : Nat) (ht : P.underlying t = some (.slice e)) (hi : P.info? e = some i) (hz : i.zero = some z)
    (hsize : i.size = size) (hby : i.bytes = bytes) (hzs : z.cells.size = size) (hsz : 0 < size)
    (v : Value) (n : Nat) (xs : List Value) (hs : a.eval s = v) (hown : w.ownsRow base e size v n xs)
    (B : Nat) (A : Option Addr) (m c : Nat) (news : List Value) (hx : a.eval x = .slice A m c) (hr : Reads w B size A m news) (h1 : ∀ u ∈ news, u.oneCell' = true)
    (h63 : n + m ≤ maxLen) (hbytes : (n + m) * bytes ≤ 140737488355328) (hbase : base ≤ w.heap.size)
    (h : ∀ v' w', w'.ownsRow base e size v' (n + m) (xs ++ news) → w.grownBy w' v.ownBlock → (v'.ownBlock = v.ownBlock ∨ v'.ownBlock = some w.heap.size) → wpList P ops Q rest (a.put o.dst v') w') : wpList P ops Q (o :: rest) a w :=
  wpList_plain hgd fun _ hK => wp_append_any w s x t ho base e i z size bytes ht hi hz hsize hby hzs hsz v n xs hs hown B A m c news hx hr h1 h63 hbytes hbase fun v' w' h2 h3 h4 => hK _ _ (h v' w' h2 h3 h4)

theorem step_append_any {ops : Array Oper} {o : Oper} {a : Act} {K : Act → World → Prop} {Q : Exit → Act → World → Prop} {E : Prop} (hgd : o.guard = none) (s x : Operand) (t : TypeId)
    (ho : o.op = .call { callee := .builtin .append, args := #[s, x], argTypes := #[t, t] })
    (base : Nat) (e : TypeId) (i : TypeInfo) (z : Value) (size bytes : Nat) (ht : P.underlying t = some (.slice e)) (hi : P.info? e = some i) (hz : i.zero = some z)
    (hsize : i.size = size) (hby : i.bytes = bytes) (hzs : z.cells.size = size) (hsz : 0 < size)
    (v : Value) (n : Nat) (xs : List Value) (hs : a.eval s = v) (hown : w.ownsRow base e size v n xs)
    (B : Nat) (A : Option Addr) (m c : Nat) (news : List Value) (hx : a.eval x = .slice A m c) (hr : Reads w B size A m news) (h1 : ∀ u ∈ news, u.oneCell' = true)
    (h63 : n + m ≤ maxLen) (hbytes : (n + m) * bytes ≤ 140737488355328) (hbase : base ≤ w.heap.size)
    (h : ∀ v' w', w'.ownsRow base e size v' (n + m) (xs ++ news) → w.grownBy w' v.ownBlock → (v'.ownBlock = v.ownBlock ∨ v'.ownBlock = some w.heap.size) → K (a.put o.dst v') w') :
    if Region.wanted o (yielded ops a.tmps) = true then Oper.wp P o a w K Q else E := by
  have hw : Region.wanted o (yielded ops a.tmps) = true := by simp [Region.wanted, hgd]
  rw [if_pos hw]
  exact wp_append_any w s x t ho base e i z size bytes ht hi hz hsize hby hzs hsz v n xs hs hown B A m c news hx hr h1 h63 hbytes hbase h
end

theorem ints_reads {w : World} {a : Option Addr} {zs : List Int} (h : IsInts w a zs) : Reads w w.heap.size 1 a zs.length (zs.map (Value.int .i64)) := by
  refine ⟨by simp, fun hn => ?_⟩
  rcases h with rfl | ⟨g, o, rfl, hc⟩
  · simp at hn
  · refine ⟨⟨g, o, none⟩, rfl, World.block_lt_of_cell? w _ (hc 0 hn), fun j u hu => ?_⟩
    have hj : j < zs.length := by
      rcases Nat.lt_or_ge j zs.length with h | h
      · exact h
      · rw [List.getElem?_eq_none (by simpa using h)] at hu; cases hu
    rw [List.getElem?_map, List.getElem?_eq_getElem hj] at hu
    have := hc j hj
    rw [List.getD_eq_getElem?_getD, List.getElem?_eq_getElem hj] at this
    simp only [Option.map_some, Option.some.injEq] at hu
    rw [← hu]
    have e : (⟨g, o, none⟩ : Addr).add j = ⟨g, o + j, none⟩ := by
      unfold Addr.add
      by_cases h : j = 0
      · subst h; simp
      · simp [h]
    rw [e]; exact this
/-- a list of numbers behind a row of the call's own -/
theorem wp_joinI {ops : Array Oper} {rest : List Oper} {o : Oper} {a : Act} {Q : Exit → Act → World → Prop} (hgd : o.guard = none) (s x : Operand)
    (ho : o.op = .call { callee := .builtin .append, args := #[s, x], argTypes := #[31, 31] })
    {W : World} {base : Nat} {v : Value} {zs ys : List Int} {A : Option Addr} {m c : Nat} (hs : a.eval s = v) (hown : OwnI W base v zs) (hx : a.eval x = .slice A m c) (hm : m = ys.length) (hy : IsInts W A ys) (hn : zs.length + ys.length ≤ 1048576) (hbase : base ≤ W.heap.size)
    (h : ∀ v' w', OwnI w' base v' (zs ++ ys) → W.grownBy w' v.ownBlock → (v'.ownBlock = v.ownBlock ∨ v'.ownBlock = some W.heap.size) → wpList Try.prog ops Q rest (a.put o.dst v') w') :
    wpList Try.prog ops Q (o :: rest) a W := by
  subst hm
  obtain ⟨i0, hi, hz0, hz1, hz2⟩ := info_parts infoInt
  refine wpList_append_any (P := Try.prog) W hgd s x 31 ho base 3 i0 (.int .i64 0) 1 8 Try.underlying31 hi hz0 hz1 hz2 rfl (by decide) v zs.length _ hs hown W.heap.size A ys.length c _ hx (ints_reads hy) (fun u hu => by obtain ⟨z, _, rfl⟩ := List.mem_map.1 hu; rfl) (by unfold maxLen; omega) (by omega) hbase ?_
  intro v' w' h1 h2 h3
  refine h v' w' ?_ h2 h3
  unfold OwnI; rw [List.length_append, List.map_append]; exact h1
end Go.Proofs.Ytfcgjiciobfncaa
namespace Go.Proofs.Ytfcgjiciobfncaa
open Go.RowKit

/-- the cells of holdings -/
def valsH (hs : List Hd) : List Value := (flatH hs).map (Value.int .i64)
theorem vals_len (hs : List Hd) : (valsH hs).length = hs.length * 3 := by unfold valsH; rw [List.length_map, flat_len]
theorem vals_append (a b : List Hd) : valsH (a ++ b) = valsH a ++ valsH b := by unfold valsH; rw [flat_append, List.map_append]
theorem vals_take (hs : List Hd) (k : Nat) : (valsH hs).take (k * 3) = valsH (hs.take k) := by unfold valsH; rw [← List.map_take, flat_take]
theorem vals_drop (hs : List Hd) (k : Nat) : (valsH hs).drop (k * 3) = valsH (hs.drop k) := by unfold valsH; rw [← List.map_drop, flat_drop]
theorem vals_one (hs : List Hd) : ∀ u ∈ valsH hs, u.oneCell' = true := fun u hu => by
  unfold valsH at hu
  obtain ⟨z, _, rfl⟩ := List.mem_map.1 hu
  rfl
theorem vals_get {hs : List Hd} {k : Nat} (h : k < hs.length) : (valsH hs)[k * 3]? = some (.int .i64 (hs.getD k hd0).1) ∧ (valsH hs)[k * 3 + 1]? = some (.int .i64 (hs.getD k hd0).2.1) ∧ (valsH hs)[k * 3 + 2]? = some (.int .i64 (hs.getD k hd0).2.2) := by
  obtain ⟨a, b, c⟩ := flat_get hs k h
  have hl := flat_len hs
  have get : ∀ j, j < (flatH hs).length → (valsH hs)[j]? = some (.int .i64 ((flatH hs).getD j 0)) := fun j hj => by
    unfold valsH
    rw [List.getElem?_map, List.getElem?_eq_getElem hj, List.getD_eq_getElem?_getD, List.getElem?_eq_getElem hj]; rfl
  rw [get _ (by omega), get _ (by omega), get _ (by omega), a, b, c]
  exact ⟨rfl, rfl, rfl⟩
theorem add_off (g o j : Nat) : (⟨g, o, none⟩ : Addr).add j = ⟨g, o + j, none⟩ := by
  unfold Addr.add
  by_cases h : j = 0
  · subst h; simp
  · simp [h]
theorem hs_reads {w : World} {a : Option Addr} {hs : List Hd} (h : IsHs w a hs) : Reads w w.heap.size 3 a hs.length (valsH hs) := by
  refine ⟨vals_len hs, fun hn => ?_⟩
  rcases h with rfl | ⟨g, o, rfl, hc⟩
  · exact absurd hn (by simp)
  · refine ⟨⟨g, o, none⟩, rfl, ?_, fun j u hu => ?_⟩
    · exact World.block_lt_of_cell? w _ (hc 0 hn).1
    · have hl := vals_len hs
      have hj : j < (valsH hs).length := by
        rcases Nat.lt_or_ge j (valsH hs).length with h | h
        · exact h
        · rw [List.getElem?_eq_none h] at hu; cases hu
      have hk : j / 3 < hs.length := by omega
      obtain ⟨c0, c1, c2⟩ := hc _ hk
      obtain ⟨v0, v1, v2⟩ := vals_get hk
      have hm : j % 3 = 0 ∨ j % 3 = 1 ∨ j % 3 = 2 := by omega
      rw [add_off]
      rcases hm with e | e | e
      · have ej : j = j / 3 * 3 := by omega
        rw [ej] at hu ⊢; rw [v0] at hu; rw [c0, ← hu]
      · have ej : j = j / 3 * 3 + 1 := by omega
        rw [ej] at hu ⊢; rw [v1] at hu; rw [← Nat.add_assoc, c1, ← hu]
      · have ej : j = j / 3 * 3 + 2 := by omega
        rw [ej] at hu ⊢; rw [v2] at hu; rw [← Nat.add_assoc, c2, ← hu]
theorem reads_hs {w : World} {B : Nat} {a : Option Addr} {hs : List Hd} (h : Reads w B 3 a hs.length (valsH hs)) (hsp : ∀ ad, a = some ad → ad.spot = none) : IsHs w a hs := by
  by_cases hn : hs = []
  · exact .inl hn
  · obtain ⟨ad, rfl, _, hc⟩ := h.2 (by cases hs with | nil => exact absurd rfl hn | cons _ _ => simp)
    obtain ⟨g, o, sp⟩ := ad
    obtain rfl : sp = none := hsp _ rfl
    refine .inr ⟨g, o, rfl, fun i hi => ?_⟩
    obtain ⟨v0, v1, v2⟩ := vals_get hi
    have e0 := hc _ _ v0
    have e1 := hc _ _ v1
    have e2 := hc _ _ v2
    rw [add_off] at e0 e1 e2
    rw [← Nat.add_assoc] at e1 e2
    exact ⟨e0, e1, e2⟩
theorem hs_take {w : World} {g o : Nat} {hs : List Hd} (hc : ∀ i, i < hs.length → w.cell? ⟨g, o + i * 3, none⟩ = some (.int .i64 (hs.getD i hd0).1) ∧ w.cell? ⟨g, o + i * 3 + 1, none⟩ = some (.int .i64 (hs.getD i hd0).2.1) ∧ w.cell? ⟨g, o + i * 3 + 2, none⟩ = some (.int .i64 (hs.getD i hd0).2.2)) (k : Nat) : IsHs w (some ⟨g, o, none⟩) (hs.take k) := by
  refine .inr ⟨g, o, rfl, fun i hi => ?_⟩
  rw [List.length_take] at hi
  have e : (hs.take k).getD i hd0 = hs.getD i hd0 := by
    rw [List.getD_eq_getElem?_getD, List.getD_eq_getElem?_getD, List.getElem?_take_of_lt (by omega)]
  rw [e]; exact hc i (by omega)
/-- where a holding that is built anew lies -/
theorem new_cells (w : World) (cs : List Value) (t : TypeId) : ∀ j u, cs[j]? = some u → (w.alloc (.cells cs.toArray t)).cell? ((⟨w.heap.size, 0, none⟩ : Addr).add j) = some u := fun j u hu => by
  rw [add_off, Nat.zero_add, (Blk.new w t cs.toArray).cell j, ← hu]; simp
end Go.Proofs.Ytfcgjiciobfncaa
namespace Go.Proofs.Ytfcgjiciobfncaa
open Go.RowKit

/-- block g begins with the numbers zs, and may be written -/
def Flat (w : World) (g : Nat) (t : TypeId) (zs : List Int) : Prop := ∃ cs : Array Value, w.heap[g]? = some (.cells cs t (0, 0)) ∧ ∀ j, j < zs.length → cs[j]? = some (.int .i64 (zs.getD j 0))
theorem Flat.cell {w : World} {g : Nat} {t : TypeId} {zs : List Int} (h : Flat w g t zs) {j : Nat} (hj : j < zs.length) : w.cell? ⟨g, j, none⟩ = some (.int .i64 (zs.getD j 0)) := by
  obtain ⟨cs, hb, hc⟩ := h
  rw [cell_of_row w g j cs t (0, 0) hb]; exact hc j hj
theorem Flat.frozen {w : World} {g : Nat} {t : TypeId} {zs : List Int} (h : Flat w g t zs) (j : Nat) : w.frozen? ⟨g, j, none⟩ = false := by
  obtain ⟨cs, hb, hc⟩ := h
  simp [World.frozen?, hb]
theorem Flat.lt {w : World} {g : Nat} {t : TypeId} {zs : List Int} (h : Flat w g t zs) : g < w.heap.size := by
  obtain ⟨cs, hb, hc⟩ := h
  exact Blk.lt hb
theorem Flat.of_block {w w' : World} {g : Nat} {t : TypeId} {zs : List Int} (h : Flat w g t zs) (e : w'.heap[g]? = w.heap[g]?) : Flat w' g t zs := by
  obtain ⟨cs, hb, hc⟩ := h
  exact ⟨cs, e.trans hb, hc⟩
theorem Flat.next {w w' : World} {g : Nat} {t : TypeId} {zs : List Int} (h : Flat w g t zs) (hb : Below w.heap.size w w') : Flat w' g t zs := h.of_block (hb.block g h.lt)
theorem Flat.apart {w w' : World} {g g' : Nat} {t : TypeId} {zs : List Int} (h : Flat w g t zs) (hG : w.grownBy w' (some g')) (hne : g ≠ g') : Flat w' g t zs :=
  h.of_block (hG.block g h.lt (fun e => by injection e with e; exact hne e))
theorem getD_setF {zs : List Int} {i j : Nat} {z : Int} (hi : i < zs.length) : (zs.set i z).getD j 0 = if j = i then z else zs.getD j 0 := by
  rw [List.getD_eq_getElem?_getD, List.getD_eq_getElem?_getD, List.getElem?_set]
  by_cases e : i = j
  · subst e; rw [if_pos rfl, if_pos hi, if_pos rfl]; rfl
  · rw [if_neg e, if_neg (fun c => e c.symm)]
theorem Flat.set_ {w : World} {g : Nat} {t : TypeId} {zs : List Int} (h : Flat w g t zs) {i : Nat} (hi : i < zs.length) (z : Int) : Flat (w.setCell ⟨g, i, none⟩ (.int .i64 z)) g t (zs.set i z) := by
  obtain ⟨cs, hb, hc⟩ := h
  refine ⟨cs.setIfInBounds i (.int .i64 z), Blk.set_ hb i _, fun j hj => ?_⟩
  rw [List.length_set] at hj
  have hs : i < cs.size := by
    have := hc i hi
    rcases Nat.lt_or_ge i cs.size with h | h
    · exact h
    · rw [Array.getElem?_eq_none h] at this; cases this
  rw [Array.getElem?_setIfInBounds, getD_setF hi]
  by_cases e : i = j
  · subst e; rw [if_pos rfl, if_pos hs, if_pos rfl]
  · rw [if_neg e, if_neg (fun c => e c.symm)]; exact hc j hj
theorem Flat.row {w : World} {g : Nat} {t : TypeId} {n : Nat} {f : Nat → Value} {zs : List Int} (h : w.rowIs g t n f) (hl : zs.length ≤ n) (hf : ∀ j, j < zs.length → f j = .int .i64 (zs.getD j 0)) : Flat w g t zs := by
  obtain ⟨cs, hb, _, hc⟩ := h
  exact ⟨cs, hb, fun j hj => by rw [hc j (by omega), hf j hj]⟩
/-- a row of the call's own that begins with numbers: nil, or a block -/
theorem Flat.own {w : World} {base : Nat} {e : TypeId} {size n : Nat} {v : Value} {zs : List Int} (h : w.ownsRow base e size v n (zs.map (Value.int .i64))) : (v = .slice none 0 0 ∧ n = 0) ∨ ∃ g cap, v = .slice (some ⟨g, 0, none⟩) n cap ∧ base ≤ g ∧ Flat w g e zs ∧ n ≤ cap := by
  rcases h.2 with h0 | ⟨g, cap, cur, rfl, hg, hb, hnc, _, _, ht⟩
  · exact .inl h0
  · refine .inr ⟨g, cap, rfl, hg, ⟨cur, hb, fun j hj => ?_⟩, hnc⟩
    have hl := h.1
    rw [List.length_map] at hl
    have : (List.take (n * size) cur.toList)[j]? = some (.int .i64 (zs.getD j 0)) := by
      rw [ht, List.getElem?_map, List.getElem?_eq_getElem hj, List.getD_eq_getElem?_getD, List.getElem?_eq_getElem hj]; rfl
    rw [List.getElem?_take_of_lt (by omega)] at this
    simpa using this
theorem Flat.hs {w : World} {g : Nat} {t : TypeId} {hs : List Hd} (h : Flat w g t (flatH hs)) : IsHs w (some ⟨g, 0, none⟩) hs := by
  refine .inr ⟨g, 0, rfl, fun i hi => ?_⟩
  obtain ⟨a, b, c⟩ := flat_get hs i hi
  have hl := flat_len hs
  rw [Nat.zero_add]
  exact ⟨by rw [h.cell (by omega), a], by rw [h.cell (by omega), b], by rw [h.cell (by omega), c]⟩

end Go.Proofs.Ytfcgjiciobfncaa
namespace Go.Proofs.Ytfcgjiciobfncaa
open Go.ChangeShapes Go.WideShapes Go.RowKit Go.Deep

abbrev Nd := Int × Int × Int × Int × Int
abbrev nd0 : Nd := (0, 0, 0, 0, 0)
/-- the numbers, one after the other -/
def flatNd : List Nd → List Int
  | [] => []
  | h :: t => h.1 :: h.2.1 :: h.2.2.1 :: h.2.2.2.1 :: h.2.2.2.2 :: flatNd t
theorem flatNd_len : ∀ xs : List Nd, (flatNd xs).length = xs.length * 5 := by
  intro xs
  induction xs with
  | nil => rfl
  | cons h t ih => show (flatNd t).length + 1 + 1 + 1 + 1 + 1 = (t.length + 1) * 5; rw [ih]; omega
theorem flatNd_append : ∀ a b : List Nd, flatNd (a ++ b) = flatNd a ++ flatNd b := by
  intro a b
  induction a with
  | nil => rfl
  | cons h t ih => show h.1 :: h.2.1 :: h.2.2.1 :: h.2.2.2.1 :: h.2.2.2.2 :: flatNd (t ++ b) = _; rw [ih]; rfl
theorem flatNd_get : ∀ (xs : List Nd) (k : Nat), k < xs.length → (flatNd xs).getD (k * 5) 0 = (xs.getD k nd0).1 ∧ (flatNd xs).getD (k * 5 + 1) 0 = (xs.getD k nd0).2.1 ∧ (flatNd xs).getD (k * 5 + 2) 0 = (xs.getD k nd0).2.2.1 ∧ (flatNd xs).getD (k * 5 + 3) 0 = (xs.getD k nd0).2.2.2.1 ∧ (flatNd xs).getD (k * 5 + 4) 0 = (xs.getD k nd0).2.2.2.2 := by
  intro xs
  induction xs with
  | nil => intro k h; simp at h
  | cons h t ih =>
    intro k hk
    cases k with
    | zero => exact ⟨rfl, rfl, rfl, rfl, rfl⟩
    | succ k =>
      have := ih k (by simpa using hk)
      rw [show (k + 1) * 5 = k * 5 + 1 + 1 + 1 + 1 + 1 from by omega]
      exact this
theorem flatNd_take (xs : List Nd) (k : Nat) : (flatNd xs).take (k * 5) = flatNd (xs.take k) := by
  induction xs generalizing k with
  | nil => simp [flatNd]
  | cons h t ih =>
    cases k with
    | zero => rfl
    | succ k =>
      rw [show (k + 1) * 5 = k * 5 + 1 + 1 + 1 + 1 + 1 from by omega]
      show h.1 :: h.2.1 :: h.2.2.1 :: h.2.2.2.1 :: h.2.2.2.2 :: (flatNd t).take (k * 5) = _
      rw [ih]; rfl
theorem flatNd_drop (xs : List Nd) (k : Nat) : (flatNd xs).drop (k * 5) = flatNd (xs.drop k) := by
  induction xs generalizing k with
  | nil => simp [flatNd]
  | cons h t ih =>
    cases k with
    | zero => rfl
    | succ k =>
      rw [show (k + 1) * 5 = k * 5 + 1 + 1 + 1 + 1 + 1 from by omega]
      show (flatNd t).drop (k * 5) = _
      rw [ih]; rfl
/-- Nodes xs, read through a slice at address a -/
def IsNd (w : World) (a : Option Addr) (xs : List Nd) : Prop := xs = [] ∨ ∃ g o, a = some ⟨g, o, none⟩ ∧ ∀ i, i < xs.length → w.cell? ⟨g, o + i * 5, none⟩ = some (.int .i64 (xs.getD i nd0).1) ∧ w.cell? ⟨g, o + i * 5 + 1, none⟩ = some (.int .i64 (xs.getD i nd0).2.1) ∧ w.cell? ⟨g, o + i * 5 + 2, none⟩ = some (.int .i64 (xs.getD i nd0).2.2.1) ∧ w.cell? ⟨g, o + i * 5 + 3, none⟩ = some (.int .i64 (xs.getD i nd0).2.2.2.1) ∧ w.cell? ⟨g, o + i * 5 + 4, none⟩ = some (.int .i64 (xs.getD i nd0).2.2.2.2)
theorem nd_below {w w' : World} {a : Option Addr} {xs : List Nd} (h : IsNd w a xs) (hB : Below w.heap.size w w') : IsNd w' a xs := by
  rcases h with h | ⟨g, o, ha, hc⟩
  · exact .inl h
  · refine .inr ⟨g, o, ha, fun i hi => ?_⟩
    obtain ⟨c0, c1, c2, c3, c4⟩ := hc i hi
    have kp : ∀ p v, w.cell? ⟨g, p, none⟩ = some v → w'.cell? ⟨g, p, none⟩ = some v := fun p v c => (hB.cell (p := ⟨g, p, none⟩) (World.block_lt_of_cell? w _ c)).trans c
    exact ⟨kp _ _ c0, kp _ _ c1, kp _ _ c2, kp _ _ c3, kp _ _ c4⟩
theorem nd_at {w wr : World} {g o : Nat} {xs : List Nd} (hc : ∀ i, i < xs.length → w.cell? ⟨g, o + i * 5, none⟩ = some (.int .i64 (xs.getD i nd0).1) ∧ w.cell? ⟨g, o + i * 5 + 1, none⟩ = some (.int .i64 (xs.getD i nd0).2.1) ∧ w.cell? ⟨g, o + i * 5 + 2, none⟩ = some (.int .i64 (xs.getD i nd0).2.2.1) ∧ w.cell? ⟨g, o + i * 5 + 3, none⟩ = some (.int .i64 (xs.getD i nd0).2.2.2.1) ∧ w.cell? ⟨g, o + i * 5 + 4, none⟩ = some (.int .i64 (xs.getD i nd0).2.2.2.2)) (hB : Below w.heap.size w wr) {k : Nat} (hk : k < xs.length) :
    wr.cell? ⟨g, o + k * 5, none⟩ = some (.int .i64 (xs.getD k nd0).1) ∧ wr.cell? ⟨g, o + k * 5 + 1, none⟩ = some (.int .i64 (xs.getD k nd0).2.1) ∧ wr.cell? ⟨g, o + k * 5 + 2, none⟩ = some (.int .i64 (xs.getD k nd0).2.2.1) ∧ wr.cell? ⟨g, o + k * 5 + 3, none⟩ = some (.int .i64 (xs.getD k nd0).2.2.2.1) ∧ wr.cell? ⟨g, o + k * 5 + 4, none⟩ = some (.int .i64 (xs.getD k nd0).2.2.2.2) := by
  obtain ⟨c0, c1, c2, c3, c4⟩ := hc k hk
  have kp : ∀ p v, w.cell? ⟨g, p, none⟩ = some v → wr.cell? ⟨g, p, none⟩ = some v := fun p v c => (hB.cell (p := ⟨g, p, none⟩) (World.block_lt_of_cell? w _ c)).trans c
  exact ⟨kp _ _ c0, kp _ _ c1, kp _ _ c2, kp _ _ c3, kp _ _ c4⟩
theorem Flat.nd {w : World} {g : Nat} {t : TypeId} {xs : List Nd} (h : Flat w g t (flatNd xs)) : IsNd w (some ⟨g, 0, none⟩) xs := by
  refine .inr ⟨g, 0, rfl, fun i hi => ?_⟩
  obtain ⟨a0, a1, a2, a3, a4⟩ := flatNd_get xs i hi
  have hl := flatNd_len xs
  rw [Nat.zero_add]
  exact ⟨by rw [h.cell (by omega), a0], by rw [h.cell (by omega), a1], by rw [h.cell (by omega), a2], by rw [h.cell (by omega), a3], by rw [h.cell (by omega), a4]⟩
theorem nd_take {w : World} {g o : Nat} {xs : List Nd} (hc : ∀ i, i < xs.length → w.cell? ⟨g, o + i * 5, none⟩ = some (.int .i64 (xs.getD i nd0).1) ∧ w.cell? ⟨g, o + i * 5 + 1, none⟩ = some (.int .i64 (xs.getD i nd0).2.1) ∧ w.cell? ⟨g, o + i * 5 + 2, none⟩ = some (.int .i64 (xs.getD i nd0).2.2.1) ∧ w.cell? ⟨g, o + i * 5 + 3, none⟩ = some (.int .i64 (xs.getD i nd0).2.2.2.1) ∧ w.cell? ⟨g, o + i * 5 + 4, none⟩ = some (.int .i64 (xs.getD i nd0).2.2.2.2)) (k : Nat) : IsNd w (some ⟨g, o, none⟩) (xs.take k) := by
  refine .inr ⟨g, o, rfl, fun i hi => ?_⟩
  rw [List.length_take] at hi
  have e : (xs.take k).getD i nd0 = xs.getD i nd0 := by
    rw [List.getD_eq_getElem?_getD, List.getD_eq_getElem?_getD, List.getElem?_take_of_lt (by omega)]
  rw [e]; exact hc i (by omega)
/-- the cells -/
def valsNd (xs : List Nd) : List Value := (flatNd xs).map (Value.int .i64)
theorem valsNd_len (xs : List Nd) : (valsNd xs).length = xs.length * 5 := by unfold valsNd; rw [List.length_map, flatNd_len]
theorem valsNd_append (a b : List Nd) : valsNd (a ++ b) = valsNd a ++ valsNd b := by unfold valsNd; rw [flatNd_append, List.map_append]
theorem valsNd_one (xs : List Nd) : ∀ u ∈ valsNd xs, u.oneCell' = true := fun u hu => by
  unfold valsNd at hu
  obtain ⟨z, _, rfl⟩ := List.mem_map.1 hu
  rfl
theorem valsNd_get {xs : List Nd} {k : Nat} (h : k < xs.length) : (valsNd xs)[k * 5]? = some (.int .i64 (xs.getD k nd0).1) ∧ (valsNd xs)[k * 5 + 1]? = some (.int .i64 (xs.getD k nd0).2.1) ∧ (valsNd xs)[k * 5 + 2]? = some (.int .i64 (xs.getD k nd0).2.2.1) ∧ (valsNd xs)[k * 5 + 3]? = some (.int .i64 (xs.getD k nd0).2.2.2.1) ∧ (valsNd xs)[k * 5 + 4]? = some (.int .i64 (xs.getD k nd0).2.2.2.2) := by
  obtain ⟨a0, a1, a2, a3, a4⟩ := flatNd_get xs k h
  have hl := flatNd_len xs
  have get : ∀ j, j < (flatNd xs).length → (valsNd xs)[j]? = some (.int .i64 ((flatNd xs).getD j 0)) := fun j hj => by
    unfold valsNd
    rw [List.getElem?_map, List.getElem?_eq_getElem hj, List.getD_eq_getElem?_getD, List.getElem?_eq_getElem hj]; rfl
  rw [get _ (by omega), get _ (by omega), get _ (by omega), get _ (by omega), get _ (by omega), a0, a1, a2, a3, a4]
  exact ⟨rfl, rfl, rfl, rfl, rfl⟩
theorem nd_reads {w : World} {a : Option Addr} {xs : List Nd} (h : IsNd w a xs) : Reads w w.heap.size 5 a xs.length (valsNd xs) := by
  refine ⟨valsNd_len xs, fun hn => ?_⟩
  rcases h with rfl | ⟨g, o, rfl, hc⟩
  · exact absurd hn (by simp)
  · refine ⟨⟨g, o, none⟩, rfl, ?_, fun j u hu => ?_⟩
    · exact World.block_lt_of_cell? w _ (hc 0 hn).1
    · have hl := valsNd_len xs
      have hj : j < (valsNd xs).length := by
        rcases Nat.lt_or_ge j (valsNd xs).length with h | h
        · exact h
        · rw [List.getElem?_eq_none h] at hu; cases hu
      have hk : j / 5 < xs.length := by omega
      obtain ⟨c0, c1, c2, c3, c4⟩ := hc _ hk
      obtain ⟨v0, v1, v2, v3, v4⟩ := valsNd_get hk
      have hm : j % 5 = 0 ∨ j % 5 = 1 ∨ j % 5 = 2 ∨ j % 5 = 3 ∨ j % 5 = 4 := by omega
      rw [add_off]
      rcases hm with e | e | e | e | e
      · have ej : j = j / 5 * 5 := by omega
        rw [ej] at hu ⊢; rw [v0] at hu; rw [c0, ← hu]
      · have ej : j = j / 5 * 5 + 1 := by omega
        rw [ej] at hu ⊢; rw [v1] at hu; rw [← Nat.add_assoc, c1, ← hu]
      · have ej : j = j / 5 * 5 + 2 := by omega
        rw [ej] at hu ⊢; rw [v2] at hu; rw [← Nat.add_assoc, c2, ← hu]
      · have ej : j = j / 5 * 5 + 3 := by omega
        rw [ej] at hu ⊢; rw [v3] at hu; rw [← Nat.add_assoc, c3, ← hu]
      · have ej : j = j / 5 * 5 + 4 := by omega
        rw [ej] at hu ⊢; rw [v4] at hu; rw [← Nat.add_assoc, c4, ← hu]
theorem reads_nd {w : World} {B : Nat} {a : Option Addr} {xs : List Nd} (h : Reads w B 5 a xs.length (valsNd xs)) (hsp : ∀ ad, a = some ad → ad.spot = none) : IsNd w a xs := by
  by_cases hn : xs = []
  · exact .inl hn
  · obtain ⟨ad, rfl, _, hc⟩ := h.2 (by cases xs with | nil => exact absurd rfl hn | cons _ _ => simp)
    obtain ⟨g, o, sp⟩ := ad
    obtain rfl : sp = none := hsp _ rfl
    refine .inr ⟨g, o, rfl, fun i hi => ?_⟩
    obtain ⟨v0, v1, v2, v3, v4⟩ := valsNd_get hi
    have e0 := hc _ _ v0
    have e1 := hc _ _ v1
    have e2 := hc _ _ v2
    have e3 := hc _ _ v3
    have e4 := hc _ _ v4
    rw [add_off] at e0 e1 e2 e3 e4
    rw [← Nat.add_assoc] at e1 e2 e3 e4
    exact ⟨e0, e1, e2, e3, e4⟩
theorem infoNd : (Try.prog.info? 60).map (fun i => (i.zero, i.size, i.bytes)) = some (some (.agg #[.int .i64 0, .int .i64 0, .int .i64 0, .int .i64 0, .int .i64 0]), 5, 40) := by kernel_rfl
/-- a row of the call's own that holds xs -/
def OwnNd (w : World) (base : Nat) (v : Value) (xs : List Nd) : Prop := w.ownsRow base 60 5 v xs.length (valsNd xs)
theorem own_nd {w : World} {base : Nat} {v : Value} {xs : List Nd} (h : OwnNd w base v xs) : ∃ (b : Option Addr) (cap : Nat), v = .slice b xs.length cap ∧ IsNd w b xs := by
  have h0 := h
  rcases h.2 with ⟨hv, hn⟩ | ⟨g, cap, cur, hv, _⟩
  · exact ⟨none, 0, by rw [hv, hn], .inl (List.eq_nil_of_length_eq_zero hn)⟩
  · subst hv
    exact ⟨some ⟨g, 0, none⟩, cap, rfl, reads_nd (Reads.of_own h0) (fun ad e => by injection e with e; rw [← e])⟩

/-- a slice of Nodes that came in -/
def NdIn (w : World) (a : Option Addr) (len cap : Nat) (xs : List Nd) : Prop := xs.length = len ∧ IsNd w a xs ∧ len ≤ cap ∧ cap ≤ maxLen
theorem trod_struct5 {H : Type} {enc : TypeId × Value → H} {w : World} {base : Nat} {spare : Nat → Bool} {held : Bool} {t : TypeId} {f0 f1 f2 f3 f4 : Field} {fuel : Nat} {cs : List Value} {x : DataW H × List MemPlace} (ht : Try.prog.underlying t = some (.struct #[f0, f1, f2, f3, f4])) (h : DataW.trod enc Try.prog w base spare held fuel t cs = some x) :
    ∃ y0 y1 y2 y3 y4 n, cs.length = Try.prog.cellsOf t ∧ DataW.trod enc Try.prog w base spare held n f0.type ((cs.drop f0.offset).take (Try.prog.cellsOf f0.type)) = some y0 ∧
      DataW.trod enc Try.prog w base spare held n f1.type ((cs.drop f1.offset).take (Try.prog.cellsOf f1.type)) = some y1 ∧ DataW.trod enc Try.prog w base spare held n f2.type ((cs.drop f2.offset).take (Try.prog.cellsOf f2.type)) = some y2 ∧
      DataW.trod enc Try.prog w base spare held n f3.type ((cs.drop f3.offset).take (Try.prog.cellsOf f3.type)) = some y3 ∧ DataW.trod enc Try.prog w base spare held n f4.type ((cs.drop f4.offset).take (Try.prog.cellsOf f4.type)) = some y4 := by
  obtain ⟨xs, n, _, rfl, hl, hlen, hf⟩ := DataW.trod_struct ht h
  match xs, hlen with
  | [y0, y1, y2, y3, y4], _ => exact ⟨y0, y1, y2, y3, y4, n, hl, by simpa using hf 0 f0 rfl, by simpa using hf 1 f1 rfl, by simpa using hf 2 f2 rfl, by simpa using hf 3 f3 rfl, by simpa using hf 4 f4 rfl⟩
end Go.Proofs.Ytfcgjiciobfncaa
namespace Go.Proofs.Ytfcgjiciobfncaa

/-- the measures of a node -/
def mB (x : Nd) : Bool := (decide (0 ≤ x.2.1) && decide (x.2.1 ≤ 1000)) && (decide (0 ≤ x.2.2.1) && decide (x.2.2.1 ≤ 500)) && (decide (0 ≤ x.2.2.2.1) && decide (x.2.2.2.1 ≤ 500)) && (decide (0 ≤ x.2.2.2.2) && decide (x.2.2.2.2 ≤ 20))
/-- the parent of a node -/
def pB (p : Int) (k : Nat) : Bool := if k = 0 then decide (p = -1) else decide (0 ≤ p) && decide (p < (k : Int))
def okN (ns : List Nd) (k : Nat) : Bool := pB (ns.getD k nd0).1 k && mB (ns.getD k nd0)
/-- a valid channel -/
def vnB (ns : List Nd) : Bool := decide (1 ≤ ns.length) && decide (ns.length ≤ 12) && (List.range ns.length).all (okN ns)
theorem mB_iff (x : Nd) : mB x = true ↔ (0 ≤ x.2.1 ∧ x.2.1 ≤ 1000) ∧ (0 ≤ x.2.2.1 ∧ x.2.2.1 ≤ 500) ∧ (0 ≤ x.2.2.2.1 ∧ x.2.2.2.1 ≤ 500) ∧ (0 ≤ x.2.2.2.2 ∧ x.2.2.2.2 ≤ 20) := by
  unfold mB; simp only [Bool.and_eq_true, decide_eq_true_eq, and_assoc]
theorem pB_zero (p : Int) : pB p 0 = decide (p = -1) := rfl
theorem pB_pos (p : Int) {k : Nat} (h : 0 < k) : pB p k = (decide (0 ≤ p) && decide (p < (k : Int))) := by unfold pB; rw [if_neg (by omega)]
theorem vn_no0 {ns : List Nd} (h : ns.length < 1) : vnB ns = false := by unfold vnB; rw [decide_eq_false (by omega : ¬ 1 ≤ ns.length)]; rfl
theorem vn_no1 {ns : List Nd} (h : 12 < ns.length) : vnB ns = false := by unfold vnB; rw [decide_eq_false (by omega : ¬ ns.length ≤ 12)]; simp
theorem vn_no2 {ns : List Nd} {k : Nat} (hk : k < ns.length) (h : okN ns k = false) : vnB ns = false := by unfold vnB; rw [rng_no hk h]; simp
theorem vn_end {ns : List Nd} (h3 : ∀ j, j < ns.length → okN ns j = true) : vnB ns = (decide (1 ≤ (ns.length : Int)) && decide ((ns.length : Int) ≤ 12)) := by
  unfold vnB; rw [rng_yes h3, Bool.and_true]
  congr 1
  · by_cases h : 1 ≤ ns.length
    · rw [decide_eq_true h, decide_eq_true (by omega)]
    · rw [decide_eq_false h, decide_eq_false (by omega)]
  · by_cases h : ns.length ≤ 12
    · rw [decide_eq_true h, decide_eq_true (by omega)]
    · rw [decide_eq_false h, decide_eq_false (by omega)]
theorem vn_yes {ns : List Nd} (h1 : 1 ≤ ns.length) (h2 : ns.length ≤ 12) (h3 : ∀ j, j < ns.length → okN ns j = true) : vnB ns = true := by
  rw [vn_end h3, decide_eq_true (by omega), decide_eq_true (by omega)]; rfl
theorem vn_is {ns : List Nd} (h : vnB ns = true) : 1 ≤ ns.length ∧ ns.length ≤ 12 ∧ ∀ j, j < ns.length → okN ns j = true := by
  unfold vnB at h
  simp only [Bool.and_eq_true, decide_eq_true_eq, rng_all] at h
  exact ⟨h.1.1, h.1.2, h.2⟩
/-- what holds of a node of a valid channel -/
theorem vn_at {ns : List Nd} (h : vnB ns = true) {k : Nat} (hk : k < ns.length) :
    (0 ≤ (ns.getD k nd0).2.1 ∧ (ns.getD k nd0).2.1 ≤ 1000) ∧ (0 ≤ (ns.getD k nd0).2.2.1 ∧ (ns.getD k nd0).2.2.1 ≤ 500) ∧ (0 ≤ (ns.getD k nd0).2.2.2.1 ∧ (ns.getD k nd0).2.2.2.1 ≤ 500) ∧ (0 ≤ (ns.getD k nd0).2.2.2.2 ∧ (ns.getD k nd0).2.2.2.2 ≤ 20) := by
  have := (vn_is h).2.2 k hk
  unfold okN at this
  rw [Bool.and_eq_true] at this
  exact (mB_iff _).1 this.2
theorem vn_par0 {ns : List Nd} (h : vnB ns = true) : (ns.getD 0 nd0).1 = -1 := by
  have := (vn_is h).2.2 0 (vn_is h).1
  unfold okN at this
  rw [Bool.and_eq_true, pB_zero, decide_eq_true_eq] at this
  exact this.1
theorem vn_par {ns : List Nd} (h : vnB ns = true) {k : Nat} (hk : k < ns.length) (h0 : 0 < k) : 0 ≤ (ns.getD k nd0).1 ∧ (ns.getD k nd0).1 < (k : Int) := by
  have := (vn_is h).2.2 k hk
  unfold okN at this
  rw [Bool.and_eq_true, pB_pos _ h0, Bool.and_eq_true, decide_eq_true_eq, decide_eq_true_eq] at this
  exact this.1
theorem vn_parI {ns : List Nd} (h : vnB ns = true) {k : Nat} (hk : k < ns.length) : -1 ≤ (ns.getD k nd0).1 ∧ (ns.getD k nd0).1 < (k : Int) := by
  by_cases h0 : 0 < k
  · have := vn_par h hk h0; omega
  · obtain rfl : k = 0 := by omega
    rw [vn_par0 h]; constructor <;> omega

/-- an index -/
def inN (n : Nat) (i : Int) : Bool := decide (0 ≤ i) && decide (i < (n : Int))
theorem inN_yes {n : Nat} {i : Int} (h : inN n i = true) : ∃ k : Nat, i = (k : Int) ∧ k < n := by
  unfold inN at h
  simp only [Bool.and_eq_true, decide_eq_true_eq] at h
  exact ⟨i.toNat, by omega, by omega⟩
theorem inN_no {n : Nat} {i : Int} (h : inN n i = false) : i < 0 ∨ (n : Int) - 1 < i := by
  have : ¬ (0 ≤ i ∧ i < (n : Int)) := fun c => by unfold inN at h; rw [decide_eq_true c.1, decide_eq_true c.2] at h; cases h
  omega
theorem inN_is {n k : Nat} (h : k < n) : inN n (k : Int) = true := by
  unfold inN; rw [decide_eq_true (by omega), decide_eq_true (by omega)]; rfl

/-- the kids of a node among the first k nodes -/
def kidsTo (ns : List Nd) (at_ : Int) : Nat → List Int
  | 0 => []
  | k + 1 => if (ns.getD k nd0).1 = at_ then kidsTo ns at_ k ++ [(k : Int)] else kidsTo ns at_ k
theorem kidsTo_yes {ns : List Nd} {at_ : Int} {k : Nat} (h : (ns.getD k nd0).1 = at_) : kidsTo ns at_ (k + 1) = kidsTo ns at_ k ++ [(k : Int)] := if_pos h
theorem kidsTo_no {ns : List Nd} {at_ : Int} {k : Nat} (h : ¬ (ns.getD k nd0).1 = at_) : kidsTo ns at_ (k + 1) = kidsTo ns at_ k := if_neg h
theorem kidsTo_len (ns : List Nd) (at_ : Int) : ∀ k, (kidsTo ns at_ k).length ≤ k := by
  intro k
  induction k with
  | zero => exact Nat.le_refl _
  | succ k ih =>
    by_cases h : (ns.getD k nd0).1 = at_
    · rw [kidsTo_yes h, List.length_append]; show _ + 1 ≤ _; omega
    · rw [kidsTo_no h]; omega
def kidsF (ns : List Nd) (at_ : Int) : List Int := kidsTo ns at_ ns.length
/-- what KidsOf gives -/
def kidsV (ns : List Nd) (at_ : Int) : List Int := if (vnB ns && inN ns.length at_) = true then kidsF ns at_ else []
theorem kids_no {ns : List Nd} {at_ : Int} (h : vnB ns = false ∨ inN ns.length at_ = false) : kidsV ns at_ = [] := by
  unfold kidsV; rw [if_neg]; rcases h with h | h <;> rw [h] <;> simp
theorem kids_yes {ns : List Nd} {at_ : Int} (h : vnB ns = true) (h2 : inN ns.length at_ = true) : kidsV ns at_ = kidsF ns at_ := by
  unfold kidsV; rw [h, h2]; rfl
theorem kidsTo_mem (ns : List Nd) (at_ : Int) : ∀ k, ∀ z ∈ kidsTo ns at_ k, ∃ j : Nat, z = (j : Int) ∧ j < k ∧ (ns.getD j nd0).1 = at_ := by
  intro k
  induction k with
  | zero => intro z h; cases h
  | succ k ih =>
    intro z hz
    by_cases h : (ns.getD k nd0).1 = at_
    · rw [kidsTo_yes h, List.mem_append, List.mem_singleton] at hz
      rcases hz with hz | rfl
      · obtain ⟨j, a, b, c⟩ := ih z hz; exact ⟨j, a, by omega, c⟩
      · exact ⟨k, rfl, by omega, h⟩
    · rw [kidsTo_no h] at hz
      obtain ⟨j, a, b, c⟩ := ih z hz; exact ⟨j, a, by omega, c⟩
theorem kidsTo_in {ns : List Nd} {at_ : Int} {j : Nat} (h : (ns.getD j nd0).1 = at_) : ∀ k, j < k → (j : Int) ∈ kidsTo ns at_ k := by
  intro k
  induction k with
  | zero => intro h; omega
  | succ k ih =>
    intro hk
    by_cases e : j = k
    · subst e; rw [kidsTo_yes h]; exact List.mem_append_right _ (List.mem_singleton.2 rfl)
    · have := ih (by omega)
      by_cases h2 : (ns.getD k nd0).1 = at_
      · rw [kidsTo_yes h2]; exact List.mem_append_left _ this
      · rw [kidsTo_no h2]; exact this
theorem kids_bd {ns : List Nd} {at_ : Int} {z : Int} (h : z ∈ kidsF ns at_) : ∃ j : Nat, z = (j : Int) ∧ j < ns.length ∧ (ns.getD j nd0).1 = at_ := kidsTo_mem ns at_ _ z h

/-- the path to a node, the node behind its parent's path -/
def pathTo (ns : List Nd) : Nat → Int → List Int
  | 0, _ => []
  | f + 1, i => if i < 0 then [] else pathTo ns f (ns.getD i.toNat nd0).1 ++ [i]
theorem pathTo_more {ns : List Nd} (h : vnB ns = true) : ∀ (f : Nat) (i : Int), i < (ns.length : Int) → i < (f : Int) → pathTo ns (f + 1) i = pathTo ns f i := by
  intro f
  induction f with
  | zero => intro i _ hi; have : i < 0 := by omega
            show (if i < 0 then [] else _) = []; rw [if_pos this]
  | succ f ih =>
    intro i hi hf
    by_cases h0 : i < 0
    · show (if i < 0 then [] else _) = (if i < 0 then [] else _); rw [if_pos h0, if_pos h0]
    · show (if i < 0 then [] else pathTo ns (f + 1) (ns.getD i.toNat nd0).1 ++ [i]) = (if i < 0 then [] else pathTo ns f (ns.getD i.toNat nd0).1 ++ [i])
      have b := vn_parI h (k := i.toNat) (by omega)
      rw [if_neg h0, if_neg h0, ih _ (by omega) (by omega)]
def pathF (ns : List Nd) (i : Int) : List Int := pathTo ns ns.length i
theorem pathTo_step {ns : List Nd} (h : vnB ns = true) {k : Nat} (hk : k < ns.length) : pathF ns (k : Int) = pathF ns (ns.getD k nd0).1 ++ [(k : Int)] := by
  have b := vn_parI h hk
  obtain ⟨m, hm⟩ : ∃ m, ns.length = m + 1 := ⟨ns.length - 1, by omega⟩
  unfold pathF
  rw [hm]
  show (if (k : Int) < 0 then [] else pathTo ns m (ns.getD ((k : Int)).toNat nd0).1 ++ [(k : Int)]) = _
  rw [if_neg (by omega), show ((k : Int)).toNat = k from by omega, pathTo_more h m _ (by omega) (by omega)]
theorem pathF_neg (ns : List Nd) {i : Int} (h : i < 0) : pathF ns i = [] := by
  unfold pathF
  cases ns.length with
  | zero => rfl
  | succ m => show (if i < 0 then [] else _) = []; rw [if_pos h]
theorem pathTo_len (ns : List Nd) : ∀ (f : Nat) (i : Int), (pathTo ns f i).length ≤ f := by
  intro f
  induction f with
  | zero => intro i; exact Nat.le_refl _
  | succ f ih =>
    intro i
    show (if i < 0 then [] else pathTo ns f (ns.getD i.toNat nd0).1 ++ [i]).length ≤ _
    split
    · simp
    · rw [List.length_append]; have := ih (ns.getD i.toNat nd0).1; show _ + 1 ≤ _; omega
theorem pathTo_mem {ns : List Nd} (h : vnB ns = true) : ∀ (f : Nat) (i : Int), i < (ns.length : Int) → ∀ z ∈ pathTo ns f i, ∃ j : Nat, z = (j : Int) ∧ j < ns.length := by
  intro f
  induction f with
  | zero => intro i _ z hz; cases hz
  | succ f ih =>
    intro i hi z hz
    by_cases h0 : i < 0
    · have : pathTo ns (f + 1) i = [] := if_pos h0
      rw [this] at hz; cases hz
    · have : pathTo ns (f + 1) i = pathTo ns f (ns.getD i.toNat nd0).1 ++ [i] := if_neg h0
      rw [this, List.mem_append, List.mem_singleton] at hz
      have b := vn_parI h (k := i.toNat) (by omega)
      rcases hz with hz | rfl
      · exact ih _ (by omega) z hz
      · exact ⟨z.toNat, by omega, by omega⟩
def pathV (ns : List Nd) (at_ : Int) : List Int := if (vnB ns && inN ns.length at_) = true then pathF ns at_ else []
theorem path_no {ns : List Nd} {at_ : Int} (h : vnB ns = false ∨ inN ns.length at_ = false) : pathV ns at_ = [] := by
  unfold pathV; rw [if_neg]; rcases h with h | h <;> rw [h] <;> simp
theorem path_yes {ns : List Nd} {at_ : Int} (h : vnB ns = true) (h2 : inN ns.length at_ = true) : pathV ns at_ = pathF ns at_ := by
  unfold pathV; rw [h, h2]; rfl
/-- the delays of nodes -/
def dly (ns : List Nd) (z : Int) : Int := (ns.getD z.toNat nd0).2.2.2.2
def dlySum (ns : List Nd) : List Int → Int
  | [] => 0
  | z :: t => dly ns z + dlySum ns t
theorem dlySum_append (ns : List Nd) (a b : List Int) : dlySum ns (a ++ b) = dlySum ns a + dlySum ns b := by
  induction a with
  | nil => show dlySum ns b = 0 + dlySum ns b; omega
  | cons h t ih => show dly ns h + dlySum ns (t ++ b) = dly ns h + dlySum ns t + _; rw [ih]; omega
theorem dlySum_bd {ns : List Nd} (h : vnB ns = true) : ∀ l : List Int, (∀ z ∈ l, ∃ j : Nat, z = (j : Int) ∧ j < ns.length) → 0 ≤ dlySum ns l ∧ dlySum ns l ≤ 20 * (l.length : Int) := by
  intro l
  induction l with
  | nil => intro _; exact ⟨Int.le_refl _, by show (0 : Int) ≤ 20 * ((0 : Nat) : Int); omega⟩
  | cons z t ih =>
    intro hz
    obtain ⟨a, b⟩ := ih (fun y hy => hz y (List.mem_cons_of_mem _ hy))
    obtain ⟨j, rfl, hj⟩ := hz z (List.mem_cons_self ..)
    have c := (vn_at h hj).2.2.2
    have e : dly ns (j : Int) = (ns.getD j nd0).2.2.2.2 := rfl
    show 0 ≤ dly ns (j : Int) + dlySum ns t ∧ dly ns (j : Int) + dlySum ns t ≤ 20 * ((t.length + 1 : Nat) : Int)
    rw [e]; omega
def delayF (ns : List Nd) (at_ : Int) : Int := dlySum ns (pathF ns at_)
def delayV (ns : List Nd) (at_ : Int) : Int := if (vnB ns && inN ns.length at_) = true then delayF ns at_ else -1
theorem delay_no {ns : List Nd} {at_ : Int} (h : vnB ns = false ∨ inN ns.length at_ = false) : delayV ns at_ = -1 := by
  unfold delayV; rw [if_neg]; rcases h with h | h <;> rw [h] <;> simp
theorem delay_yes {ns : List Nd} {at_ : Int} (h : vnB ns = true) (h2 : inN ns.length at_ = true) : delayV ns at_ = delayF ns at_ := by
  unfold delayV; rw [h, h2]; rfl
theorem delay_bd {ns : List Nd} (h : vnB ns = true) {k : Nat} (hk : k < ns.length) : 0 ≤ delayF ns (k : Int) ∧ delayF ns (k : Int) ≤ 240 := by
  have a := dlySum_bd h _ (pathTo_mem h ns.length (k : Int) (by omega))
  have b := pathTo_len ns ns.length (k : Int)
  have c := (vn_is h).2.1
  unfold delayF pathF; omega
/-- the nodes without kids among the first k -/
def leavesTo (ns : List Nd) : Nat → List Int
  | 0 => []
  | k + 1 => if (kidsF ns (k : Int)).length = 0 then leavesTo ns k ++ [(k : Int)] else leavesTo ns k
theorem leavesTo_yes {ns : List Nd} {k : Nat} (h : (kidsF ns (k : Int)).length = 0) : leavesTo ns (k + 1) = leavesTo ns k ++ [(k : Int)] := if_pos h
theorem leavesTo_no {ns : List Nd} {k : Nat} (h : ¬ (kidsF ns (k : Int)).length = 0) : leavesTo ns (k + 1) = leavesTo ns k := if_neg h
theorem leavesTo_len (ns : List Nd) : ∀ k, (leavesTo ns k).length ≤ k := by
  intro k
  induction k with
  | zero => exact Nat.le_refl _
  | succ k ih =>
    by_cases h : (kidsF ns (k : Int)).length = 0
    · rw [leavesTo_yes h, List.length_append]; show _ + 1 ≤ _; omega
    · rw [leavesTo_no h]; omega
def leavesV (ns : List Nd) : List Int := if vnB ns = true then leavesTo ns ns.length else []
end Go.Proofs.Ytfcgjiciobfncaa
namespace Go.Proofs.Ytfcgjiciobfncaa
open Go.RowKit
set_option linter.unusedSimpArgs false
set_option linter.unusedVariables false

/-- impl.isWithin, as a number -/
theorem iwithin (n m : Int) (w : World) :
    Calls Try.prog 60 #[.int .i64 n, .int .i64 m] w fun e w' => e = .returned (.bool (decide (0 ≤ n) && decide (n ≤ m))) ∧ w = w' := by
  by_cases h : n < 0 ∨ m < n
  · have e : (decide (0 ≤ n) && decide (n ≤ m)) = false := by
      rcases h with h | h
      · rw [decide_eq_false (by omega : ¬ 0 ≤ n)]; rfl
      · rw [decide_eq_false (by omega : ¬ n ≤ m)]; simp
    rw [e]; exact iwithin_no n m w h
  · rw [decide_eq_true (by omega : 0 ≤ n), decide_eq_true (by omega : n ≤ m)]; exact iwithin_yes n m w (by omega) (by omega)
/-- impl.isNode -/
theorem iisNode (a : Option Addr) (n cap : Nat) (i : Int) (w : World) (hn : n ≤ 1048576) :
    Calls Try.prog 96 #[.slice a n cap, .int .i64 i] w fun e w' => e = .returned (.bool (inN n i)) ∧ w = w' := by
  by_cases h1 : 0 ≤ i
  · have hd : decide (0 ≤ i) = true := decide_eq_true h1
    clear h1
    go_enter Try.func96, Try.ntmps96
    go_wp2
    go_ret
    exact ⟨ret_bool (by unfold inN; rw [hd]; rfl), rfl⟩
  · have hd : decide (0 ≤ i) = false := decide_eq_false h1
    clear h1
    go_enter Try.func96, Try.ntmps96
    go_wp2
    go_ret
    exact ⟨ret_bool (by unfold inN; rw [hd]; rfl), rfl⟩

set_option maxHeartbeats 1000000 in
/-- impl.hasMeasures -/
theorem imeasures (x0 x1 x2 x3 x4 : Int) (w : World) :
    Calls Try.prog 99 #[.agg #[.int .i64 x0, .int .i64 x1, .int .i64 x2, .int .i64 x3, .int .i64 x4]] w fun e w' => e = .returned (.bool (mB (x0, x1, x2, x3, x4))) ∧ Below w.heap.size w w' := by
  obtain ⟨b1, h1⟩ : ∃ b, (decide (0 ≤ x1) && decide (x1 ≤ 1000)) = b := ⟨_, rfl⟩
  obtain ⟨b2, h2⟩ : ∃ b, (decide (0 ≤ x2) && decide (x2 ≤ 500)) = b := ⟨_, rfl⟩
  obtain ⟨b3, h3⟩ : ∃ b, (decide (0 ≤ x3) && decide (x3 ≤ 500)) = b := ⟨_, rfl⟩
  obtain ⟨b4, h4⟩ : ∃ b, (decide (0 ≤ x4) && decide (x4 ≤ 20)) = b := ⟨_, rfl⟩
  have HM : Hid (mB (x0, x1, x2, x3, x4) = (b1 && b2 && b3 && b4)) := by show mB _ = _; rw [← h1, ← h2, ← h3, ← h4]; rfl
  have C1 := fun W => iwithin x1 1000 W
  have C2 := fun W => iwithin x2 500 W
  have C3 := fun W => iwithin x3 500 W
  have C4 := fun W => iwithin x4 20 W
  rw [h1] at C1
  rw [h2] at C2
  rw [h3] at C3
  rw [h4] at C4
  clear h1 h2 h3 h4
  cases b1 with
  | false =>
    go_enter Try.func99, Try.ntmps99
    go_wp2_with fail
    refine (C1 _).mono ?_
    rintro e w' ⟨rfl, rfl⟩
    go_wp2_with fail
    go_ret
    exact ⟨ret_bool (by rw [HM.out]; simp), by go_grown⟩
  | true =>
    cases b2 with
    | false =>
      go_enter Try.func99, Try.ntmps99
      go_wp2_with fail
      refine (C1 _).mono ?_
      rintro e w' ⟨rfl, rfl⟩
      go_wp2_with fail
      refine (C2 _).mono ?_
      rintro e w' ⟨rfl, rfl⟩
      go_wp2_with fail
      go_ret
      exact ⟨ret_bool (by rw [HM.out]; simp), by go_grown⟩
    | true =>
      cases b3 with
      | false =>
        go_enter Try.func99, Try.ntmps99
        go_wp2_with fail
        refine (C1 _).mono ?_
        rintro e w' ⟨rfl, rfl⟩
        go_wp2_with fail
        refine (C2 _).mono ?_
        rintro e w' ⟨rfl, rfl⟩
        go_wp2_with fail
        refine (C3 _).mono ?_
        rintro e w' ⟨rfl, rfl⟩
        go_wp2_with fail
        go_ret
        exact ⟨ret_bool (by rw [HM.out]; simp), by go_grown⟩
      | true =>
        cases b4 with
        | false =>
          go_enter Try.func99, Try.ntmps99
          go_wp2_with fail
          refine (C1 _).mono ?_
          rintro e w' ⟨rfl, rfl⟩
          go_wp2_with fail
          refine (C2 _).mono ?_
          rintro e w' ⟨rfl, rfl⟩
          go_wp2_with fail
          refine (C3 _).mono ?_
          rintro e w' ⟨rfl, rfl⟩
          go_wp2_with fail
          refine (C4 _).mono ?_
          rintro e w' ⟨rfl, rfl⟩
          go_wp2_with fail
          go_ret
          exact ⟨ret_bool (by rw [HM.out]; simp), by go_grown⟩
        | true =>
          go_enter Try.func99, Try.ntmps99
          go_wp2_with fail
          refine (C1 _).mono ?_
          rintro e w' ⟨rfl, rfl⟩
          go_wp2_with fail
          refine (C2 _).mono ?_
          rintro e w' ⟨rfl, rfl⟩
          go_wp2_with fail
          refine (C3 _).mono ?_
          rintro e w' ⟨rfl, rfl⟩
          go_wp2_with fail
          refine (C4 _).mono ?_
          rintro e w' ⟨rfl, rfl⟩
          go_wp2_with fail
          go_ret
          exact ⟨ret_bool (by rw [HM.out]; simp), by go_grown⟩

theorem ok_first {ns : List Nd} (h : ¬ (ns.getD 0 nd0).1 = -1) : okN ns 0 = false := by
  unfold okN; rw [pB_zero, decide_eq_false h]; rfl
set_option maxHeartbeats 4000000 in
/-- impl.ValidNodes -/
theorem iVN (a : Option Addr) (cap : Nat) (ns : List Nd) (w : World) (h : IsNd w a ns) (hn : ns.length ≤ 1048576) (hcap : ns.length ≤ cap) :
    Calls Try.prog 89 #[.slice a ns.length cap] w fun e w' => e = .returned (.bool (vnB ns)) ∧ Below w.heap.size w w' := by
  by_cases h0 : ns.length < 1
  · have e0 : decide ((ns.length : Int) < 1) = true := by simp; omega
    have HN := Lib.hid (vn_no0 h0)
    clear h0
    go_enter Try.func89, Try.ntmps89
    go_wp2_with fail
    go_ret
    exact ⟨ret_bool HN.out.symm, by go_grown⟩
  have e0 : decide ((ns.length : Int) < 1) = false := by simp; omega
  by_cases h24 : 12 < ns.length
  · have e1 : decide (12 < (ns.length : Int)) = true := by simp; omega
    have HN := Lib.hid (vn_no1 h24)
    clear h24 h0
    go_enter Try.func89, Try.ntmps89
    go_wp2_with fail
    go_ret
    exact ⟨ret_bool HN.out.symm, by go_grown⟩
  have e1 : decide (12 < (ns.length : Int)) = false := by simp; omega
  rcases h with rfl | ⟨g, o, rfl, hc⟩
  · exact absurd (by simp) h0
  have HC := Lib.hid hc
  have l0 : (0 : Int) < (ns.length : Int) := by omega
  have l1 : 1 ≤ ns.length := by omega
  have l12 : ns.length ≤ 12 := by omega
  have c00 := (hc 0 (by omega)).1
  rw [show o + 0 * 5 = o from by omega] at c00
  have hfirst := fun e => vn_no2 (ns := ns) (k := 0) (by omega) (ok_first e)
  have hf0 : ∀ p, (ns.getD 0 nd0).1 = p → p = -1 → pB p 0 = true := fun p _ e => by rw [pB_zero]; exact decide_eq_true e
  by_cases hp : (ns.getD 0 nd0).1 = -1
  rotate_left
  · have HF := Lib.hid (hfirst hp)
    have ep : ((ns.getD 0 nd0).1 == -1) = false := by simpa using hp
    generalize (ns.getD 0 nd0).1 = p at c00 ep
    clear hc hp h0 h24 hfirst hf0
    go_enter Try.func89, Try.ntmps89
    go_wp2_with fail
    go_ret
    exact ⟨ret_bool HF.out.symm, by go_grown⟩
  rw [hp] at c00
  clear hc h0 h24 hfirst hf0
  have HP := Lib.hid hp
  clear hp
  go_enter Try.func89, Try.ntmps89
  go_wp2_with fail
  go_loopw [22] (fun i wr => ∃ k : Nat, k ≤ ns.length ∧ i = .int .i64 k ∧ Hid (∀ j, j < k → okN ns j = true) ∧ Below w.heap.size w wr) (fun i _ => ns.length - (intOf i).toNat)
  case atStart => exact ⟨0, Nat.zero_le _, rfl, fun j hj => by omega, by go_grown⟩
  case round =>
    obtain ⟨k, hk, rfl, HA, hB⟩ := hrel
    by_cases hlt : k < ns.length
    · obtain ⟨c0, c1, c2, c3, c4⟩ := nd_at HC.out hB hlt
      obtain ⟨q, hq⟩ : ∃ q, mB (ns.getD k nd0) = q := ⟨_, rfl⟩
      have hk0 : k = 0 → (ns.getD k nd0).1 = -1 := fun e => by subst e; exact HP.out
      have hno : (pB (ns.getD k nd0).1 k = false ∨ q = false) → vnB ns = false := fun e => vn_no2 hlt (by unfold okN; rcases e with e | e <;> rw [hq, e] <;> simp)
      have hyes : pB (ns.getD k nd0).1 k = true → q = true → ∀ j, j < k + 1 → okN ns j = true := fun e1 e2 => rng_more HA.out (by unfold okN; rw [hq, e1, e2]; rfl)
      have CM := fun W => imeasures (ns.getD k nd0).1 (ns.getD k nd0).2.1 (ns.getD k nd0).2.2.1 (ns.getD k nd0).2.2.2.1 (ns.getD k nd0).2.2.2.2 W
      have hq' : mB ((ns.getD k nd0).1, (ns.getD k nd0).2.1, (ns.getD k nd0).2.2.1, (ns.getD k nd0).2.2.2.1, (ns.getD k nd0).2.2.2.2) = q := hq
      rw [hq'] at CM
      clear hq hq'
      generalize (ns.getD k nd0).1 = x0 at c0 hno hyes CM hk0
      generalize (ns.getD k nd0).2.1 = x1 at c1 CM
      generalize (ns.getD k nd0).2.2.1 = x2 at c2 CM
      generalize (ns.getD k nd0).2.2.2.1 = x3 at c3 CM
      generalize (ns.getD k nd0).2.2.2.2 = x4 at c4 CM
      have HN := Lib.hid hno
      have HY := Lib.hid hyes
      have HB := Lib.hid hB
      have kb0 : (0 : Int) ≤ (k : Int) := by omega
      have kb1 : (k : Int) ≤ (cap : Int) := by omega
      have kb2 : (k : Int) < (ns.length : Int) := by omega
      clear hno hyes hB
      by_cases k0 : k = 0
      · have d0 : decide (0 < (k : Int)) = false := decide_eq_false (by omega)
        have d1 : decide (0 < k) = false := decide_eq_false (by omega)
        have HP2 : Hid (pB x0 k = true) := by show pB x0 k = true; rw [hk0 k0, k0]; rfl
        clear hk0 k0
        cases q with
        | false =>
          have HV := Lib.hid (HN.out (.inr rfl))
          go_wp2_with fail
          go_quiet (fail)
          go_wp2_with fail
          refine (CM _).mono ?_
          rintro e w1 ⟨rfl, C⟩
          go_wp2_with fail
          go_ret
          exact ⟨ret_bool HV.out.symm, bel_tr (below_drewN (HB.out.alloc HB.out.size _) _) C⟩
        | true =>
          have HV := Lib.hid (HY.out HP2.out rfl)
          go_wp2_with fail
          go_quiet (fail)
          go_wp2_with fail
          refine (CM _).mono ?_
          rintro e w1 ⟨rfl, C⟩
          go_wp2_with fail
          go_roundw
          case rel => exact ⟨k + 1, by omega, by go_num, HV.out, bel_tr (below_drewN (HB.out.alloc HB.out.size _) _) C⟩
          case measure => simp [intOf]; omega
      · have d0 : decide (0 < (k : Int)) = true := decide_eq_true (by omega)
        have d1 : decide (0 < k) = true := decide_eq_true (by omega)
        have hpb : pB x0 k = inN k x0 := by rw [pB_pos _ (by omega)]; rfl
        have CI := fun W => iisNode (some ⟨g, o, none⟩) k cap x0 W (by omega)
        obtain ⟨t, ht⟩ : ∃ t, inN k x0 = t := ⟨_, rfl⟩
        rw [ht] at CI hpb
        have HP2 := Lib.hid hpb
        have KI := Lib.hid (fun (W : World) (j : Nat) => Calls.quiet_of_same (w := W) (n := j) ((CI _).mono (fun _ _ h => ⟨h.1, h.2.symm⟩)))
        clear hk0 k0 hpb ht CI
        cases t with
        | false =>
          have HV := Lib.hid (HN.out (.inl HP2.out))
          go_wp2_with fail
          go_quiet (first | (go_at_call_of 96 (Value.slice (some ⟨g, o, none⟩) k cap); exact KI.out _ _))
          go_wp2_with fail
          go_ret
          exact ⟨ret_bool HV.out.symm, below_drewN (HB.out.alloc HB.out.size _) _⟩
        | true =>
          cases q with
          | false =>
            have HV := Lib.hid (HN.out (.inr rfl))
            go_wp2_with fail
            go_quiet (first | (go_at_call_of 96 (Value.slice (some ⟨g, o, none⟩) k cap); exact KI.out _ _))
            go_wp2_with fail
            refine (CM _).mono ?_
            rintro e w1 ⟨rfl, C⟩
            go_wp2_with fail
            go_ret
            exact ⟨ret_bool HV.out.symm, bel_tr (below_drewN (HB.out.alloc HB.out.size _) _) C⟩
          | true =>
            have HV := Lib.hid (HY.out HP2.out rfl)
            go_wp2_with fail
            go_quiet (first | (go_at_call_of 96 (Value.slice (some ⟨g, o, none⟩) k cap); exact KI.out _ _))
            go_wp2_with fail
            refine (CM _).mono ?_
            rintro e w1 ⟨rfl, C⟩
            go_wp2_with fail
            go_roundw
            case rel => exact ⟨k + 1, by omega, by go_num, HV.out, bel_tr (below_drewN (HB.out.alloc HB.out.size _) _) C⟩
            case measure => simp [intOf]; omega
    · obtain rfl : k = ns.length := by omega
      have HE := Lib.hid (vn_yes l1 l12 HA.out)
      have HB := Lib.hid hB
      clear HA hB
      go_wp2_with fail
      go_ret
      exact ⟨ret_bool HE.out.symm, HB.out⟩
end Go.Proofs.Ytfcgjiciobfncaa
namespace Go.Proofs.Ytfcgjiciobfncaa
open Go.RowKit
set_option linter.unusedSimpArgs false
set_option linter.unusedVariables false
theorem sinRange (n l h : Int) (w : World) :
    Calls Try.prog 65 #[.int .i64 n, .int .i64 l, .int .i64 h] w fun e w' => e = .returned (.bool (decide (l ≤ n) && decide (n ≤ h))) ∧ w = w' := by
  by_cases c : n < l ∨ h < n
  · have e : (decide (l ≤ n) && decide (n ≤ h)) = false := by
      rcases c with c | c
      · rw [decide_eq_false (by omega : ¬ l ≤ n)]; rfl
      · rw [decide_eq_false (by omega : ¬ n ≤ h)]; simp
    rw [e]; exact inRange_no n l h w c
  · rw [decide_eq_true (by omega : l ≤ n), decide_eq_true (by omega : n ≤ h)]; exact inRange_yes n l h w (by omega) (by omega)
theorem inN_range (n : Nat) (i : Int) : (decide (0 ≤ i) && decide (i ≤ (n : Int) - 1)) = inN n i := by
  unfold inN
  by_cases h : i < (n : Int)
  · rw [decide_eq_true h, decide_eq_true (by omega : i ≤ (n : Int) - 1)]
  · rw [decide_eq_false h, decide_eq_false (by omega : ¬ i ≤ (n : Int) - 1)]
set_option maxHeartbeats 8000000 in
/-- spec.validNodes -/
theorem svn (a : Option Addr) (cap : Nat) (ns : List Nd) (w : World) (h : IsNd w a ns) (hn : ns.length ≤ 1048576) :
    Calls Try.prog 81 #[.slice a ns.length cap] w fun e w' => e = .returned (.bool (vnB ns)) ∧ Below w.heap.size w w' := by
  rcases h with rfl | ⟨g, o, rfl, hc⟩
  · go_enter Try.func81, Try.ntmps81
    go_wp2_with fail
    refine wp_loop_rounds 1 ?_
    rw [rounds_succ]
    go_wp2_with fail
    refine (inRange_no 0 1 12 _ (by omega)).mono ?_
    rintro e w' ⟨rfl, rfl⟩
    go_wp2_with fail
    go_ret
    exact ⟨rfl, by go_grown⟩
  have HC := Lib.hid hc
  have HP := Lib.hid (fun (k : Nat) (_ : k = 0) (p : Int) (e : ¬ p = -1) => (by rw [pB_zero]; exact decide_eq_false e : pB p 0 = false))
  clear hc
  go_enter Try.func81, Try.ntmps81
  go_wp2_with fail
  go_loopw [3] (fun i wr => ∃ k : Nat, k ≤ ns.length ∧ i = .int .i64 k ∧ Hid (∀ j, j < k → okN ns j = true) ∧ Below w.heap.size w wr) (fun i _ => ns.length - (intOf i).toNat)
  case atStart => exact ⟨0, Nat.zero_le _, rfl, fun j hj => by omega, by go_grown⟩
  case round =>
    obtain ⟨k, hk, rfl, HA, hB⟩ := hrel
    by_cases hlt : k < ns.length
    · obtain ⟨c0, c1, c2, c3, c4⟩ := nd_at HC.out hB hlt
      have hnp : pB (ns.getD k nd0).1 k = false → vnB ns = false := fun e => vn_no2 hlt (by unfold okN; rw [e]; rfl)
      have hnm : mB (ns.getD k nd0) = false → vnB ns = false := fun e => vn_no2 hlt (by unfold okN; rw [e]; simp)
      have hyes : pB (ns.getD k nd0).1 k = true → mB (ns.getD k nd0) = true → ∀ j, j < k + 1 → okN ns j = true := fun e1 e2 => rng_more HA.out (by unfold okN; rw [e1, e2]; rfl)
      generalize ns.getD k nd0 = nd at c0 c1 c2 c3 c4 hnp hnm hyes
      obtain ⟨x0, x1, x2, x3, x4⟩ := nd
      dsimp only at c0 c1 c2 c3 c4 hnp hnm hyes
      obtain ⟨b1, h1⟩ : ∃ b, (decide (0 ≤ x1) && decide (x1 ≤ 1000)) = b := ⟨_, rfl⟩
      obtain ⟨b2, h2⟩ : ∃ b, (decide (0 ≤ x2) && decide (x2 ≤ 500)) = b := ⟨_, rfl⟩
      obtain ⟨b3, h3⟩ : ∃ b, (decide (0 ≤ x3) && decide (x3 ≤ 500)) = b := ⟨_, rfl⟩
      obtain ⟨b4, h4⟩ : ∃ b, (decide (0 ≤ x4) && decide (x4 ≤ 20)) = b := ⟨_, rfl⟩
      have hmm : mB (x0, x1, x2, x3, x4) = (b1 && b2 && b3 && b4) := by rw [← h1, ← h2, ← h3, ← h4]; rfl
      have C1 := fun W => sinRange x1 0 1000 W
      have C2 := fun W => sinRange x2 0 500 W
      have C3 := fun W => sinRange x3 0 500 W
      have C4 := fun W => sinRange x4 0 20 W
      rw [h1] at C1
      rw [h2] at C2
      rw [h3] at C3
      rw [h4] at C4
      rw [hmm] at hnm hyes
      have HNP := Lib.hid hnp
      have HNM := Lib.hid hnm
      have HY := Lib.hid hyes
      have HB := Lib.hid hB
      clear h1 h2 h3 h4 hmm hnp hnm hyes hB
      by_cases k0 : k = 0
      · have e0 : ((k : Int) == 0) = true := by simp; omega
        have e1 : (k == 0) = true := by simpa using k0
        have e2 : decide (0 < (k : Int)) = false := decide_eq_false (by omega)
        have e3 : decide (0 < k) = false := decide_eq_false (by omega)
        by_cases hp : x0 = -1
        · have HP2 : Hid (pB x0 k = true) := by show pB x0 k = true; rw [k0, pB_zero]; exact decide_eq_true hp
          clear k0 HNP
          subst hp
          cases b1 with
          | false =>
            have HV : Hid (vnB ns = false) := HNM.out (by simp)
            go_wp2_with fail
            refine (C1 _).mono ?_
            rintro e w' ⟨rfl, rfl⟩
            go_wp2_with fail
            go_ret
            exact ⟨ret_bool HV.out.symm, HB.out.alloc HB.out.size _⟩
          | true =>
            cases b2 with
            | false =>
              have HV : Hid (vnB ns = false) := HNM.out (by simp)
              go_wp2_with fail
              refine (C1 _).mono ?_
              rintro e w' ⟨rfl, rfl⟩
              go_wp2_with fail
              refine (C2 _).mono ?_
              rintro e w' ⟨rfl, rfl⟩
              go_wp2_with fail
              go_ret
              exact ⟨ret_bool HV.out.symm, HB.out.alloc HB.out.size _⟩
            | true =>
              cases b3 with
              | false =>
                have HV : Hid (vnB ns = false) := HNM.out (by simp)
                go_wp2_with fail
                refine (C1 _).mono ?_
                rintro e w' ⟨rfl, rfl⟩
                go_wp2_with fail
                refine (C2 _).mono ?_
                rintro e w' ⟨rfl, rfl⟩
                go_wp2_with fail
                refine (C3 _).mono ?_
                rintro e w' ⟨rfl, rfl⟩
                go_wp2_with fail
                go_ret
                exact ⟨ret_bool HV.out.symm, HB.out.alloc HB.out.size _⟩
              | true =>
                cases b4 with
                | false =>
                  have HV : Hid (vnB ns = false) := HNM.out (by simp)
                  go_wp2_with fail
                  refine (C1 _).mono ?_
                  rintro e w' ⟨rfl, rfl⟩
                  go_wp2_with fail
                  refine (C2 _).mono ?_
                  rintro e w' ⟨rfl, rfl⟩
                  go_wp2_with fail
                  refine (C3 _).mono ?_
                  rintro e w' ⟨rfl, rfl⟩
                  go_wp2_with fail
                  refine (C4 _).mono ?_
                  rintro e w' ⟨rfl, rfl⟩
                  go_wp2_with fail
                  go_ret
                  exact ⟨ret_bool HV.out.symm, HB.out.alloc HB.out.size _⟩
                | true =>
                  have HV := Lib.hid (HY.out HP2.out (by simp))
                  go_wp2_with fail
                  refine (C1 _).mono ?_
                  rintro e w' ⟨rfl, rfl⟩
                  go_wp2_with fail
                  refine (C2 _).mono ?_
                  rintro e w' ⟨rfl, rfl⟩
                  go_wp2_with fail
                  refine (C3 _).mono ?_
                  rintro e w' ⟨rfl, rfl⟩
                  go_wp2_with fail
                  refine (C4 _).mono ?_
                  rintro e w' ⟨rfl, rfl⟩
                  go_wp2_with fail
                  go_roundw
                  case rel => exact ⟨k + 1, by omega, by go_num, HV.out, HB.out.alloc HB.out.size _⟩
                  case measure => simp [intOf]; omega
        · have HV : Hid (vnB ns = false) := HNP.out (by rw [k0]; exact HP.out 0 rfl x0 hp)
          have ep : (x0 == -1) = false := by simpa using hp
          have ep2 : (x0 != -1) = true := by simpa using hp
          have ep3 : decide (x0 = -1) = false := decide_eq_false hp
          clear k0 HNP
          go_wp2_with fail
          go_ret
          exact ⟨ret_bool HV.out.symm, HB.out.alloc HB.out.size _⟩
      · have e0 : ((k : Int) == 0) = false := by simp; omega
        have e1 : (k == 0) = false := by simpa using k0
        have e2 : decide (0 < (k : Int)) = true := decide_eq_true (by omega)
        have e3 : decide (0 < k) = true := decide_eq_true (by omega)
        have e4 : IntKind.i64.wrap ((k : Int) - 1) = (k : Int) - 1 := by rw [IntKind.wrap_i64]; omega
        have hpb : pB x0 k = (decide (0 ≤ x0) && decide (x0 ≤ (k : Int) - 1)) := by rw [pB_pos _ (by omega), inN_range]; rfl
        have C0 := fun W => sinRange x0 0 ((k : Int) - 1) W
        obtain ⟨b0, h0⟩ : ∃ b, (decide (0 ≤ x0) && decide (x0 ≤ (k : Int) - 1)) = b := ⟨_, rfl⟩
        rw [h0] at hpb C0
        have HPB := Lib.hid hpb
        clear h0 hpb k0
        cases b0 with
        | false =>
          have HV : Hid (vnB ns = false) := HNP.out HPB.out
          clear HNP
          go_wp2_with fail
          refine (C0 _).mono ?_
          rintro e w' ⟨rfl, rfl⟩
          go_wp2_with fail
          go_ret
          exact ⟨ret_bool HV.out.symm, HB.out.alloc HB.out.size _⟩
        | true =>
          have HP2 : Hid (pB x0 k = true) := HPB.out
          clear HNP HPB
          cases b1 with
          | false =>
            have HV : Hid (vnB ns = false) := HNM.out (by simp)
            go_wp2_with fail
            refine (C0 _).mono ?_
            rintro e w' ⟨rfl, rfl⟩
            go_wp2_with fail
            refine (C1 _).mono ?_
            rintro e w' ⟨rfl, rfl⟩
            go_wp2_with fail
            go_ret
            exact ⟨ret_bool HV.out.symm, HB.out.alloc HB.out.size _⟩
          | true =>
            cases b2 with
            | false =>
              have HV : Hid (vnB ns = false) := HNM.out (by simp)
              go_wp2_with fail
              refine (C0 _).mono ?_
              rintro e w' ⟨rfl, rfl⟩
              go_wp2_with fail
              refine (C1 _).mono ?_
              rintro e w' ⟨rfl, rfl⟩
              go_wp2_with fail
              refine (C2 _).mono ?_
              rintro e w' ⟨rfl, rfl⟩
              go_wp2_with fail
              go_ret
              exact ⟨ret_bool HV.out.symm, HB.out.alloc HB.out.size _⟩
            | true =>
              cases b3 with
              | false =>
                have HV : Hid (vnB ns = false) := HNM.out (by simp)
                go_wp2_with fail
                refine (C0 _).mono ?_
                rintro e w' ⟨rfl, rfl⟩
                go_wp2_with fail
                refine (C1 _).mono ?_
                rintro e w' ⟨rfl, rfl⟩
                go_wp2_with fail
                refine (C2 _).mono ?_
                rintro e w' ⟨rfl, rfl⟩
                go_wp2_with fail
                refine (C3 _).mono ?_
                rintro e w' ⟨rfl, rfl⟩
                go_wp2_with fail
                go_ret
                exact ⟨ret_bool HV.out.symm, HB.out.alloc HB.out.size _⟩
              | true =>
                cases b4 with
                | false =>
                  have HV : Hid (vnB ns = false) := HNM.out (by simp)
                  go_wp2_with fail
                  refine (C0 _).mono ?_
                  rintro e w' ⟨rfl, rfl⟩
                  go_wp2_with fail
                  refine (C1 _).mono ?_
                  rintro e w' ⟨rfl, rfl⟩
                  go_wp2_with fail
                  refine (C2 _).mono ?_
                  rintro e w' ⟨rfl, rfl⟩
                  go_wp2_with fail
                  refine (C3 _).mono ?_
                  rintro e w' ⟨rfl, rfl⟩
                  go_wp2_with fail
                  refine (C4 _).mono ?_
                  rintro e w' ⟨rfl, rfl⟩
                  go_wp2_with fail
                  go_ret
                  exact ⟨ret_bool HV.out.symm, HB.out.alloc HB.out.size _⟩
                | true =>
                  have HV := Lib.hid (HY.out HP2.out (by simp))
                  go_wp2_with fail
                  refine (C0 _).mono ?_
                  rintro e w' ⟨rfl, rfl⟩
                  go_wp2_with fail
                  refine (C1 _).mono ?_
                  rintro e w' ⟨rfl, rfl⟩
                  go_wp2_with fail
                  refine (C2 _).mono ?_
                  rintro e w' ⟨rfl, rfl⟩
                  go_wp2_with fail
                  refine (C3 _).mono ?_
                  rintro e w' ⟨rfl, rfl⟩
                  go_wp2_with fail
                  refine (C4 _).mono ?_
                  rintro e w' ⟨rfl, rfl⟩
                  go_wp2_with fail
                  go_roundw
                  case rel => exact ⟨k + 1, by omega, by go_num, HV.out, HB.out.alloc HB.out.size _⟩
                  case measure => simp [intOf]; omega
    · obtain rfl : k = ns.length := by omega
      have CE := fun W => sinRange (ns.length : Int) 1 12 W
      rw [← vn_end HA.out] at CE
      have HB := Lib.hid hB
      clear HA hB
      go_wp2_with fail
      refine (CE _).mono ?_
      rintro e w' ⟨rfl, rfl⟩
      go_wp2_with fail
      go_ret
      exact ⟨rfl, HB.out⟩
end Go.Proofs.Ytfcgjiciobfncaa
namespace Go.Proofs.Ytfcgjiciobfncaa
open Go.RowKit

/-- valid weights -/
def vwB (zs : List Int) : Bool := allB zs 1000 && decide (zs.length ≤ 12) && decide (0 < zs.sum)
theorem vw_no1 {zs : List Int} (h : allB zs 1000 = false) : vwB zs = false := by unfold vwB; rw [h]; rfl
theorem vw_no2 {zs : List Int} (h : 12 < zs.length) : vwB zs = false := by unfold vwB; rw [decide_eq_false (by omega : ¬ zs.length ≤ 12)]; simp
theorem vw_sum {zs : List Int} (h : allB zs 1000 = true) (h2 : zs.length ≤ 12) : vwB zs = decide (0 < zs.sum) := by unfold vwB; rw [h, decide_eq_true h2]; rfl
theorem all_bd {zs : List Int} {most : Int} (h : allB zs most = true) (hm : most ≤ 1000000) : ∀ z ∈ zs, -1000000 ≤ z ∧ z ≤ 1000000 := fun z hz => by
  have := (allB_iff zs most).1 h z hz; omega

theorem vw_is {ws : List Int} (h : vwB ws = true) : allB ws 1000 = true ∧ ws.length ≤ 12 ∧ 0 < ws.sum := by
  unfold vwB at h; simp only [Bool.and_eq_true, decide_eq_true_eq] at h; exact ⟨h.1.1, h.1.2, h.2⟩

set_option maxHeartbeats 1000000 in
/-- impl.ValidWeights -/
theorem iVW (a : Option Addr) (cap : Nat) (zs : List Int) (w : World) (h : IsInts w a zs) (hn : zs.length ≤ 1048576) :
    Calls Try.prog 107 #[.slice a zs.length cap] w fun e w' => e = .returned (.bool (vwB zs)) ∧ w = w' := by
  by_cases h1 : zs.length < 1
  · have hz : zs = [] := List.eq_nil_of_length_eq_zero (by omega)
    subst hz
    go_enter Try.func107, Try.ntmps107
    go_wp2_with fail
    go_ret
    exact ⟨rfl, rfl⟩
  · have h1' : ¬ (zs.length : Int) < 1 := by omega
    by_cases h2 : 12 < zs.length
    · have h2' : (12 : Int) < (zs.length : Int) := by omega
      go_enter Try.func107, Try.ntmps107
      go_wp2_with fail
      go_ret
      exact ⟨ret_bool (vw_no2 h2).symm, rfl⟩
    · have h2' : ¬ (12 : Int) < (zs.length : Int) := by omega
      cases hall : allB zs 1000 with
      | false =>
        have HN := Lib.hid (vw_no1 hall)
        go_enter Try.func107, Try.ntmps107
        go_wp2_with fail
        refine (iall a cap zs 1000 _ h hn).mono ?_
        rintro e w' ⟨rfl, rfl⟩
        go_wp2_with fail
        go_ret
        exact ⟨ret_bool HN.out.symm, rfl⟩
      | true =>
        have HS := Lib.hid (vw_sum hall (by omega))
        have HZ := Lib.hid (all_bd hall (by omega))
        go_enter Try.func107, Try.ntmps107
        go_wp2_with fail
        refine (iall a cap zs 1000 _ h hn).mono ?_
        rintro e w' ⟨rfl, rfl⟩
        go_wp2_with fail
        refine (isum a cap zs _ h hn HZ.out).mono ?_
        rintro e w' ⟨rfl, rfl⟩
        go_wp2_with fail
        go_ret
        exact ⟨ret_bool HS.out.symm, rfl⟩
end Go.Proofs.Ytfcgjiciobfncaa
namespace Go.Proofs.Ytfcgjiciobfncaa
open Go.RowKit

/-- the reader in block b, which has read at most P numbers -/
def Rd (w : World) (b : Nat) (P : Int) : Prop := ∃ (a : Option Addr) (len cap k : Nat),
  w.cell? ⟨b, 0, none⟩ = some (.slice a len cap) ∧ w.cell? ⟨b, 1, none⟩ = some (.int .i64 (k : Int)) ∧ (k : Int) ≤ P ∧ w.frozen? ⟨b, 1, none⟩ = false ∧ len ≤ 2000 ∧
  (len = 0 ∨ ∃ ab off, a = some ⟨ab, off, none⟩ ∧ ab < b ∧ ∀ i, i < len → ∃ x : Int, w.cell? ⟨ab, off + i, none⟩ = some (.int .u8 x) ∧ 0 ≤ x ∧ x < 256)

theorem g_alloc {a w : World} {row : Option Nat} (h : a.grownBy w row) (o : Obj) : a.grownBy (w.alloc o) row :=
  ⟨h.os, h.tape, h.output, Nat.le_trans h.size (by simp), fun i hi hne => (Below.heap_alloc w o i (Nat.lt_of_lt_of_le hi h.size)).trans (h.block i hi hne)⟩
theorem g_set {a w : World} {g : Nat} (h : a.grownBy w (some g)) {p : Addr} (hp : p.block = g ∨ a.heap.size ≤ p.block) (u : Value) : a.grownBy (w.setCell p u) (some g) :=
  ⟨h.os, h.tape, h.output, by simpa [World.setCell] using h.size, fun i hi hne => (Below.heap_setCell w p u i (by
    rintro rfl
    rcases hp with hp | hp
    · exact hne (by rw [hp])
    · omega)).trans (h.block i hi hne)⟩
theorem g_below {a w : World} (h : Below a.heap.size a w) (row : Option Nat) : a.grownBy w row := ⟨h.os, h.tape, h.output, h.size, fun i hi _ => h.block i hi⟩
theorem g_drewN {a w : World} {row : Option Nat} (h : a.grownBy w row) (n : Nat) : a.grownBy (w.drewN n) row := ⟨h.os, h.tape, h.output, h.size, h.block⟩
theorem g_trans {a b c : World} {g : Nat} (h : a.grownBy b (some g)) (k : b.grownBy c (some g)) : a.grownBy c (some g) :=
  ⟨k.os.trans h.os, k.tape.trans h.tape, k.output.trans h.output, Nat.le_trans h.size k.size, fun i hi hne => (k.block i (Nat.lt_of_lt_of_le hi h.size) hne).trans (h.block i hi hne)⟩
theorem g_cell {a w : World} {g : Nat} (h : a.grownBy w (some g)) {b o : Nat} (hb : b < a.heap.size) (hne : b ≠ g) : w.cell? ⟨b, o, none⟩ = a.cell? ⟨b, o, none⟩ :=
  World.cell?_of_block (h.block b hb (fun e => hne (by injection e)))
theorem g_frozen {a w : World} {g : Nat} (h : a.grownBy w (some g)) {b o : Nat} (hb : b < a.heap.size) (hne : b ≠ g) : w.frozen? ⟨b, o, none⟩ = a.frozen? ⟨b, o, none⟩ :=
  World.frozen?_of_block (h.block b hb (fun e => hne (by injection e)))

theorem so {w : World} {a c : Addr} {v u : Value} (h : a ≠ c) (hu : w.cell? c = some u) : (w.setCell a v).cell? c = some u := by
  rw [World.cell?_setCell_other]
  · exact hu
  · exact h
theorem ofInt_i64 (a : Nat) (ha : a < 9223372036854775808) : (BitVec.ofInt 64 (a : Int)).toNat = a := by
  rw [BitVec.ofInt_natCast, BitVec.toNat_ofNat]; exact Nat.mod_eq_of_lt (by omega)
theorem i64_xor_nat (a b : Nat) (ha : a < 9223372036854775808) (hb : b < 9223372036854775808) : bits .xor .i64 (a : Int) (b : Int) = ((a ^^^ b : Nat) : Int) := by
  have hx : a ^^^ b < 2 ^ 63 := Nat.xor_lt_two_pow (by omega) (by omega)
  show IntKind.i64.wrap ((BitVec.ofInt 64 (a : Int) ^^^ BitVec.ofInt 64 (b : Int)).toNat : Int) = _
  rw [BitVec.toNat_xor, ofInt_i64 a ha, ofInt_i64 b hb, IntKind.wrap_i64]
  omega
theorem mixv (X n : Int) (h0 : 0 ≤ X) (h1 : X ≤ 1000000000) (hn : 1 ≤ n) : 0 ≤ (bits .xor .i64 X (X / 64)).tmod n ∧ (bits .xor .i64 X (X / 64)).tmod n < n := by
  obtain ⟨a, rfl⟩ := Int.eq_ofNat_of_zero_le h0
  have e : ((a : Int) / 64) = ((a / 64 : Nat) : Int) := by omega
  rw [e, i64_xor_nat a (a / 64) (by omega) (by omega)]
  rw [Int.tmod_eq_emod_of_nonneg (by omega)]
  exact ⟨Int.emod_nonneg _ (by omega), Int.emod_lt_of_pos _ (by omega)⟩
theorem pick_low (b len cap k : Nat) (a : Option Addr) (n : Int) (w : World) (_h0 : w.cell? ⟨b, 0, none⟩ = some (.slice a len cap)) (h1 : w.cell? ⟨b, 1, none⟩ = some (.int .i64 (k : Int))) (hf : w.frozen? ⟨b, 1, none⟩ = false) (hk : (k : Int) ≤ 100000) (hn : n < 1) :
    Calls Try.prog 63 #[.pointer (some ⟨b, 0, none⟩), .int .i64 n] w fun e w' => e = .returned (.int .i64 0) ∧ w.setCell ⟨b, 1, none⟩ (.int .i64 ((k : Int) + 1)) = w' := by
  go_enter Try.func63, Try.ntmps63
  go_wp2
  go_ret
  exact ⟨rfl, rfl⟩
theorem pick_none (b cap k : Nat) (a : Option Addr) (n : Int) (w : World) (h0 : w.cell? ⟨b, 0, none⟩ = some (.slice a 0 cap)) (h1 : w.cell? ⟨b, 1, none⟩ = some (.int .i64 (k : Int))) (hf : w.frozen? ⟨b, 1, none⟩ = false) (hk : (k : Int) ≤ 100000) (hn : 1 ≤ n) :
    Calls Try.prog 63 #[.pointer (some ⟨b, 0, none⟩), .int .i64 n] w fun e w' => e = .returned (.int .i64 0) ∧ w.setCell ⟨b, 1, none⟩ (.int .i64 ((k : Int) + 1)) = w' := by
  have e1 : (⟨b, 1, none⟩ : Addr) ≠ ⟨b, 0, none⟩ := by simp
  have c0 := so (v := .int .i64 ((k : Int) + 1)) e1 h0
  go_enter Try.func63, Try.ntmps63
  go_wp2
  go_ret
  exact ⟨rfl, rfl⟩
theorem pick_byte (b len cap k ab off : Nat) (x n : Int) (w : World) (h0 : w.cell? ⟨b, 0, none⟩ = some (.slice (some ⟨ab, off, none⟩) len cap)) (h1 : w.cell? ⟨b, 1, none⟩ = some (.int .i64 (k : Int))) (hf : w.frozen? ⟨b, 1, none⟩ = false) (hl : len ≤ 2000) (hn : 1 ≤ n) (hlt : k < len)
    (hne : ab ≠ b) (hx : w.cell? ⟨ab, off + k, none⟩ = some (.int .u8 x)) (hx0 : 0 ≤ x) (hx1 : x < 256) :
    Calls Try.prog 63 #[.pointer (some ⟨b, 0, none⟩), .int .i64 n] w fun e w' => e = .returned (.int .i64 (x % n)) ∧ w.setCell ⟨b, 1, none⟩ (.int .i64 ((k : Int) + 1)) = w' := by
  have e1 : (⟨b, 1, none⟩ : Addr) ≠ ⟨b, 0, none⟩ := by simp
  have e2 : (⟨b, 1, none⟩ : Addr) ≠ ⟨ab, off + k, none⟩ := by intro h; injection h with h; exact hne h.symm
  have c0 := so (v := .int .i64 ((k : Int) + 1)) e1 h0
  have c2 := so (v := .int .i64 ((k : Int) + 1)) e2 hx
  have hl0 : ((len : Int) == 0) = false := by simp; omega
  clear e2
  go_enter Try.func63, Try.ntmps63
  go_wp2
  go_ret
  exact ⟨rfl, rfl⟩
theorem pick_mix (b len cap k ab off : Nat) (x y n : Int) (w : World) (h0 : w.cell? ⟨b, 0, none⟩ = some (.slice (some ⟨ab, off, none⟩) len cap)) (h1 : w.cell? ⟨b, 1, none⟩ = some (.int .i64 (k : Int))) (hf : w.frozen? ⟨b, 1, none⟩ = false) (hl : len ≤ 2000) (hl1 : 1 ≤ len) (hk : k ≤ 100000) (hn : 1 ≤ n) (hlt : ¬ k < len)
    (hne : ab ≠ b) (hx : w.cell? ⟨ab, off + k % len, none⟩ = some (.int .u8 x)) (hx0 : 0 ≤ x) (hx1 : x < 256) (hy : w.cell? ⟨ab, off + (k * 7 + 3) % len, none⟩ = some (.int .u8 y)) (hy0 : 0 ≤ y) (hy1 : y < 256) :
    Calls Try.prog 63 #[.pointer (some ⟨b, 0, none⟩), .int .i64 n] w fun e w' => (∃ v : Int, e = .returned (.int .i64 v) ∧ 0 ≤ v ∧ v < n) ∧ ∃ m, (w.setCell ⟨b, 1, none⟩ (.int .i64 ((k : Int) + 1))).drewN m = w' := by
  have e1 : (⟨b, 1, none⟩ : Addr) ≠ ⟨b, 0, none⟩ := by simp
  have e2 : (⟨b, 1, none⟩ : Addr) ≠ ⟨ab, off + k % len, none⟩ := by intro h; injection h with h; exact hne h.symm
  have e3 : (⟨b, 1, none⟩ : Addr) ≠ ⟨ab, off + (k * 7 + 3) % len, none⟩ := by intro h; injection h with h; exact hne h.symm
  have c0 := so (v := .int .i64 ((k : Int) + 1)) e1 h0
  have c2 := so (v := .int .i64 ((k : Int) + 1)) e2 hx
  have c3 := so (v := .int .i64 ((k : Int) + 1)) e3 hy
  have hl0 : ((len : Int) == 0) = false := by simp; omega
  have hk' : ¬ (k : Int) < (len : Int) := by omega
  have m1 : (k : Int) % (len : Int) < (len : Int) := Int.emod_lt_of_pos _ (by omega)
  have m2 : 0 ≤ (k : Int) % (len : Int) := Int.emod_nonneg _ (by omega)
  have m3 : ((k : Int) * 7 + 3) % (len : Int) < (len : Int) := Int.emod_lt_of_pos _ (by omega)
  have m4 : 0 ≤ ((k : Int) * 7 + 3) % (len : Int) := Int.emod_nonneg _ (by omega)
  have q1 : 0 ≤ (k : Int) / (len : Int) := Int.ediv_nonneg (by omega) (by omega)
  have q2 : (k : Int) / (len : Int) ≤ 100000 := Int.le_trans (Int.ediv_le_self _ (by omega)) (by omega)
  clear e2 e3
  go_enter Try.func63, Try.ntmps63
  go_wp2_with fail
  go_quiet (fail)
  go_wp2
  go_ret
  exact ⟨⟨_, rfl, mixv _ n (by omega) (by omega) hn⟩, _, rfl⟩

/-- what pick leaves -/
def Picked (w : World) (b : Nat) (P n : Int) (e : Ending) (w' : World) : Prop := ∃ v : Nat, e = .returned (.int .i64 (v : Int)) ∧ ((v : Int) < n ∨ v = 0) ∧ Rd w' b P ∧ w.grownBy w' (some b)
theorem picked {w : World} {b : Nat} {P n v : Int} {w' : World} (h0 : 0 ≤ v) (h1 : v < n ∨ v = 0) (h2 : Rd w' b P) (h3 : w.grownBy w' (some b)) : Picked w b P n (.returned (.int .i64 v)) w' :=
  ⟨v.toNat, by rw [Int.toNat_of_nonneg h0], by omega, h2, h3⟩

theorem rd_step {w : World} {b : Nat} {P : Int} {a : Option Addr} {len cap k : Nat} (m : Nat) (h0 : w.cell? ⟨b, 0, none⟩ = some (.slice a len cap)) (h1 : w.cell? ⟨b, 1, none⟩ = some (.int .i64 (k : Int))) (hk : (k : Int) ≤ P) (hf : w.frozen? ⟨b, 1, none⟩ = false) (hl : len ≤ 2000)
    (hr : len = 0 ∨ ∃ ab off, a = some ⟨ab, off, none⟩ ∧ ab < b ∧ ∀ i, i < len → ∃ x : Int, w.cell? ⟨ab, off + i, none⟩ = some (.int .u8 x) ∧ 0 ≤ x ∧ x < 256) :
    Rd ((w.setCell ⟨b, 1, none⟩ (.int .i64 ((k : Int) + 1))).drewN m) b (P + 1) ∧ w.grownBy ((w.setCell ⟨b, 1, none⟩ (.int .i64 ((k : Int) + 1))).drewN m) (some b) := by
  have hg : w.grownBy ((w.setCell ⟨b, 1, none⟩ (.int .i64 ((k : Int) + 1))).drewN m) (some b) := g_drewN (g_set (g_below (Below.refl _ _) _) (.inl rfl) _) m
  refine ⟨⟨a, len, cap, k + 1, ?_, ?_, by omega, ?_, hl, ?_⟩, hg⟩
  · show (w.setCell ⟨b, 1, none⟩ (.int .i64 ((k : Int) + 1))).cell? _ = _
    exact so (by simp) h0
  · show (w.setCell ⟨b, 1, none⟩ (.int .i64 ((k : Int) + 1))).cell? _ = _
    rw [World.cell?_setCell_same' _ _ _ (by rw [h1]; rfl)]; simp
  · show (w.setCell ⟨b, 1, none⟩ (.int .i64 ((k : Int) + 1))).frozen? _ = _
    simp [go_sem, hf]
  · rcases hr with hr | ⟨ab, off, ha, hlt, hx⟩
    · exact .inl hr
    · refine .inr ⟨ab, off, ha, hlt, fun i hi => ?_⟩
      obtain ⟨x, hc, h2⟩ := hx i hi
      refine ⟨x, ?_, h2⟩
      show (w.setCell ⟨b, 1, none⟩ (.int .i64 ((k : Int) + 1))).cell? _ = _
      exact so (by intro h; injection h with h; omega) hc
theorem pick_any (b : Nat) (P n : Int) (w : World) (h : Rd w b P) (hP : P ≤ 100000) :
    Calls Try.prog 63 #[.pointer (some ⟨b, 0, none⟩), .int .i64 n] w (Picked w b (P + 1) n) := by
  obtain ⟨a, len, cap, k, h0, h1, hk, hf, hl, hr⟩ := h
  by_cases hn : n < 1
  · refine (pick_low b len cap k a n w h0 h1 hf (by omega) hn).mono ?_
    rintro e w' ⟨rfl, rfl⟩
    exact picked (by omega) (.inr rfl) (rd_step 0 h0 h1 hk hf hl hr).1 (rd_step 0 h0 h1 hk hf hl hr).2
  · by_cases hz : len = 0
    · subst hz
      refine (pick_none b cap k a n w h0 h1 hf (by omega) (by omega)).mono ?_
      rintro e w' ⟨rfl, rfl⟩
      exact picked (by omega) (.inr rfl) (rd_step 0 h0 h1 hk hf hl hr).1 (rd_step 0 h0 h1 hk hf hl hr).2
    · have hr' := hr
      rcases hr' with hr' | ⟨ab, off, rfl, hlt, hx⟩
      · exact absurd hr' hz
      · by_cases hkl : k < len
        · obtain ⟨x, hc, x0, x1⟩ := hx k hkl
          refine (pick_byte b len cap k ab off x n w h0 h1 hf hl (by omega) hkl (by omega) hc x0 x1).mono ?_
          rintro e w' ⟨rfl, rfl⟩
          exact picked (Int.emod_nonneg _ (by omega)) (.inl (Int.emod_lt_of_pos _ (by omega))) (rd_step 0 h0 h1 hk hf hl hr).1 (rd_step 0 h0 h1 hk hf hl hr).2
        · obtain ⟨x, hc, x0, x1⟩ := hx (k % len) (Nat.mod_lt _ (by omega))
          obtain ⟨y, hd, y0, y1⟩ := hx ((k * 7 + 3) % len) (Nat.mod_lt _ (by omega))
          refine (pick_mix b len cap k ab off x y n w h0 h1 hf hl (by omega) (by omega) (by omega) hkl (by omega) hc x0 x1 hd y0 y1).mono ?_
          rintro e w' ⟨⟨v, rfl, v0, v1⟩, m, rfl⟩
          exact picked v0 (.inl v1) (rd_step m h0 h1 hk hf hl hr).1 (rd_step m h0 h1 hk hf hl hr).2

/-- what one of a list leaves -/
def Oned (w : World) (b : Nat) (P lo hi : Int) (e : Ending) (w' : World) : Prop := ∃ v : Int, e = .returned (.int .i64 v) ∧ lo ≤ v ∧ v ≤ hi ∧ Rd w' b P ∧ w.grownBy w' (some b)
theorem one_any (b g n cap : Nat) (P lo hi : Int) (w : World) (h : Rd w b P) (hP : P ≤ 100000) (hgb : g ≠ b) (hgs : g < w.heap.size) (hn : 1 ≤ n) (hn' : n ≤ 1000)
    (hc : ∀ i, i < n → ∃ z : Int, w.cell? ⟨g, i, none⟩ = some (.int .i64 z) ∧ lo ≤ z ∧ z ≤ hi) :
    Calls Try.prog 62 #[.pointer (some ⟨b, 0, none⟩), .slice (some ⟨g, 0, none⟩) n cap] w (Oned w b (P + 1) lo hi) := by
  go_enter Try.func62, Try.ntmps62
  go_wp2_with fail
  refine (pick_any b P n _ h hP).mono ?_
  rintro e w' ⟨v, rfl, hv, hR, hG⟩
  have hvn : v < n := by omega
  have hvi : (v : Int) < (n : Int) := by omega
  obtain ⟨z, hz, z0, z1⟩ := hc v hvn
  have hz' := (g_cell (o := v) hG hgs hgb).trans hz
  clear hz hc hv
  go_wp2
  go_ret
  exact ⟨z, rfl, z0, z1, hR, hG⟩

/-- newReader -/
def Made (w : World) (e : Ending) (w' : World) : Prop := e = .returned (.pointer (some ⟨w.heap.size, 0, none⟩)) ∧ Rd w' w.heap.size 0 ∧ Below w.heap.size w w' ∧ w.heap.size < w'.heap.size
theorem byte_bd {z : Int} (h : (Lit.int .u8 z).wf = true) : 0 ≤ z ∧ z < 256 := by
  have := bounds_u8 h
  omega
theorem rd_new (w : World) (a : Option Addr) (len cap : Nat) (t : TypeId) (hl : len ≤ 2000)
    (hr : len = 0 ∨ ∃ ab off, a = some ⟨ab, off, none⟩ ∧ ab < w.heap.size ∧ ∀ i, i < len → ∃ x : Int, w.cell? ⟨ab, off + i, none⟩ = some (.int .u8 x) ∧ 0 ≤ x ∧ x < 256) :
    Made w (.returned (.pointer (some ⟨w.heap.size, 0, none⟩))) (w.alloc (.cells #[.slice a len cap, .int .i64 0] t)) := by
  have hb : Below w.heap.size w (w.alloc (.cells #[.slice a len cap, .int .i64 0] t)) := (Below.refl _ _).alloc (Nat.le_refl _) _
  refine ⟨rfl, ⟨a, len, cap, 0, by simp [go_sem], by simp [go_sem], by simp, by simp [go_sem], hl, ?_⟩, hb, by simp⟩
  rcases hr with hr | ⟨ab, off, ha, hlt, hx⟩
  · exact .inl hr
  · refine .inr ⟨ab, off, ha, hlt, fun i hi => ?_⟩
    obtain ⟨x, hc, h2⟩ := hx i hi
    exact ⟨x, (hb.cell (p := ⟨ab, off + i, none⟩) hlt).trans hc, h2⟩
theorem row_bytes {w : World} {x : Addr} {len cap : Nat} {zs : List Int} (hl : len ≤ cap) (hz : zs.length = cap) (hcell : ∀ i, i < zs.length → w.cell? (x.add i) = some (.int .u8 (zs.getD i 0))) (hwz : ∀ n ∈ zs, (Lit.int .u8 n).wf = true) :
    len = 0 ∨ ∃ ab off, some x = some (⟨ab, off, none⟩ : Addr) ∧ ab < w.heap.size ∧ ∀ i, i < len → ∃ y : Int, w.cell? ⟨ab, off + i, none⟩ = some (.int .u8 y) ∧ 0 ≤ y ∧ y < 256 := by
  by_cases h0 : len = 0
  · exact .inl h0
  · obtain ⟨b, off, spot⟩ := x
    have hc := hcell 0 (by omega)
    have hspot : spot = none := by simpa [Addr.add] using World.cell?_spot hc
    subst hspot
    have hlt : b < w.heap.size := World.block_lt_of_cell? w _ hc
    refine .inr ⟨b, off, rfl, hlt, fun i hi => ?_⟩
    have hci := hcell i (by omega)
    have hci' : w.cell? ⟨b, off + i, none⟩ = some (.int .u8 (zs.getD i 0)) := by
      by_cases hi0 : i = 0
      · subst hi0; simpa [Addr.add] using hci
      · simpa [Addr.add, hi0] using hci
    exact ⟨zs.getD i 0, hci', byte_bd (hwz _ (by rw [List.getD_eq_getElem?_getD, List.getElem?_eq_getElem (by omega)]; simp))⟩
theorem newReader_any (a : Option Addr) (len cap : Nat) (zs : List Int) (w : World) (h : IsRow .u8 w a len cap zs) :
    Calls Try.prog 59 #[.slice a len cap] w (Made w) := by
  rcases h with ⟨rfl, rfl, rfl, rfl⟩ | ⟨x, rfl, hl, hm, hz, hcell, hwz⟩
  · go_enter Try.func59, Try.ntmps59
    go_wp2
    go_ret
    exact rd_new w none 0 0 _ (by omega) (.inl rfl)
  · have hr := row_bytes hl hz hcell hwz
    clear hcell hwz
    unfold maxLen at hm
    by_cases h2 : (2000 : Int) < (len : Int)
    · have hr2 : 2000 = 0 ∨ ∃ ab off, some x = some (⟨ab, off, none⟩ : Addr) ∧ ab < w.heap.size ∧ ∀ i, i < 2000 → ∃ y : Int, w.cell? ⟨ab, off + i, none⟩ = some (.int .u8 y) ∧ 0 ≤ y ∧ y < 256 := by
        rcases hr with hr | ⟨ab, off, ha, hb, hx⟩
        · omega
        · exact .inr ⟨ab, off, ha, hb, fun i hi => hx i (by omega)⟩
      have HR := Lib.hid hr2
      clear hr hr2
      go_enter Try.func59, Try.ntmps59
      go_wp2
      go_ret
      exact rd_new w (some x) 2000 cap _ (by omega) HR.out
    · have HR := Lib.hid hr
      clear hr
      go_enter Try.func59, Try.ntmps59
      go_wp2
      go_ret
      exact rd_new w (some x) len cap _ (by omega) HR.out

/-- a block of two cells that may be written -/
def Cell2 (w : World) (g : Nat) (x y : Value) : Prop := w.cell? ⟨g, 0, none⟩ = some x ∧ w.cell? ⟨g, 1, none⟩ = some y ∧ w.frozen? ⟨g, 0, none⟩ = false ∧ w.frozen? ⟨g, 1, none⟩ = false ∧ g < w.heap.size
theorem c2_new (w : World) (x y : Value) (t : TypeId) : Cell2 (w.alloc (.cells #[x, y] t)) w.heap.size x y := by
  refine ⟨?_, ?_, ?_, ?_, ?_⟩ <;> simp [go_sem]
theorem c2_below {w w' : World} {g : Nat} {x y : Value} (h : Cell2 w g x y) (hB : Below w.heap.size w w') : Cell2 w' g x y := by
  obtain ⟨h0, h1, h2, h3, h4⟩ := h
  exact ⟨(hB.cell (p := ⟨g, 0, none⟩) h4).trans h0, (hB.cell (p := ⟨g, 1, none⟩) h4).trans h1, (hB.frozen (p := ⟨g, 0, none⟩) h4).trans h2, (hB.frozen (p := ⟨g, 1, none⟩) h4).trans h3, Nat.lt_of_lt_of_le h4 hB.size⟩
theorem c2_alloc {w : World} {g : Nat} {x y : Value} (h : Cell2 w g x y) (o : Obj) : Cell2 (w.alloc o) g x y := c2_below h ((Below.refl _ _).alloc (Nat.le_refl _) _)
theorem c2_grown {w w' : World} {g b : Nat} {x y : Value} (h : Cell2 w g x y) (hG : w.grownBy w' (some b)) (hne : g ≠ b) : Cell2 w' g x y := by
  obtain ⟨h0, h1, h2, h3, h4⟩ := h
  exact ⟨(g_cell hG h4 hne).trans h0, (g_cell hG h4 hne).trans h1, (g_frozen hG h4 hne).trans h2, (g_frozen hG h4 hne).trans h3, Nat.lt_of_lt_of_le h4 hG.size⟩
theorem rd_below {w w' : World} {b B : Nat} {P : Int} (h : Rd w b P) (hb : b < B) (hB : Below B w w') : Rd w' b P := by
  obtain ⟨a, len, cap, k, h0, h1, hk, hf, hl, hr⟩ := h
  refine ⟨a, len, cap, k, (hB.cell (p := ⟨b, 0, none⟩) hb).trans h0, (hB.cell (p := ⟨b, 1, none⟩) hb).trans h1, hk, (hB.frozen (p := ⟨b, 1, none⟩) hb).trans hf, hl, ?_⟩
  rcases hr with hr | ⟨ab, off, ha, hlt, hx⟩
  · exact .inl hr
  · refine .inr ⟨ab, off, ha, hlt, fun i hi => ?_⟩
    obtain ⟨x, hc, h2⟩ := hx i hi
    exact ⟨x, (hB.cell (p := ⟨ab, off + i, none⟩) (Nat.lt_trans hlt hb)).trans hc, h2⟩
theorem rd_end {w w4 wf : World} {b : Nat} {P P' : Int} (hb : b < w.heap.size) (hR : Rd w4 b P') (hP : P' = P) (hG : w.grownBy w4 (some b)) (hB : Below w.heap.size w4 wf) : Rd wf b P ∧ w.grownBy wf (some b) :=
  ⟨hP ▸ rd_below hR hb hB, ⟨hB.os.trans hG.os, hB.tape.trans hG.tape, hB.output.trans hG.output, Nat.le_trans hG.size hB.size, fun i hi hne => (hB.block i hi).trans (hG.block i hi hne)⟩⟩
theorem rd_up {w : World} {b : Nat} {P P' : Int} (h : Rd w b P) (hP : P ≤ P') : Rd w b P' := by
  obtain ⟨a, len, cap, k, h0, h1, hk, hr⟩ := h
  exact ⟨a, len, cap, k, h0, h1, by omega, hr⟩
theorem rd_alloc {w : World} {b : Nat} {P : Int} (h : Rd w b P) (hb : b < w.heap.size) (o : Obj) : Rd (w.alloc o) b P := rd_below h hb ((Below.refl _ _).alloc (Nat.le_refl _) _)
theorem g_new {w w' : World} {b : Nat} {o : Obj} (h : (w.alloc o).grownBy w' (some b)) : w.grownBy w' (some b) := g_trans (World.grownBy_alloc w o _) h
theorem lit_cells (w : World) (zs : List Int) (t : TypeId) (lo hi : Int) (hz : ∀ z ∈ zs, lo ≤ z ∧ z ≤ hi) :
    ∀ i, i < zs.length → ∃ z : Int, (w.alloc (.cells (zs.map (Value.int .i64)).toArray t)).cell? ⟨w.heap.size, i, none⟩ = some (.int .i64 z) ∧ lo ≤ z ∧ z ≤ hi := by
  intro i hi'
  refine ⟨zs[i], ?_, hz _ (List.getElem_mem hi')⟩
  simp [World.cell?_alloc_new, hi']
/-- one of a list that has just been made -/
theorem one_lit (b n : Nat) (P lo hi : Int) (zs : List Int) (t : TypeId) (w : World) (h : Rd w b P) (hP : P ≤ 100000) (hb : b < w.heap.size) (hl : zs.length = n) (hn : 1 ≤ n) (hn' : n ≤ 1000) (hz : ∀ z ∈ zs, lo ≤ z ∧ z ≤ hi) :
    Calls Try.prog 62 #[.pointer (some ⟨b, 0, none⟩), .slice (some ⟨w.heap.size, 0, none⟩) n n] (w.alloc (.cells (zs.map (Value.int .i64)).toArray t)) (Oned w b (P + 1) lo hi) := by
  refine (one_any b w.heap.size n n P lo hi _ (rd_alloc h hb _) hP (by omega) (by simp) hn hn' (by rw [← hl]; exact lit_cells w zs t lo hi hz)).mono ?_
  rintro e w' ⟨v, rfl, v0, v1, hR, hG⟩
  exact ⟨v, rfl, v0, v1, hR, g_new hG⟩
theorem row_below {k : IntKind} {w w' : World} {a : Option Addr} {len cap : Nat} {zs : List Int} (h : IsRow k w a len cap zs) (hB : Below w.heap.size w w') : IsRow k w' a len cap zs := by
  rcases h with h | ⟨x, ha, hl, hm, hz, hcell, hwz⟩
  · exact .inl h
  · refine .inr ⟨x, ha, hl, hm, hz, fun i hi => ?_, hwz⟩
    have hc := hcell i hi
    exact (hB.cell (World.block_lt_of_cell? w _ hc)).trans hc
theorem below_grown {w w1 w2 : World} {b : Nat} (h : Below w.heap.size w w1) (hG : w1.grownBy w2 (some b)) (hb : w.heap.size ≤ b) : Below w.heap.size w w2 :=
  ⟨hG.os.trans h.os, hG.tape.trans h.tape, hG.output.trans h.output, Nat.le_trans h.size hG.size, fun i hi => (hG.block i (Nat.lt_of_lt_of_le hi h.size) (fun e => by injection e with e; omega)).trans (h.block i hi)⟩
end Go.Proofs.Ytfcgjiciobfncaa
namespace Go.Proofs.Ytfcgjiciobfncaa
open Go.RowKit

/-- what can be divided -/
def csB (n : Int) (ws : List Int) : Bool := decide (0 ≤ n) && decide (n ≤ 500) && vwB ws
theorem cs_no1 {n : Int} (ws : List Int) (h : n < 0 ∨ 500 < n) : csB n ws = false := by
  unfold csB
  rcases h with h | h
  · rw [decide_eq_false (by omega : ¬ 0 ≤ n)]; rfl
  · rw [decide_eq_false (by omega : ¬ n ≤ 500)]; simp
theorem cs_is {n : Int} {ws : List Int} (h : 0 ≤ n ∧ n ≤ 500) : csB n ws = vwB ws := by unfold csB; rw [decide_eq_true h.1, decide_eq_true h.2]; rfl
theorem cs_yes {n : Int} {ws : List Int} (h : csB n ws = true) : (0 ≤ n ∧ n ≤ 500) ∧ vwB ws = true := by
  unfold csB at h; simp only [Bool.and_eq_true, decide_eq_true_eq] at h; exact h
theorem icanSplit (n : Int) (a : Option Addr) (cap : Nat) (ws : List Int) (w : World) (h : IsInts w a ws) (hn : ws.length ≤ 1048576) :
    Calls Try.prog 105 #[.int .i64 n, .slice a ws.length cap] w fun e w' => e = .returned (.bool (csB n ws)) ∧ w = w' := by
  by_cases h1 : n < 0
  · go_enter Try.func105, Try.ntmps105
    go_wp2_with fail
    go_ret
    exact ⟨ret_bool (cs_no1 ws (by omega)).symm, rfl⟩
  · by_cases h2 : 500 < n
    · have h3 : decide (n ≤ 500) = false := by simp; omega
      go_enter Try.func105, Try.ntmps105
      go_wp2_with fail
      go_ret
      exact ⟨ret_bool (cs_no1 ws (by omega)).symm, rfl⟩
    · have HC := Lib.hid (cs_is (n := n) (ws := ws) (by omega))
      go_enter Try.func105, Try.ntmps105
      go_wp2_with fail
      refine (iVW a cap ws _ h hn).mono ?_
      rintro e w' ⟨rfl, rfl⟩
      go_wp2_with fail
      go_ret
      exact ⟨ret_bool HC.out.symm, rfl⟩
/-- the quotas -/
def qs (n : Int) (ws : List Int) : List Int := ws.map fun z => n * z / ws.sum
theorem qs_len (n : Int) (ws : List Int) : (qs n ws).length = ws.length := by unfold qs; simp
theorem qs_get (n : Int) (ws : List Int) {k : Nat} (h : k < ws.length) : (qs n ws).getD k 0 = n * ws.getD k 0 / ws.sum := by
  unfold qs
  rw [List.getD_eq_getElem?_getD, List.getD_eq_getElem?_getD, List.getElem?_map, List.getElem?_eq_getElem h]; rfl
theorem q_bd {n : Int} {ws : List Int} (h : csB n ws = true) {k : Nat} (hk : k < ws.length) : 0 ≤ ws.getD k 0 ∧ ws.getD k 0 ≤ 1000 ∧ 0 ≤ n * ws.getD k 0 ∧ n * ws.getD k 0 ≤ 500000 := by
  obtain ⟨⟨a, b⟩, c⟩ := cs_yes h
  have e := (allB_iff ws 1000).1 (vw_is c).1 _ (getD_mem hk)
  exact ⟨e.1, e.2, Int.mul_nonneg a e.1, Int.le_trans (Int.mul_le_mul b e.2 e.1 (by omega)) (by omega)⟩
theorem ws_bd {ws : List Int} (h : vwB ws = true) : 1 ≤ ws.sum ∧ ws.sum ≤ 12000000 := by
  obtain ⟨a, b, c⟩ := vw_is h
  have := sum_bd ws (all_bd a (by omega)) ws.length (Nat.le_refl _)
  rw [List.take_of_length_le (Nat.le_refl _)] at this
  omega

/-- what QuotasOf leaves -/
def Quot (w : World) (n : Int) (ws : List Int) (e : Ending) (w' : World) : Prop := ∃ g : Nat, e = .returned (.slice (some ⟨g, 0, none⟩) ws.length ws.length) ∧ w.heap.size ≤ g ∧ Row w' g (qs n ws) ∧ Below w.heap.size w w'

/-- what spec.quotas leaves -/
def QuotS (w : World) (n : Int) (ws : List Int) (e : Ending) (w' : World) : Prop := ∃ (b : Option Addr) (cap : Nat), e = .returned (.slice b ws.length cap) ∧ IsInts w' b (qs n ws) ∧ Below w.heap.size w w'
def QuotO (w : World) (n : Int) (ws : List Int) (e : Ending) (w' : World) : Prop := ∃ v, e = .returned v ∧ w'.ownsRow w.heap.size 3 1 v ws.length ((qs n ws).map (Value.int .i64)) ∧ Below w.heap.size w w'
end Go.Proofs.Ytfcgjiciobfncaa

namespace Go.Proofs.Ytfcgjiciobfncaa
open Go.RowKit
set_option linter.unusedSimpArgs false
set_option linter.unusedVariables false
theorem kids_len (ns : List Nd) (at_ : Int) : (kidsF ns at_).length ≤ ns.length := kidsTo_len ns at_ _
set_option maxHeartbeats 2000000 in
/-- spec.kidsOf -/
theorem skids (a : Option Addr) (cap : Nat) (ns : List Nd) (at_ : Int) (w : World) (h : IsNd w a ns) (hv : vnB ns = true) :
    Calls Try.prog 101 #[.slice a ns.length cap, .int .i64 at_] w (OutI w (kidsF ns at_)) := by
  obtain ⟨l1, l12, _⟩ := vn_is hv
  obtain ⟨i0, hi0, hz0, hz1, hz2⟩ := info_parts infoInt
  rcases h with rfl | ⟨g, o, rfl, hc⟩
  · simp at l1
  have HC := Lib.hid hc
  clear hc hv
  go_enter Try.func101, Try.ntmps101
  go_wp2_with fail
  go_loopw [5, 6] (fun v i wr => ∃ k : Nat, k ≤ ns.length ∧ i = .int .i64 k ∧ OwnI wr w.heap.size v (kidsTo ns at_ k) ∧ Below w.heap.size w wr) (fun _ i _ => ns.length - (intOf i).toNat)
  case atStart => exact ⟨0, Nat.zero_le _, rfl, OwnI.new (Below.refl _ w), by go_grown⟩
  case round =>
    obtain ⟨k, hk, rfl, hO, hB⟩ := hrel
    have hsz := hB.size
    by_cases hlt : k < ns.length
    · have c0 := (nd_at HC.out hB hlt).1
      have hyes : (ns.getD k nd0).1 = at_ → kidsTo ns at_ (k + 1) = kidsTo ns at_ k ++ [(k : Int)] := fun e => kidsTo_yes e
      have hno : ¬ (ns.getD k nd0).1 = at_ → kidsTo ns at_ (k + 1) = kidsTo ns at_ k := fun e => kidsTo_no e
      have hll := kidsTo_len ns at_ k
      generalize (ns.getD k nd0).1 = x0 at c0 hyes hno
      generalize kidsTo ns at_ k = ks at hyes hno hll hO
      by_cases hp : x0 = at_
      · have HY := Lib.hid (hyes hp)
        subst hp
        clear hyes hno
        go_wp2_with (first | (at_builtin; refine wpList_append_own _ rfl (.tmp 21) (.tmp 23) _ rfl w.heap.size 3 i0 (.int .i64 0) 1 8 Try.underlying31 hi0 hz0 hz1 hz2 rfl (by decide) _ _ _ rfl (hO.alloc _) ⟨wr.heap.size, 0, none⟩ 1 1 [.int .i64 (k : Int)] rfl rfl (cell_one_new _ _ _) (fun x hx => by simp at hx; subst hx; rfl) (by unfold maxLen; omega) (by omega) (by simp; omega) ?_; intro v3 w3 hown3 hgrow3 hnil3))
        have HR : Hid (OwnI w3 w.heap.size v3 (kidsTo ns x0 (k + 1)) ∧ Below w.heap.size w w3) := ⟨by rw [HY.out]; exact OwnI.snoc hown3, (hB.alloc hsz _).grown hgrow3 (by simp; omega) hO.grow⟩
        clear hO hown3 hgrow3 hnil3 hB
        go_roundw
        case rel => exact ⟨k + 1, by omega, by go_num, HR.out.1, HR.out.2⟩
        case measure => simp [intOf]; omega
      · have HY := Lib.hid (hno hp)
        have eb : (x0 == at_) = false := by simpa using hp
        have HO := Lib.hid hO
        have HB := Lib.hid hB
        clear hyes hno hp hO hB
        go_wp2_with fail
        go_roundw
        case rel => exact ⟨k + 1, by omega, by go_num, by rw [HY.out]; exact HO.out, HB.out⟩
        case measure => simp [intOf]; omega
    · have HO := Lib.hid hO
      have HB := Lib.hid hB
      clear hO hB
      go_wp2_with fail
      go_ret
      exact ⟨_, rfl, by rw [show k = ns.length from by omega] at HO; exact HO.out, HB.out⟩
set_option maxHeartbeats 4000000 in
/-- impl.KidsOf -/
theorem iKids (a : Option Addr) (cap : Nat) (ns : List Nd) (at_ : Int) (w : World) (h : IsNd w a ns) (hn : ns.length ≤ 1048576) (hcap : ns.length ≤ cap) :
    Calls Try.prog 90 #[.slice a ns.length cap, .int .i64 at_] w (OutI w (kidsV ns at_)) := by
  have VN := iVN a cap ns _ h hn hcap
  have CI := fun W => iisNode a ns.length cap at_ W hn
  skip
  skip
  cases hv : vnB ns with
  | false =>
    rw [kids_no (.inl hv)]
    rw [hv] at VN
    clear hv h
    go_enter Try.func90, Try.ntmps90
    go_wp2_with fail
    refine VN.mono ?_
    rintro e w1 ⟨rfl, C⟩
    go_wp2_with fail
    go_ret
    exact outI_nil C
  | true =>
  rw [hv] at VN
  cases hi : inN ns.length at_ with
  | false =>
    rw [kids_no (.inr hi)]
    rw [hi] at CI
    clear hv hi h
    go_enter Try.func90, Try.ntmps90
    go_wp2_with fail
    refine VN.mono ?_
    rintro e w1 ⟨rfl, C⟩
    go_wp2_with fail
    refine (CI _).mono ?_
    rintro e w' ⟨rfl, rfl⟩
    go_wp2_with fail
    go_ret
    exact outI_nil C
  | true =>
    rw [hi] at CI
    rw [kids_yes hv hi]
    obtain ⟨i0, hi0, hz0, hz1, hz2⟩ := info_parts infoInt
    have HH := Lib.hid h
    obtain ⟨l1, l12, _⟩ := vn_is hv
    rcases h with rfl | ⟨g, o, rfl, hc⟩
    · simp at l1
    have HC := Lib.hid hc
    clear hi hc hv
    go_enter Try.func90, Try.ntmps90
    go_wp2_with fail
    refine VN.mono ?_
    rintro e w1 ⟨rfl, C⟩
    go_wp2_with fail
    refine (CI _).mono ?_
    rintro e w' ⟨rfl, rfl⟩
    clear VN CI
    go_wp2_with fail
    go_loopw [5, 20] (fun v i wr => ∃ k : Nat, k ≤ ns.length ∧ i = .int .i64 k ∧ OwnI wr w.heap.size v (kidsTo ns at_ k) ∧ Below w.heap.size w wr) (fun _ i _ => ns.length - (intOf i).toNat)
    case atStart => exact ⟨0, Nat.zero_le _, rfl, OwnI.new C, C.alloc C.size _⟩
    case round =>
      clear C
      obtain ⟨k, hk, rfl, hO, hB⟩ := hrel
      have hsz := hB.size
      by_cases hlt : k < ns.length
      · obtain ⟨c0, c1, c2, c3, c4⟩ := nd_at HC.out hB hlt
        have hyes : (ns.getD k nd0).1 = at_ → kidsTo ns at_ (k + 1) = kidsTo ns at_ k ++ [(k : Int)] := fun e => kidsTo_yes e
        have hno : ¬ (ns.getD k nd0).1 = at_ → kidsTo ns at_ (k + 1) = kidsTo ns at_ k := fun e => kidsTo_no e
        have hll := kidsTo_len ns at_ k
        generalize ns.getD k nd0 = nd at c0 c1 c2 c3 c4 hyes hno
        obtain ⟨x0, x1, x2, x3, x4⟩ := nd
        dsimp only at c0 c1 c2 c3 c4 hyes hno
        generalize kidsTo ns at_ k = ks at hyes hno hll hO
        obtain ⟨Wa, hWa⟩ : ∃ Wa, wr.alloc (.cells #[.int .i64 x0, .int .i64 x1, .int .i64 x2, .int .i64 x3, .int .i64 x4] 60) = Wa := ⟨_, rfl⟩
        have K0 : Blk Wa wr.heap.size 60 #[.int .i64 x0, .int .i64 x1, .int .i64 x2, .int .i64 x3, .int .i64 x4] := by rw [← hWa]; exact Blk.new _ _ _
        have kb0 := K0.cell 0
        dsimp at kb0
        have hOa : OwnI Wa w.heap.size u5 ks := by rw [← hWa]; exact World.ownsRow.alloc hO _
        have hBa : Below w.heap.size w Wa := by rw [← hWa]; exact hB.alloc hsz _
        have hsa := hBa.size
        clear hO hB K0
        by_cases hp : x0 = at_
        · have HY := Lib.hid (hyes hp)
          subst hp
          clear hyes hno
          go_wp2_with (first | (at_builtin; refine wpList_append_own _ rfl (.tmp 29) (.tmp 31) _ rfl w.heap.size 3 i0 (.int .i64 0) 1 8 Try.underlying31 hi0 hz0 hz1 hz2 rfl (by decide) _ _ _ rfl (hOa.alloc _) ⟨Wa.heap.size, 0, none⟩ 1 1 [.int .i64 (k : Int)] rfl rfl (cell_one_new _ _ _) (fun x hx => by simp at hx; subst hx; rfl) (by unfold maxLen; omega) (by omega) (by simp; omega) ?_; intro v3 w3 hown3 hgrow3 hnil3))
          have HR : Hid (OwnI w3 w.heap.size v3 (kidsTo ns x0 (k + 1)) ∧ Below w.heap.size w w3) := ⟨by rw [HY.out]; exact OwnI.snoc hown3, (hBa.alloc hsa _).grown hgrow3 (by simp; omega) hOa.grow⟩
          clear hOa hown3 hgrow3 hnil3 hBa hWa kb0
          go_roundw
          case rel => exact ⟨k + 1, by omega, by go_num, HR.out.1, HR.out.2⟩
          case measure => simp [intOf]; omega
        · have HY := Lib.hid (hno hp)
          have eb : (x0 == at_) = false := by simpa using hp
          have HO := Lib.hid hOa
          have HB := Lib.hid hBa
          clear hyes hno hp hOa hBa
          go_wp2_with fail
          go_roundw
          case rel => exact ⟨k + 1, by omega, by go_num, by rw [HY.out]; exact HO.out, HB.out⟩
          case measure => simp [intOf]; omega
      · have HO := Lib.hid hO
        have HB := Lib.hid hB
        clear hO hB
        go_wp2_with fail
        go_ret
        exact ⟨_, rfl, by rw [show k = ns.length from by omega] at HO; exact HO.out, HB.out⟩
end Go.Proofs.Ytfcgjiciobfncaa
namespace Go.Proofs.Ytfcgjiciobfncaa
open Go.RowKit
set_option linter.unusedSimpArgs false
set_option linter.unusedVariables false

theorem flatNd_gate : ∀ (ns : List Nd) (k : Nat) (x : Int), k < ns.length → (flatNd ns).set (k * 5 + 1) x = flatNd (ns.set k ((ns.getD k nd0).1, x, (ns.getD k nd0).2.2)) := by
  intro ns
  induction ns with
  | nil => intro k x h; simp at h
  | cons h t ih =>
    intro k x hk
    cases k with
    | zero => rfl
    | succ k =>
      have := ih k x (by simpa using hk)
      rw [show (k + 1) * 5 + 1 = k * 5 + 1 + 1 + 1 + 1 + 1 + 1 from by omega]
      show h.1 :: h.2.1 :: h.2.2.1 :: h.2.2.2.1 :: h.2.2.2.2 :: ((flatNd t).set (k * 5 + 1) x) = _
      rw [this]; rfl
def sgB (ns : List Nd) (at_ wt : Int) : Bool := vnB ns && inN ns.length at_ && (decide (0 ≤ wt) && decide (wt ≤ 1000))
def sgL (ns : List Nd) (at_ wt : Int) : List Nd := ns.set at_.toNat ((ns.getD at_.toNat nd0).1, wt, (ns.getD at_.toNat nd0).2.2)
theorem gate_no {ns : List Nd} {at_ wt : Int} (h : vnB ns = false ∨ inN ns.length at_ = false ∨ (decide (0 ≤ wt) && decide (wt ≤ 1000)) = false) : sgB ns at_ wt = false := by
  unfold sgB; rcases h with h | h | h <;> rw [h] <;> simp
/-- what a function that hands back nodes leaves: nil, or nodes in memory of its own -/
def OutNd (w : World) (b : Bool) (L : List Nd) (e : Ending) (w' : World) : Prop := (b = false → e = .returned (.slice none 0 0)) ∧ (b = true → ∃ g cap, e = .returned (.slice (some ⟨g, 0, none⟩) L.length cap) ∧ w.heap.size ≤ g ∧ Flat w' g 60 (flatNd L) ∧ L.length ≤ cap) ∧ Below w.heap.size w w'
theorem outNd_no {w w' : World} {L : List Nd} {e : Ending} (he : e = .returned (.slice none 0 0)) (h : Below w.heap.size w w') : OutNd w false L e w' := ⟨fun _ => he, (fun c => by cases c), h⟩
theorem outNd_yes {w w' : World} {L : List Nd} {g cap n : Nat} {e : Ending} (he : e = .returned (.slice (some ⟨g, 0, none⟩) n cap)) (hn : n = L.length) (hg : w.heap.size ≤ g) (hF : Flat w' g 60 (flatNd L)) (hc : L.length ≤ cap) (h : Below w.heap.size w w') : OutNd w true L e w' :=
  ⟨(fun c => by cases c), fun _ => ⟨g, cap, by rw [he, hn], hg, hF, hc⟩, h⟩
theorem flat_newNd {w1 : World} {base : Nat} {v1 : Value} {ns : List Nd} (h : w1.ownsRow base 60 5 v1 (0 + ns.length) ([] ++ valsNd ns)) (hn : 1 ≤ ns.length) : ∃ g cap, v1 = .slice (some ⟨g, 0, none⟩) ns.length cap ∧ base ≤ g ∧ Flat w1 g 60 (flatNd ns) ∧ ns.length ≤ cap := by
  rw [Nat.zero_add, List.nil_append] at h
  rcases Flat.own (zs := flatNd ns) h with ⟨_, hz⟩ | r
  · omega
  · exact r
theorem gate_flat {w : World} {g k : Nat} {ns : List Nd} {x : Int} (hF : Flat w g 60 (flatNd ns)) (hk : k < ns.length) : Flat (w.setCell ⟨g, k * 5 + 1, none⟩ (.int .i64 x)) g 60 (flatNd (sgL ns (k : Int) x)) := by
  have hl := flatNd_len ns
  have a := hF.set_ (i := k * 5 + 1) (by omega) x
  rw [flatNd_gate ns k x hk] at a
  exact a
end Go.Proofs.Ytfcgjiciobfncaa
