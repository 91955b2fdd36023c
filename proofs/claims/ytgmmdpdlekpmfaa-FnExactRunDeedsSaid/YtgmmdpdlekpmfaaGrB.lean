/- Contracts and facts of functions of this program, in build order. Conditions: those stated in each. -/
import Derived.Test.YtgmmdpdlekpmfaaGrA
import Derived.Deep.RegionHeld3
import Derived.Deep.DeepCutAuto
import Derived.Deep.Slices
import Derived.ChangeSame
import Derived.ChangeArms
import Derived.ProofKit
import Derived.Laws.OwnMore
import Derived.Maps.AppendAt
namespace Go.Proofs.Ytgmmdpdlekpmfaa
open Go.RowKit

/-- block g begins with the numbers zs, and may be written -/
def Flat (w : World) (g : Nat) (t : TypeId) (zs : List Int) : Prop := ∃ cs : Array Value, w.heap[g]? = some (.cells cs t (0, 0)) ∧ ∀ j, j < zs.length → cs[j]? = some (.int .i64 (zs.getD j 0))
theorem Flat.cell {w : World} {g : Nat} {t : TypeId} {zs : List Int} (h : Flat w g t zs) {j : Nat} (hj : j < zs.length) : w.cell? ⟨g, j, none⟩ = some (.int .i64 (zs.getD j 0)) := by
  obtain ⟨cs, hb, hc⟩ := h
  rw [cell_of_row w g j cs t (0, 0) hb]; exact hc j hj
theorem Flat.frozen {w : World} {g : Nat} {t : TypeId} {zs : List Int} (h : Flat w g t zs) (j : Nat) : w.frozen? ⟨g, j, none⟩ = false := by
  obtain ⟨cs, hb, hc⟩ := h
  simp [World.frozen?, hb]
theorem Flat.lt {w : World} {g : Nat} {t : TypeId} {zs : List Int} (h : Flat w g t zs) : g < w.heap.size := by
  obtain ⟨cs, hb, hc⟩ := h
  exact Blk.lt hb
theorem Flat.of_block {w w' : World} {g : Nat} {t : TypeId} {zs : List Int} (h : Flat w g t zs) (e : w'.heap[g]? = w.heap[g]?) : Flat w' g t zs := by
  obtain ⟨cs, hb, hc⟩ := h
  exact ⟨cs, e.trans hb, hc⟩
theorem Flat.next {w w' : World} {g : Nat} {t : TypeId} {zs : List Int} (h : Flat w g t zs) (hb : Below w.heap.size w w') : Flat w' g t zs := h.of_block (hb.block g h.lt)
theorem Flat.apart {w w' : World} {g g' : Nat} {t : TypeId} {zs : List Int} (h : Flat w g t zs) (hG : w.grownBy w' (some g')) (hne : g ≠ g') : Flat w' g t zs :=
  h.of_block (hG.block g h.lt (fun e => by injection e with e; exact hne e))
theorem getD_setF {zs : List Int} {i j : Nat} {z : Int} (hi : i < zs.length) : (zs.set i z).getD j 0 = if j = i then z else zs.getD j 0 := by
  rw [List.getD_eq_getElem?_getD, List.getD_eq_getElem?_getD, List.getElem?_set]
  by_cases e : i = j
  · subst e; rw [if_pos rfl, if_pos hi, if_pos rfl]; rfl
  · rw [if_neg e, if_neg (fun c => e c.symm)]
theorem Flat.set_ {w : World} {g : Nat} {t : TypeId} {zs : List Int} (h : Flat w g t zs) {i : Nat} (hi : i < zs.length) (z : Int) : Flat (w.setCell ⟨g, i, none⟩ (.int .i64 z)) g t (zs.set i z) := by
  obtain ⟨cs, hb, hc⟩ := h
  refine ⟨cs.setIfInBounds i (.int .i64 z), Blk.set_ hb i _, fun j hj => ?_⟩
  rw [List.length_set] at hj
  have hs : i < cs.size := by
    have := hc i hi
    rcases Nat.lt_or_ge i cs.size with h | h
    · exact h
    · rw [Array.getElem?_eq_none h] at this; cases this
  rw [Array.getElem?_setIfInBounds, getD_setF hi]
  by_cases e : i = j
  · subst e; rw [if_pos rfl, if_pos hs, if_pos rfl]
  · rw [if_neg e, if_neg (fun c => e c.symm)]; exact hc j hj
theorem Flat.row {w : World} {g : Nat} {t : TypeId} {n : Nat} {f : Nat → Value} {zs : List Int} (h : w.rowIs g t n f) (hl : zs.length ≤ n) (hf : ∀ j, j < zs.length → f j = .int .i64 (zs.getD j 0)) : Flat w g t zs := by
  obtain ⟨cs, hb, _, hc⟩ := h
  exact ⟨cs, hb, fun j hj => by rw [hc j (by omega), hf j hj]⟩
/-- a row of the call's own that begins with numbers: nil, or a block -/
theorem Flat.own {w : World} {base : Nat} {e : TypeId} {size n : Nat} {v : Value} {zs : List Int} (h : w.ownsRow base e size v n (zs.map (Value.int .i64))) : (v = .slice none 0 0 ∧ n = 0) ∨ ∃ g cap, v = .slice (some ⟨g, 0, none⟩) n cap ∧ base ≤ g ∧ Flat w g e zs ∧ n ≤ cap := by
  rcases h.2 with h0 | ⟨g, cap, cur, rfl, hg, hb, hnc, _, _, ht⟩
  · exact .inl h0
  · refine .inr ⟨g, cap, rfl, hg, ⟨cur, hb, fun j hj => ?_⟩, hnc⟩
    have hl := h.1
    rw [List.length_map] at hl
    have : (List.take (n * size) cur.toList)[j]? = some (.int .i64 (zs.getD j 0)) := by
      rw [ht, List.getElem?_map, List.getElem?_eq_getElem hj, List.getD_eq_getElem?_getD, List.getElem?_eq_getElem hj]; rfl
    rw [List.getElem?_take_of_lt (by omega)] at this
    simpa using this
theorem Flat.hs {w : World} {g : Nat} {t : TypeId} {hs : List Hd} (h : Flat w g t (flatH hs)) : IsHs w (some ⟨g, 0, none⟩) hs := by
  refine .inr ⟨g, 0, rfl, fun i hi => ?_⟩
  obtain ⟨a, b, c⟩ := flat_get hs i hi
  have hl := flat_len hs
  rw [Nat.zero_add]
  exact ⟨by rw [h.cell (by omega), a], by rw [h.cell (by omega), b], by rw [h.cell (by omega), c]⟩

end Go.Proofs.Ytgmmdpdlekpmfaa
namespace Go.Proofs.Ytgmmdpdlekpmfaa
open Go.RowKit

/-- laws.toFrac -/
theorem ltoFrac (n d : Int) (w : World) :
    Calls Try.prog 114 #[.agg #[.int .i64 n, .int .i64 d]] w fun e w' => e = .returned (.agg #[.int .i64 n, .int .i64 d]) ∧ Below w.heap.size w w' := by
  go_enter Try.func114, Try.ntmps114
  go_wp2
  refine bodyPost_ret (v := .agg #[.int .i64 n, .int .i64 d]) (by simp [results, Try.results114, go_sem]) rfl ⟨rfl, by go_grown⟩

/-- laws.eqFrac of a fraction and itself -/
theorem leqFrac (n d : Int) (w : World) :
    Calls Try.prog 119 #[.agg #[.int .i64 n, .int .i64 d], .agg #[.int .i64 n, .int .i64 d]] w fun e w' => e = .returned (.bool true) ∧ Below w.heap.size w w' := by
  go_enter Try.func119, Try.ntmps119
  go_wp2
  go_ret
  exact ⟨rfl, by go_grown⟩
end Go.Proofs.Ytgmmdpdlekpmfaa
namespace Go.Proofs.Ytgmmdpdlekpmfaa
open Go.RowKit

theorem lszH (a : Option Addr) (n cap : Nat) (w : World) (hn : n ≤ 1048576) :
    Calls Try.prog 28 #[.slice a n cap, .int .i64 1048576] w fun e w' => e = .returned (.int .i64 (1048576 - (n : Int))) ∧ w = w' := by
  go_enter Try.func28, Try.ntmps28
  go_wp2
  go_ret
  exact ⟨rfl, rfl⟩
theorem lszH_no (a : Option Addr) (n cap : Nat) (w : World) (h : 1048576 < n) (hn : n ≤ 9223372036854775807) :
    Calls Try.prog 28 #[.slice a n cap, .int .i64 1048576] w fun e w' => e = .returned (.int .i64 (-1)) ∧ w = w' := by
  go_enter Try.func28, Try.ntmps28
  go_wp2
  go_ret
  exact ⟨rfl, rfl⟩

set_option maxHeartbeats 1000000 in
theorem ltoHolding (o n d : Int) (w : World) :
    Calls Try.prog 80 #[.agg #[.int .i64 o, .int .i64 n, .int .i64 d]] w fun e w' => e = .returned (.agg #[.int .i64 o, .int .i64 n, .int .i64 d]) ∧ Below w.heap.size w w' := by
  go_enter Try.func80, Try.ntmps80
  go_wp2_with fail
  refine (ltoFrac n d _).mono ?_
  rintro e w1 ⟨rfl, hb⟩
  have hB : Below w.heap.size w w1 := bel_tr (by go_grown) hb
  obtain ⟨hc, hf⟩ := bcell hb
  have hz := hb.size
  simp at hz
  have c0 := hc (w.heap.size + 1) 0 (by simp)
  have c1 := hc (w.heap.size + 1) 1 (by simp)
  have c2 := hc (w.heap.size + 1) 2 (by simp)
  have c3 := hc (w.heap.size + 2) 0 (by simp)
  have c4 := hc (w.heap.size + 2) 1 (by simp)
  have c5 := hc (w.heap.size + 2) 2 (by simp)
  have f0 := hf (w.heap.size + 1) 0 (by simp)
  have f1 := hf (w.heap.size + 1) 1 (by simp)
  have f2 := hf (w.heap.size + 1) 2 (by simp)
  have f3 := hf (w.heap.size + 2) 0 (by simp)
  have f4 := hf (w.heap.size + 2) 1 (by simp)
  have f5 := hf (w.heap.size + 2) 2 (by simp)
  simp [go_sem] at c0 c1 c2 c3 c4 c5 f0 f1 f2 f3 f4 f5
  clear hc hf hb
  go_wp2_with fail
  refine bodyPost_ret (v := .agg #[.int .i64 o, .int .i64 n, .int .i64 d]) (by simp [results, Try.results80, go_sem, c0, c1, c2]) rfl ⟨rfl, ?_⟩
  repeat (first | exact hB | refine Below.setCell ?_ (by simp <;> omega) _)

theorem leqHolding (o n d : Int) (w : World) :
    Calls Try.prog 84 #[.agg #[.int .i64 o, .int .i64 n, .int .i64 d], .agg #[.int .i64 o, .int .i64 n, .int .i64 d]] w fun e w' => e = .returned (.bool true) ∧ Below w.heap.size w w' := by
  go_enter Try.func84, Try.ntmps84
  go_wp2_with fail
  refine (leqFrac n d _).mono ?_
  rintro e w1 ⟨rfl, hb⟩
  have hB : Below w.heap.size w w1 := bel_tr (by go_grown) hb
  go_wp2_with fail
  go_ret
  exact ⟨rfl, hB⟩

/-- what toHoldingS leaves -/
def CopiedH (w : World) (hs : List Hd) (e : Ending) (w' : World) : Prop := ∃ g : Nat, e = .returned (.slice (some ⟨g, 0, none⟩) hs.length hs.length) ∧ w.heap.size ≤ g ∧ Flat w' g 97 (flatH hs) ∧ Below w.heap.size w w'
theorem made_row (w : World) (n : Nat) (t : TypeId) : (w.alloc (.cells (madeCells #[.int .i64 0, .int .i64 0, .int .i64 0] n) t)).rowIs w.heap.size t n (fun _ => .int .i64 0) := by
  have hs : (madeCells #[Value.int .i64 0, .int .i64 0, .int .i64 0] n).size = n := by unfold madeCells; simp
  refine ⟨_, heap_alloc_new w _, hs, fun i hi => ?_⟩
  have hm : i % 3 = 0 ∨ i % 3 = 1 ∨ i % 3 = 2 := by omega
  unfold madeCells
  rw [Array.getElem?_map, Array.getElem?_range, if_pos hi]
  show some ((#[Value.int .i64 0, .int .i64 0, .int .i64 0] : Array Value)[i % 3]!) = _
  rcases hm with h | h | h <;> rw [h] <;> rfl
theorem run_makeH (n : Nat) (hn : n ≤ 1048576) (w : World) : (Instr.makeSlice 32 (.int .i64 (n : Int)) (.int .i64 (n : Int))).run Try.prog w = .ok (.slice (some ⟨w.heap.size, 0, none⟩) n n) (w.alloc (.cells (madeCells #[.int .i64 0, .int .i64 0, .int .i64 0] (n * 3)) 97)) := by
  obtain ⟨i0, hi0, hz0, hz1, hz2⟩ := info_parts infoH
  have := run_make (P := Try.prog) w 32 97 i0 _ Try.underlying32 hi0 hz0 .i64 .i64 (n : Int) (n : Int) (by omega) (by omega) (by rw [hz2]; omega) (by omega)
  simp only [Int.toNat_natCast, hz1] at this
  exact this

set_option maxHeartbeats 1000000 in
theorem ltoH (a : Option Addr) (cap : Nat) (hs : List Hd) (w : World) (h : IsHs w a hs) (hn : hs.length ≤ 1048576) :
    Calls Try.prog 31 #[.slice a hs.length cap] w (CopiedH w hs) := by
  rcases h with rfl | ⟨g, o, rfl, hc⟩
  · have hmk : ∀ W : World, (Instr.makeSlice 32 (.int .i64 0) (.int .i64 0)).run Try.prog W = .ok (.slice (some ⟨W.heap.size, 0, none⟩) 0 0) (W.alloc (.cells (madeCells #[.int .i64 0, .int .i64 0, .int .i64 0] 0) 97)) := fun W => run_makeH 0 (by omega) W
    go_enter Try.func31, Try.ntmps31
    go_wp2
    go_rounds 1
    go_ret
    exact ⟨_, rfl, Nat.le_refl _, Flat.row (made_row w 0 _) (by simp [flatH]) (fun j hj => by simp [flatH] at hj), by go_grown⟩
  · have hmk := run_makeH hs.length hn
    have HC := Lib.hid hc
    clear hc
    go_enter Try.func31, Try.ntmps31
    go_wp2
    clear hmk
    go_loopw [4] (fun i wr => ∃ k : Nat, k ≤ hs.length ∧ i = .int .i64 k ∧ wr.rowIs w.heap.size 97 (hs.length * 3) (fun j => if j < k * 3 then .int .i64 ((flatH hs).getD j 0) else .int .i64 0) ∧ Below w.heap.size w wr) (fun i _ => hs.length - (intOf i).toNat)
    case atStart => exact ⟨0, Nat.zero_le _, rfl, (made_row w (hs.length * 3) _).congr (fun i hi => by simp), by go_grown⟩
    case round =>
      obtain ⟨k, hk, rfl, hrow, hB⟩ := hrel
      by_cases hlt : k < hs.length
      · obtain ⟨c0, c1, c2⟩ := cells_at HC.out hB hlt
        obtain ⟨g0, g1, g2⟩ := flat_get hs k hlt
        have hd : ∀ j, k * 3 ≤ j → j < hs.length * 3 → wr.cell? ⟨w.heap.size, j, none⟩ = some (.int .i64 0) := fun j h0 h1 => by rw [hrow.cell h1, if_neg (by omega)]
        have d0 := hd (k * 3) (by omega) (by omega)
        have d1 := hd (k * 3 + 1) (by omega) (by omega)
        have d2 := hd (k * 3 + 2) (by omega) (by omega)
        have hcon : ∀ x n d : Int, (flatH hs).getD (k * 3) 0 = x → (flatH hs).getD (k * 3 + 1) 0 = n → (flatH hs).getD (k * 3 + 2) 0 = d → ∀ W : World, W.heap[w.heap.size]? = wr.heap[w.heap.size]? →
            (((W.setCell ⟨w.heap.size, k * 3, none⟩ (.int .i64 x)).setCell ⟨w.heap.size, k * 3 + 1, none⟩ (.int .i64 n)).setCell ⟨w.heap.size, k * 3 + 2, none⟩ (.int .i64 d)).rowIs w.heap.size 97 (hs.length * 3) (fun j => if j < (k + 1) * 3 then .int .i64 ((flatH hs).getD j 0) else .int .i64 0) := fun x n d e0 e1 e2 W hW => by
          have hrow' := World.rowIs.of_block hrow hW
          refine (((hrow'.set (k * 3) (.int .i64 x)).set (k * 3 + 1) (.int .i64 n)).set (k * 3 + 2) (.int .i64 d)).congr (fun j hj => ?_)
          show (if j = k * 3 + 2 then Value.int .i64 d else if j = k * 3 + 1 then .int .i64 n else if j = k * 3 then .int .i64 x else if j < k * 3 then .int .i64 ((flatH hs).getD j 0) else .int .i64 0) = _
          by_cases a2 : j = k * 3 + 2
          · rw [if_pos a2, if_pos (by omega), a2, e2]
          rw [if_neg a2]
          by_cases a1 : j = k * 3 + 1
          · rw [if_pos a1, if_pos (by omega), a1, e1]
          rw [if_neg a1]
          by_cases a0 : j = k * 3
          · rw [if_pos a0, if_pos (by omega), a0, e0]
          rw [if_neg a0]
          by_cases al : j < k * 3
          · rw [if_pos al, if_pos (by omega)]
          · rw [if_neg al, if_neg (by omega)]
        have hcon2 := hcon _ _ _ g0 g1 g2
        have hfr := hrow.frozen
        have hlw := World.rowIs.lt hrow
        clear hcon hd g0 g1 g2
        generalize hs.getD k hd0 = hh at c0 c1 c2 hcon2
        obtain ⟨x, n, d⟩ := hh
        dsimp only at c0 c1 c2 hcon2
        have HR := Lib.hid hcon2
        have HB := Lib.hid hB
        have HF := Lib.hid hfr
        clear hcon2 hrow hB hfr
        go_wp2_with fail
        refine (ltoHolding x n d _).mono ?_
        rintro e w1 ⟨rfl, hb⟩
        have hB1 := bel_tr HB.out hb
        have hblk := hb.block w.heap.size hlw
        have e0 := (hb.cell (p := ⟨w.heap.size, k * 3, none⟩) hlw).trans d0
        have e1 := (hb.cell (p := ⟨w.heap.size, k * 3 + 1, none⟩) hlw).trans d1
        have e2 := (hb.cell (p := ⟨w.heap.size, k * 3 + 2, none⟩) hlw).trans d2
        have f0 := (hb.frozen (p := ⟨w.heap.size, k * 3, none⟩) hlw).trans (HF.out _)
        have f1 := (hb.frozen (p := ⟨w.heap.size, k * 3 + 1, none⟩) hlw).trans (HF.out _)
        have f2 := (hb.frozen (p := ⟨w.heap.size, k * 3 + 2, none⟩) hlw).trans (HF.out _)
        clear hb d0 d1 d2 c0 c1 c2
        go_wp2_with fail
        go_roundw
        case rel => exact ⟨k + 1, by omega, by go_num, HR.out w1 hblk, ((hB1.setCell (Nat.le_refl _) _).setCell (Nat.le_refl _) _).setCell (Nat.le_refl _) _⟩
        case measure => simp [intOf]; omega
      · have HR := Lib.hid hrow
        have HB := Lib.hid hB
        clear hrow hB
        go_wp2
        go_ret
        have hl := flat_len hs
        exact ⟨_, rfl, Nat.le_refl _, Flat.row HR.out (by omega) (fun j hj => by rw [if_pos (by omega)]), HB.out⟩

theorem keep6 {w w' : World} {p q r p' q' r' : Addr} {u v x u' v' x' : Value} (hb : Below w.heap.size w w') (h : w.cell? p = some u ∧ w.cell? q = some v ∧ w.cell? r = some x ∧ w.cell? p' = some u' ∧ w.cell? q' = some v' ∧ w.cell? r' = some x') : w'.cell? p = some u ∧ w'.cell? q = some v ∧ w'.cell? r = some x ∧ w'.cell? p' = some u' ∧ w'.cell? q' = some v' ∧ w'.cell? r' = some x' := by
  have n : ∀ {p : Addr} {v : Value}, w.cell? p = some v → w'.cell? p = some v := fun h => (hb.cell (World.block_lt_of_cell? w _ h)).trans h
  exact ⟨n h.1, n h.2.1, n h.2.2.1, n h.2.2.2.1, n h.2.2.2.2.1, n h.2.2.2.2.2⟩

set_option maxHeartbeats 1000000 in
/-- eqHoldingS of two readings of the same holdings -/
theorem leqH (a b : Option Addr) (ca cb : Nat) (hs : List Hd) (w : World) (ha : IsHs w a hs) (hb : IsHs w b hs) (hn : hs.length ≤ 1048576) :
    Calls Try.prog 34 #[.slice a hs.length ca, .slice b hs.length cb] w fun e w' => e = .returned (.bool true) ∧ Below w.heap.size w w' := by
  rcases ha with rfl | ⟨g, o, rfl, hc⟩
  · go_enter Try.func34, Try.ntmps34
    go_wp2
    go_rounds 1
    go_ret
    exact ⟨rfl, by go_grown⟩
  · rcases hb with rfl | ⟨g2, o2, rfl, hc2⟩
    · go_enter Try.func34, Try.ntmps34
      go_wp2
      go_rounds 1
      go_ret
      exact ⟨rfl, by go_grown⟩
    · have HC := Lib.hid hc
      have HD := Lib.hid hc2
      clear hc hc2
      go_enter Try.func34, Try.ntmps34
      go_wp2
      go_loopw [5] (fun i wr => ∃ k : Nat, k ≤ hs.length ∧ i = .int .i64 k ∧ Below w.heap.size w wr) (fun i _ => hs.length - (intOf i).toNat)
      case atStart => exact ⟨0, Nat.zero_le _, rfl, by go_grown⟩
      case round =>
        obtain ⟨k, hk, rfl, hB⟩ := hrel
        by_cases hlt : k < hs.length
        · obtain ⟨c0, c1, c2⟩ := cells_at HC.out hB hlt
          obtain ⟨d0, d1, d2⟩ := cells_at HD.out hB hlt
          generalize hs.getD k hd0 = hh at c0 c1 c2 d0 d1 d2
          obtain ⟨x, n, d⟩ := hh
          dsimp only at c0 c1 c2 d0 d1 d2
          have HB := Lib.hid hB
          clear hB
          have i0 : (0 : Int) ≤ (k : Int) := by omega
          have i1 : (k : Int) < (hs.length : Int) := by omega
          go_wp2_with fail
          go_region_held3 (fun w' => w'.cell? ⟨g, o + k * 3, none⟩ = some (.int .i64 x) ∧ w'.cell? ⟨g, o + k * 3 + 1, none⟩ = some (.int .i64 n) ∧ w'.cell? ⟨g, o + k * 3 + 2, none⟩ = some (.int .i64 d) ∧ w'.cell? ⟨g2, o2 + k * 3, none⟩ = some (.int .i64 x) ∧ w'.cell? ⟨g2, o2 + k * 3 + 1, none⟩ = some (.int .i64 n) ∧ w'.cell? ⟨g2, o2 + k * 3 + 2, none⟩ = some (.int .i64 d)) (first | (exact keep6 (by assumption) (by assumption)) | (refine ⟨?_, ?_, ?_, ?_, ?_, ?_⟩ <;> (go_keep; done))) (first | (go_at_call 84; refine (leqHolding x n d _).mono ?_; rintro e w3 ⟨rfl, hb⟩))
          go_wp2_with fail
          go_roundw
          case rel => exact ⟨k + 1, by omega, by go_num, bel_tr HB.out.drew hb⟩
          case measure => simp [intOf]; omega
        · go_wp2
          go_ret
          exact ⟨rfl, hB⟩

/-- what markHoldingS leaves -/
def MarkedF (w : World) (g n : Nat) (e : Ending) (w' : World) : Prop := e = .returned (.int .i64 (1 + ((n * 3 : Nat) : Int))) ∧ Flat w' g 97 (marksF (n * 3)) ∧ w.grownBy w' (some g)
set_option maxHeartbeats 1000000 in
theorem lmarkH (g cap n : Nat) (zs : List Int) (w : World) (h : Flat w g 97 zs) (hl : zs.length = n * 3) (hn : n ≤ 1048576) :
    Calls Try.prog 36 #[.slice (some ⟨g, 0, none⟩) n cap, .int .i64 1] w (MarkedF w g n) := by
  have H := Lib.hid h
  have HL := Lib.hid hl
  clear h hl
  go_enter Try.func36, Try.ntmps36
  go_wp2
  go_loopw [1, 5] (fun q i wr => ∃ k : Nat, k ≤ n ∧ i = .int .i64 k ∧ q = .int .i64 (1 + ((k * 3 : Nat) : Int)) ∧ Flat wr g 97 (markTo zs (k * 3)) ∧ w.grownBy wr (some g)) (fun _ i _ => n - (intOf i).toNat)
  case atStart => exact ⟨0, Nat.zero_le _, rfl, rfl, by rw [Nat.zero_mul, markTo_zero]; exact H.out, g_of (Below.refl _ _) _⟩
  case round =>
    obtain ⟨k, hk, rfl, rfl, hF, hG⟩ := hrel
    by_cases hlt : k < n
    · have hzl := HL.out
      have l0 := markTo_len (zs := zs) (j := k * 3) (by omega)
      have c0 := hF.cell (j := k * 3) (by omega)
      have c1 := hF.cell (j := k * 3 + 1) (by omega)
      have c2 := hF.cell (j := k * 3 + 2) (by omega)
      have f0 := hF.frozen (k * 3)
      have f1 := hF.frozen (k * 3 + 1)
      have f2 := hF.frozen (k * 3 + 2)
      have n1 := (hF.set_ (i := k * 3) (by omega) (1 + ((k * 3 : Nat) : Int)))
      rw [markTo_succ (by omega)] at n1
      have l1 := markTo_len (zs := zs) (j := k * 3 + 1) (by omega)
      have n2 := (n1.set_ (i := k * 3 + 1) (by omega) (1 + ((k * 3 + 1 : Nat) : Int)))
      rw [markTo_succ (by omega)] at n2
      have l2 := markTo_len (zs := zs) (j := k * 3 + 1 + 1) (by omega)
      have n3 := (n2.set_ (i := k * 3 + 2) (by omega) (1 + ((k * 3 + 2 : Nat) : Int)))
      rw [markTo_succ (by omega), show k * 3 + 1 + 1 + 1 = (k + 1) * 3 from by omega] at n3
      have e1 : (1 + ((k * 3 + 1 : Nat) : Int)) = 1 + ((k * 3 : Nat) : Int) + 1 := by omega
      have e2 : (1 + ((k * 3 + 2 : Nat) : Int)) = 1 + ((k * 3 : Nat) : Int) + 1 + 1 := by omega
      have e3 : (1 + (((k + 1) * 3 : Nat) : Int)) = 1 + ((k * 3 : Nat) : Int) + 1 + 1 + 1 := by omega
      rw [e1, e2] at n3
      have hq : ((k * 3 : Nat) : Int) ≤ 3145728 := by omega
      have hq0 : 0 ≤ ((k * 3 : Nat) : Int) := by omega
      generalize ((k * 3 : Nat) : Int) = q at n3 e3 hq hq0
      generalize (markTo zs (k * 3)).getD (k * 3) 0 = z0 at c0
      generalize (markTo zs (k * 3)).getD (k * 3 + 1) 0 = z1 at c1
      generalize (markTo zs (k * 3)).getD (k * 3 + 2) 0 = z2 at c2
      have HN := Lib.hid n3
      have HG := Lib.hid hG
      have H3 := Lib.hid e3
      clear n1 n2 n3 e1 e2 e3 l0 l1 l2 hF hG hzl
      go_wp2_with fail
      go_roundw
      case rel => exact ⟨k + 1, by omega, by go_num, by rw [H3.out], HN.out, g_set2 (g_set2 (g_set2 HG.out))⟩
      case measure => simp [intOf]; omega
    · obtain rfl : n = k := by omega
      have HF := Lib.hid hF
      have HG := Lib.hid hG
      clear hF hG
      go_wp2_with fail
      go_ret
      refine ⟨rfl, ?_, HG.out⟩
      have := HF.out
      rw [← HL.out, markTo_end, HL.out] at this
      exact this
theorem lmarkH_nil (w : World) : Calls Try.prog 36 #[.slice none 0 0, .int .i64 1] w fun e w' => e = .returned (.int .i64 1) ∧ w = w' := by
  go_enter Try.func36, Try.ntmps36
  go_wp2
  go_rounds 1
  go_ret
  exact ⟨rfl, rfl⟩
theorem lheldH_nil (w : World) : Calls Try.prog 38 #[.slice none 0 0, .int .i64 1] w fun e w' => e = .returned (.int .i64 1) ∧ w = w' := by
  go_enter Try.func38, Try.ntmps38
  go_wp2
  go_rounds 1
  go_ret
  exact ⟨rfl, rfl⟩
set_option maxHeartbeats 1000000 in
theorem lheldH (g cap n : Nat) (w : World) (h : Flat w g 97 (marksF (n * 3))) (hn : n ≤ 1048576) :
    Calls Try.prog 38 #[.slice (some ⟨g, 0, none⟩) n cap, .int .i64 1] w fun e w' => e = .returned (.int .i64 (1 + ((n * 3 : Nat) : Int))) ∧ w = w' := by
  have H := Lib.hid h
  clear h
  go_enter Try.func38, Try.ntmps38
  go_wp2
  go_loop [1, 5] (fun q i => ∃ k : Nat, k ≤ n ∧ i = .int .i64 k ∧ q = .int .i64 (1 + ((k * 3 : Nat) : Int))) (fun _ i => n - (intOf i).toNat)
  case atStart => exact ⟨0, Nat.zero_le _, rfl, rfl⟩
  case round =>
    obtain ⟨k, hk, rfl, rfl⟩ := hrel
    by_cases hlt : k < n
    · have c0 := H.out.cell (j := k * 3) (by rw [marksF_len]; omega)
      have c1 := H.out.cell (j := k * 3 + 1) (by rw [marksF_len]; omega)
      have c2 := H.out.cell (j := k * 3 + 2) (by rw [marksF_len]; omega)
      rw [marksF_get _ (by omega)] at c0 c1 c2
      rw [show (1 + ((k * 3 + 1 : Nat) : Int)) = 1 + ((k * 3 : Nat) : Int) + 1 from by omega] at c1
      rw [show (1 + ((k * 3 + 2 : Nat) : Int)) = 1 + ((k * 3 : Nat) : Int) + 1 + 1 from by omega] at c2
      have e3 : (1 + (((k + 1) * 3 : Nat) : Int)) = 1 + ((k * 3 : Nat) : Int) + 1 + 1 + 1 := by omega
      have hq : ((k * 3 : Nat) : Int) ≤ 3145728 := by omega
      have hq0 : 0 ≤ ((k * 3 : Nat) : Int) := by omega
      generalize ((k * 3 : Nat) : Int) = q at c0 c1 c2 e3 hq hq0
      have H3 := Lib.hid e3
      clear e3
      go_wp2_with fail
      go_round
      case rel => exact ⟨k + 1, by omega, by go_num, by rw [H3.out]⟩
      case measure => simp [intOf]; omega
    · obtain rfl : n = k := by omega
      go_wp2_with fail
      go_ret
      exact ⟨rfl, rfl⟩
end Go.Proofs.Ytgmmdpdlekpmfaa
namespace Go.Proofs.Ytgmmdpdlekpmfaa
open Go.ChangeShapes Go.WideShapes Go.RowKit Go.Deep

/-- a slice of holdings that came in -/
def HoldsIn (w : World) (a : Option Addr) (len cap : Nat) (hs : List Hd) : Prop := hs.length = len ∧ IsHs w a hs ∧ len ≤ cap ∧ cap ≤ maxLen
set_option maxRecDepth 100000 in
theorem open_frac {H : Type} {enc : TypeId × Value → H} {w : World} {base : Nat} {spare : Nat → Bool} {held : Bool} {fuel : Nat} {cs : List Value} {x : DataW H × List MemPlace} (h : DataW.trod enc Try.prog w base spare held fuel 108 cs = some x) : ∃ n d : Int, cs = [.int .i64 n, .int .i64 d] := by
  obtain ⟨y0, y1, n', _, hl, h0, h1⟩ := trod_struct2 Try.underlying108 h
  obtain ⟨n, e0, _, _⟩ := DataW.trod_int Try.underlying3 h0
  obtain ⟨d, e1, _, _⟩ := DataW.trod_int Try.underlying3 h1
  have hc : Try.prog.cellsOf 108 = 2 := by kernel_rfl
  have hi : Try.prog.cellsOf 3 = 1 := by kernel_rfl
  have hl := hl.trans hc
  dsimp only at e0 e1
  rw [hi] at e0 e1
  match cs, hl with
  | [a, b], _ =>
    refine ⟨n, d, ?_⟩
    simp at e0 e1
    rw [e0, e1]
set_option maxRecDepth 100000 in
theorem open_hold {H : Type} {enc : TypeId × Value → H} {w : World} {base : Nat} {spare : Nat → Bool} {held : Bool} {fuel : Nat} {cs : List Value} {x : DataW H × List MemPlace} (h : DataW.trod enc Try.prog w base spare held fuel 116 cs = some x) : ∃ o n d : Int, cs = [.int .i64 o, .int .i64 n, .int .i64 d] := by
  obtain ⟨y0, y1, n', _, hl, h0, h1⟩ := trod_struct2 Try.underlying116 h
  obtain ⟨o, e0, _, _⟩ := DataW.trod_int Try.underlying3 h0
  obtain ⟨n, d, e1⟩ := open_frac h1
  have hc : Try.prog.cellsOf 116 = 3 := by kernel_rfl
  have hf : Try.prog.cellsOf 108 = 2 := by kernel_rfl
  have hi : Try.prog.cellsOf 3 = 1 := by kernel_rfl
  have hl := hl.trans hc
  dsimp only at e0 e1
  rw [hi] at e0
  rw [hf] at e1
  match cs, hl with
  | [a, b, c], _ =>
    refine ⟨o, n, d, ?_⟩
    simp at e0 e1
    rw [e0, e1.1, e1.2]
set_option maxRecDepth 100000 in
theorem open_holds {H : Type} {enc : TypeId × Value → H} {w : World} {base : Nat} {spare : Nat → Bool} {held : Bool} {fuel : Nat} {a : Option Addr} {len cap : Nat} {x : DataW H × List MemPlace} (h : DataW.trod enc Try.prog w base spare held fuel 22 [.slice a len cap] = some x) : ∃ hs, HoldsIn w a len cap hs := by
  rcases open_slice Try.underlying22 h with ⟨hcs, _⟩ | ⟨ad, l, c, m, n', D, Pl, hcs, hb, hl, hm, hmm, hx, hi⟩
  · simp at hcs
    obtain ⟨rfl, rfl, rfl⟩ := hcs
    exact ⟨[], rfl, .inl rfl, Nat.le_refl _, Nat.zero_le _⟩
  · simp at hcs
    obtain ⟨rfl, rfl, rfl⟩ := hcs
    have hc : Try.prog.cellsOf 116 = 3 := by kernel_rfl
    have hmn : len ≤ m := by rw [hmm]; split <;> omega
    have each : ∀ i, i < len → ∃ z : Hd, w.cell? (ad.add (i * 3)) = some (.int .i64 z.1) ∧ w.cell? (ad.add (i * 3 + 1)) = some (.int .i64 z.2.1) ∧ w.cell? (ad.add (i * 3 + 2)) = some (.int .i64 z.2.2) := fun i hin => by
      obtain ⟨cs', h1, h2⟩ := hi i (by omega)
      obtain ⟨o, n, d, rfl⟩ := open_hold h2
      rw [hc] at h1
      obtain ⟨_, _, hat⟩ := World.cells?_some h1
      have a0 := hat 0 (by omega)
      have a1 := hat 1 (by omega)
      have a2 := hat 2 (by omega)
      rw [add_add] at a0 a1 a2
      exact ⟨(o, n, d), a0, a1, a2⟩
    obtain ⟨f, hf⟩ : ∃ f : Nat → Hd, ∀ i, i < len → w.cell? (ad.add (i * 3)) = some (.int .i64 (f i).1) ∧ w.cell? (ad.add (i * 3 + 1)) = some (.int .i64 (f i).2.1) ∧ w.cell? (ad.add (i * 3 + 2)) = some (.int .i64 (f i).2.2) :=
      ⟨fun i => if hh : i < len then Classical.choose (each i hh) else hd0, fun i hh => by simp only [dif_pos hh]; exact Classical.choose_spec (each i hh)⟩
    refine ⟨(List.range len).map f, by simp, ?_, hl, hm⟩
    by_cases h0 : len = 0
    · subst h0; exact .inl rfl
    · obtain ⟨b, off, spot⟩ := ad
      have hsp := (hf 0 (by omega)).1
      have hspot : spot = none := by simpa [Addr.add] using World.cell?_spot hsp
      subst hspot
      refine .inr ⟨b, off, rfl, fun i hin => ?_⟩
      have hin' : i < len := by simpa using hin
      have e : ((List.range len).map f).getD i hd0 = f i := by
        rw [List.getD_eq_getElem?_getD, List.getElem?_map, List.getElem?_range hin']; rfl
      have ao : ∀ j, (⟨b, off, none⟩ : Addr).add j = ⟨b, off + j, none⟩ := fun j => by
        unfold Addr.add
        by_cases hj : j = 0
        · subst hj; simp
        · simp [hj]
      obtain ⟨q0, q1, q2⟩ := hf i hin'
      rw [ao] at q0 q1 q2
      rw [e]
      exact ⟨q0, by rw [Nat.add_assoc]; exact q1, by rw [Nat.add_assoc]; exact q2⟩
end Go.Proofs.Ytgmmdpdlekpmfaa
namespace Go.Proofs.Ytgmmdpdlekpmfaa
open Go.RowKit

/-- valid weights -/
def vwB (zs : List Int) : Bool := allB zs 1000 && decide (zs.length ≤ 12) && decide (0 < zs.sum)
theorem vw_no1 {zs : List Int} (h : allB zs 1000 = false) : vwB zs = false := by unfold vwB; rw [h]; rfl
theorem vw_no2 {zs : List Int} (h : 12 < zs.length) : vwB zs = false := by unfold vwB; rw [decide_eq_false (by omega : ¬ zs.length ≤ 12)]; simp
theorem vw_sum {zs : List Int} (h : allB zs 1000 = true) (h2 : zs.length ≤ 12) : vwB zs = decide (0 < zs.sum) := by unfold vwB; rw [h, decide_eq_true h2]; rfl
theorem all_bd {zs : List Int} {most : Int} (h : allB zs most = true) (hm : most ≤ 1000000) : ∀ z ∈ zs, -1000000 ≤ z ∧ z ≤ 1000000 := fun z hz => by
  have := (allB_iff zs most).1 h z hz; omega

theorem vw_is {ws : List Int} (h : vwB ws = true) : allB ws 1000 = true ∧ ws.length ≤ 12 ∧ 0 < ws.sum := by
  unfold vwB at h; simp only [Bool.and_eq_true, decide_eq_true_eq] at h; exact ⟨h.1.1, h.1.2, h.2⟩

set_option maxHeartbeats 1000000 in
/-- spec.validWeights -/
theorem svw (a : Option Addr) (cap : Nat) (zs : List Int) (w : World) (h : IsInts w a zs) (hn : zs.length ≤ 1048576) :
    Calls Try.prog 162 #[.slice a zs.length cap] w fun e w' => e = .returned (.bool (vwB zs)) ∧ w = w' := by
  have h0 := h
  rcases h with rfl | ⟨g, o, rfl, hc⟩
  · go_enter Try.func162, Try.ntmps162
    go_wp2_with fail
    refine wp_loop_rounds 1 ?_
    rw [rounds_succ]
    go_wp2_with fail
    refine (stotal a cap [] _ h0 (by simp) (by simp)).mono ?_
    rintro e w' ⟨rfl, rfl⟩
    go_wp2_with fail
    go_ret
    exact ⟨rfl, rfl⟩
  · have HC := Lib.hid hc
    have H0 := Lib.hid h0
    clear hc h0
    go_enter Try.func162, Try.ntmps162
    go_wp2_with fail
    go_loop [3] (fun i => ∃ k : Nat, k ≤ zs.length ∧ i = .int .i64 k ∧ Hid (∀ j, j < k → 0 ≤ zs.getD j 0 ∧ zs.getD j 0 ≤ 1000)) (fun i => zs.length - (intOf i).toNat)
    case atStart => exact ⟨0, Nat.zero_le _, rfl, fun j hj => by omega⟩
    case round =>
      obtain ⟨k, hk, rfl, HA⟩ := hrel
      by_cases hlt : k < zs.length
      · have hc := HC.out k hlt
        have hno := allB_no (most := 1000) hlt
        have hyes : 0 ≤ zs.getD k 0 → zs.getD k 0 ≤ 1000 → ∀ j, j < k + 1 → 0 ≤ zs.getD j 0 ∧ zs.getD j 0 ≤ 1000 := fun h0 h1 j hj => by
          by_cases hjk : j = k
          · subst hjk; exact ⟨h0, h1⟩
          · exact HA.out j (by omega)
        generalize zs.getD k 0 = z at hc hno hyes
        have HN := Lib.hid hno
        have HY := Lib.hid hyes
        clear hno hyes
        by_cases zb : z < 0 ∨ 1000 < z
        · have HNN := Lib.hid (vw_no1 (HN.out zb))
          go_wp2_with fail
          refine (inRange_no z 0 1000 _ zb).mono ?_
          rintro e w' ⟨rfl, rfl⟩
          go_wp2_with fail
          go_ret
          exact ⟨ret_bool HNN.out.symm, rfl⟩
        · go_wp2_with fail
          refine (inRange_yes z 0 1000 _ (by omega) (by omega)).mono ?_
          rintro e w' ⟨rfl, rfl⟩
          go_wp2_with fail
          go_round
          case rel => exact ⟨k + 1, by omega, by go_num, HY.out (by omega) (by omega)⟩
          case measure => simp [intOf]; omega
      · have hall := allB_yes (most := 1000) (fun j hj => HA.out j (by omega))
        have HL := Lib.hid hall
        clear hall
        by_cases h12 : 12 < zs.length
        · go_wp2_with fail
          go_ret
          exact ⟨ret_bool (vw_no2 h12).symm, rfl⟩
        · have HS := Lib.hid (vw_sum HL.out (by omega))
          go_wp2_with fail
          refine (stotal _ cap zs _ H0.out (by omega) (all_bd HL.out (by omega))).mono ?_
          rintro e w' ⟨rfl, rfl⟩
          go_wp2_with fail
          go_ret
          exact ⟨ret_bool HS.out.symm, rfl⟩
end Go.Proofs.Ytgmmdpdlekpmfaa
namespace Go.Proofs.Ytgmmdpdlekpmfaa
open Go.RowKit

/-- what can be divided -/
def csB (n : Int) (ws : List Int) : Bool := decide (0 ≤ n) && decide (n ≤ 500) && vwB ws
theorem cs_no1 {n : Int} (ws : List Int) (h : n < 0 ∨ 500 < n) : csB n ws = false := by
  unfold csB
  rcases h with h | h
  · rw [decide_eq_false (by omega : ¬ 0 ≤ n)]; rfl
  · rw [decide_eq_false (by omega : ¬ n ≤ 500)]; simp
theorem cs_is {n : Int} {ws : List Int} (h : 0 ≤ n ∧ n ≤ 500) : csB n ws = vwB ws := by unfold csB; rw [decide_eq_true h.1, decide_eq_true h.2]; rfl
theorem cs_yes {n : Int} {ws : List Int} (h : csB n ws = true) : (0 ≤ n ∧ n ≤ 500) ∧ vwB ws = true := by
  unfold csB at h; simp only [Bool.and_eq_true, decide_eq_true_eq] at h; exact h
theorem svalidSplit (n : Int) (a : Option Addr) (cap : Nat) (ws : List Int) (w : World) (h : IsInts w a ws) (hn : ws.length ≤ 1048576) :
    Calls Try.prog 155 #[.int .i64 n, .slice a ws.length cap] w fun e w' => e = .returned (.bool (csB n ws)) ∧ w = w' := by
  by_cases h1 : n < 0 ∨ 500 < n
  · go_enter Try.func155, Try.ntmps155
    go_wp2_with fail
    refine (inRange_no n 0 500 _ h1).mono ?_
    rintro e w' ⟨rfl, rfl⟩
    go_wp2_with fail
    go_ret
    exact ⟨ret_bool (cs_no1 ws h1).symm, rfl⟩
  · have HC := Lib.hid (cs_is (n := n) (ws := ws) (by omega))
    go_enter Try.func155, Try.ntmps155
    go_wp2_with fail
    refine (inRange_yes n 0 500 _ (by omega) (by omega)).mono ?_
    rintro e w' ⟨rfl, rfl⟩
    go_wp2_with fail
    refine (svw a cap ws _ h hn).mono ?_
    rintro e w' ⟨rfl, rfl⟩
    go_wp2_with fail
    go_ret
    exact ⟨ret_bool HC.out.symm, rfl⟩

/-- the quotas -/
def qs (n : Int) (ws : List Int) : List Int := ws.map fun z => n * z / ws.sum
theorem qs_len (n : Int) (ws : List Int) : (qs n ws).length = ws.length := by unfold qs; simp
theorem qs_get (n : Int) (ws : List Int) {k : Nat} (h : k < ws.length) : (qs n ws).getD k 0 = n * ws.getD k 0 / ws.sum := by
  unfold qs
  rw [List.getD_eq_getElem?_getD, List.getD_eq_getElem?_getD, List.getElem?_map, List.getElem?_eq_getElem h]; rfl
theorem q_bd {n : Int} {ws : List Int} (h : csB n ws = true) {k : Nat} (hk : k < ws.length) : 0 ≤ ws.getD k 0 ∧ ws.getD k 0 ≤ 1000 ∧ 0 ≤ n * ws.getD k 0 ∧ n * ws.getD k 0 ≤ 500000 := by
  obtain ⟨⟨a, b⟩, c⟩ := cs_yes h
  have e := (allB_iff ws 1000).1 (vw_is c).1 _ (getD_mem hk)
  exact ⟨e.1, e.2, Int.mul_nonneg a e.1, Int.le_trans (Int.mul_le_mul b e.2 e.1 (by omega)) (by omega)⟩
theorem ws_bd {ws : List Int} (h : vwB ws = true) : 1 ≤ ws.sum ∧ ws.sum ≤ 12000000 := by
  obtain ⟨a, b, c⟩ := vw_is h
  have := sum_bd ws (all_bd a (by omega)) ws.length (Nat.le_refl _)
  rw [List.take_of_length_le (Nat.le_refl _)] at this
  omega

/-- what QuotasOf leaves -/
def Quot (w : World) (n : Int) (ws : List Int) (e : Ending) (w' : World) : Prop := ∃ g : Nat, e = .returned (.slice (some ⟨g, 0, none⟩) ws.length ws.length) ∧ w.heap.size ≤ g ∧ Row w' g (qs n ws) ∧ Below w.heap.size w w'

/-- what spec.quotas leaves -/
def QuotS (w : World) (n : Int) (ws : List Int) (e : Ending) (w' : World) : Prop := ∃ (b : Option Addr) (cap : Nat), e = .returned (.slice b ws.length cap) ∧ IsInts w' b (qs n ws) ∧ Below w.heap.size w w'
def QuotO (w : World) (n : Int) (ws : List Int) (e : Ending) (w' : World) : Prop := ∃ v, e = .returned v ∧ w'.ownsRow w.heap.size 3 1 v ws.length ((qs n ws).map (Value.int .i64)) ∧ Below w.heap.size w w'
set_option maxHeartbeats 2000000 in
theorem squotasO (n : Int) (a : Option Addr) (cap : Nat) (ws : List Int) (w : World) (h : IsInts w a ws) (hn : ws.length ≤ 1048576) (hcs : csB n ws = true) :
    Calls Try.prog 163 #[.int .i64 n, .slice a ws.length cap] w (QuotO w n ws) := by
  obtain ⟨⟨n0, n1⟩, hv⟩ := cs_yes hcs
  have h0 := h
  rcases h with rfl | ⟨g, o, rfl, hc⟩
  · exact absurd (vw_is hv).2.2 (by simp)
  · obtain ⟨s0, s1⟩ := ws_bd hv
    obtain ⟨i0, hi, hz0, hz1, hz2⟩ := info_parts infoInt
    have HZ := Lib.hid (all_bd (vw_is hv).1 (by omega))
    have HC := Lib.hid hc
    have HK := Lib.hid hcs
    have H0 := Lib.hid h0
    clear hc hv hcs h0
    go_enter Try.func163, Try.ntmps163
    go_wp2_with fail
    refine (stotal _ cap ws _ (ints_below H0.out (by go_grown)) hn HZ.out).mono ?_
    rintro e w' ⟨rfl, rfl⟩
    go_wp2_with fail
    go_loopw [5, 7] (fun v i wr => ∃ k : Nat, k ≤ ws.length ∧ i = .int .i64 k ∧ wr.ownsRow w.heap.size 3 1 v k (((qs n ws).take k).map (Value.int .i64)) ∧ Below w.heap.size w wr) (fun _ i _ => ws.length - (intOf i).toNat)
    case atStart => exact ⟨0, Nat.zero_le _, rfl, ⟨by simp, .inr ⟨w.heap.size, 0, #[], rfl, Nat.le_refl _, Go.Deep.blk_alloc_new _ _, Nat.le_refl _, by unfold maxLen; omega, rfl, rfl⟩⟩, by go_grown⟩
    case round =>
      obtain ⟨k, hk, rfl, hown, hB⟩ := hrel
      have hsz := hB.size
      by_cases hlt : k < ws.length
      · have hc0 := HC.out k hlt
        have hc := (hB.cell (p := ⟨g, o + k, none⟩) (World.block_lt_of_cell? w _ hc0)).trans hc0
        obtain ⟨z0, z1, z2, z3⟩ := q_bd HK.out hlt
        have ht := take_map (qs n ws) k (by rw [qs_len]; exact hlt)
        rw [qs_get n ws hlt] at ht
        clear hc0
        generalize ws.getD k 0 = z at hc z0 z1 z2 z3 ht
        have HT := Lib.hid ht
        clear ht
        go_wp2_with (first | (at_builtin; refine wpList_append_own _ rfl _ _ 105 rfl w.heap.size 3 i0 (.int .i64 0) 1 8 Try.underlying105 hi hz0 hz1 hz2 rfl (by decide) _ _ _ rfl (hown.alloc _) ⟨wr.heap.size, 0, none⟩ 1 1 [.int .i64 (n * z / ws.sum)] rfl rfl (cell_one_new _ _ _) (fun x hx => by simp at hx; subst hx; rfl) (by unfold maxLen; omega) (by omega) (by simp; omega) ?_; intro v' w3 hown' hgrow3 hnil3))
        have HR : Hid (w3.ownsRow w.heap.size 3 1 v' (k + 1) (((qs n ws).take (k + 1)).map (Value.int .i64)) ∧ Below w.heap.size w w3) := ⟨by rw [HT.out]; exact hown', (hB.alloc hsz _).grown hgrow3 (by simp; omega) (fun q hq => (hown.lt q hq).1)⟩
        clear hown hown' hgrow3 hnil3 hB
        go_roundw
        case rel => exact ⟨k + 1, by omega, by go_num, HR.out.1, HR.out.2⟩
        case measure => simp [intOf]; omega
      · have HW := Lib.hid hown
        have HB := Lib.hid hB
        clear hown hB
        go_wp2_with fail
        go_ret
        have hl := qs_len n ws
        have ho := HW.out
        rw [List.take_of_length_le (by omega), show k = (qs n ws).length from by omega] at ho
        rw [hl] at ho
        exact ⟨_, rfl, ho, HB.out⟩
theorem squotas (n : Int) (a : Option Addr) (cap : Nat) (ws : List Int) (w : World) (h : IsInts w a ws) (hn : ws.length ≤ 1048576) (hcs : csB n ws = true) :
    Calls Try.prog 163 #[.int .i64 n, .slice a ws.length cap] w (QuotS w n ws) :=
  (squotasO n a cap ws w h hn hcs).mono (by
    rintro e w' ⟨v, rfl, ho, hB⟩
    have hl := qs_len n ws
    rw [← hl] at ho
    obtain ⟨b, cp, hv, hin⟩ := own_ints ho
    exact ⟨b, cp, by rw [hl] at hv; exact congrArg Ending.returned hv, hin, hB⟩)
end Go.Proofs.Ytgmmdpdlekpmfaa
namespace Go.Proofs.Ytgmmdpdlekpmfaa
open Go.RowKit

/-- 1, 2, 3 .. -/
def marks (n : Nat) : List Int := (List.range n).map fun (i : Nat) => (1 : Int) + (i : Int)
theorem marks_len (n : Nat) : (marks n).length = n := by unfold marks; simp
theorem marks_get (n : Nat) {k : Nat} (h : k < n) : (marks n).getD k 0 = 1 + (k : Int) := by
  unfold marks
  rw [List.getD_eq_getElem?_getD, List.getElem?_map, List.getElem?_range h]; rfl
/-- what markIntS leaves -/
def Marked (w : World) (g n : Nat) (e : Ending) (w' : World) : Prop := e = .returned (.int .i64 (1 + (n : Int))) ∧ Row w' g (marks n) ∧ w.grownBy w' (some g)

set_option maxHeartbeats 1000000 in
theorem lmark (g cap : Nat) (zs : List Int) (w : World) (h : Row w g zs) (hn : zs.length ≤ 1048576) :
    Calls Try.prog 86 #[.slice (some ⟨g, 0, none⟩) zs.length cap, .int .i64 1] w (Marked w g zs.length) := by
  have H := Lib.hid h
  clear h
  go_enter Try.func86, Try.ntmps86
  go_wp2
  go_loopw [1, 5] (fun k i wr => ∃ j : Nat, j ≤ zs.length ∧ i = .int .i64 j ∧ k = .int .i64 (1 + (j : Int)) ∧ wr.rowIs g 3 zs.length (fun i => if i < j then .int .i64 (1 + (i : Int)) else .int .i64 (zs.getD i 0)) ∧ w.grownBy wr (some g)) (fun _ i _ => zs.length - (intOf i).toNat)
  case atStart => exact ⟨0, Nat.zero_le _, rfl, rfl, H.out.congr (fun i hi => by simp), g_below (Below.refl _ _) _⟩
  case round =>
    obtain ⟨j, hj, rfl, rfl, hrow, hG⟩ := hrel
    by_cases hlt : j < zs.length
    · have hd := hrow.cell hlt
      rw [if_neg (Nat.lt_irrefl j)] at hd
      have hf := hrow.frozen j
      have hcon : (wr.setCell ⟨g, j, none⟩ (.int .i64 (1 + (j : Int)))).rowIs g 3 zs.length (fun i => if i < j + 1 then .int .i64 (1 + (i : Int)) else .int .i64 (zs.getD i 0)) :=
        (hrow.set j (.int .i64 (1 + (j : Int)))).congr (fun i hi => by
          show (if i = j then Value.int .i64 (1 + (j : Int)) else if i < j then .int .i64 (1 + (i : Int)) else .int .i64 (zs.getD i 0)) = _
          by_cases hij : i = j
          · subst hij; rw [if_pos rfl, if_pos (by omega)]
          · rw [if_neg hij]
            by_cases hl : i < j
            · rw [if_pos hl, if_pos (by omega)]
            · rw [if_neg hl, if_neg (by omega)])
      have HR := Lib.hid hcon
      have HG := Lib.hid hG
      generalize zs.getD j 0 = z at hd
      clear hcon hrow hG
      go_wp2
      go_roundw
      case rel => exact ⟨j + 1, by omega, by go_num, by go_num, HR.out, g_set HG.out (.inl rfl) _⟩
      case measure => simp [intOf]; omega
    · have HR := Lib.hid hrow
      have HG := Lib.hid hG
      clear hrow hG
      go_wp2
      go_ret
      refine ⟨ret_int (by omega), ?_, HG.out⟩
      unfold Row
      rw [marks_len]
      exact HR.out.congr (fun i hi => by rw [if_pos (by omega), marks_get _ hi])
theorem leqN (n : Nat) (a b : Option Addr) (ca cb : Nat) (zs : List Int) (w : World) (hl : zs.length = n) (ha : IsInts w a zs) (hb : IsInts w b zs) (hn : zs.length ≤ 1048576) :
    Calls Try.prog 120 #[.slice a n ca, .slice b n cb] w fun e w' => e = .returned (.bool true) ∧ Below w.heap.size w w' := by
  subst hl; exact leqIntS a b ca cb zs w ha hb hn
theorem lmarkN (n g cap : Nat) (zs : List Int) (w : World) (hl : zs.length = n) (h : Row w g zs) (hn : zs.length ≤ 1048576) :
    Calls Try.prog 86 #[.slice (some ⟨g, 0, none⟩) n cap, .int .i64 1] w (Marked w g n) := by
  subst hl; exact lmark g cap zs w h hn
end Go.Proofs.Ytgmmdpdlekpmfaa
namespace Go.Proofs.Ytgmmdpdlekpmfaa
open Go.RowKit
set_option linter.unusedSimpArgs false

end Go.Proofs.Ytgmmdpdlekpmfaa
