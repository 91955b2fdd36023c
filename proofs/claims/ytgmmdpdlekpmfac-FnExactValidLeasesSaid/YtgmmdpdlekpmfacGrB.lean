/- Contracts and facts of functions of this program, in build order. Conditions: those stated in each. -/
import Derived.Test.YtgmmdpdlekpmfacGrA
import Derived.Deep.RegionHeld3
import Derived.Deep.DeepCutAuto
import Derived.Deep.Slices
import Derived.ChangeSame
import Derived.ChangeArms
import Derived.ProofKit
namespace Go.Proofs.Ytgmmdpdlekpmfac
open Go.RowKit

/-- block g begins with the numbers zs, and may be written -/
def Flat (w : World) (g : Nat) (t : TypeId) (zs : List Int) : Prop := ∃ cs : Array Value, w.heap[g]? = some (.cells cs t (0, 0)) ∧ ∀ j, j < zs.length → cs[j]? = some (.int .i64 (zs.getD j 0))
theorem Flat.cell {w : World} {g : Nat} {t : TypeId} {zs : List Int} (h : Flat w g t zs) {j : Nat} (hj : j < zs.length) : w.cell? ⟨g, j, none⟩ = some (.int .i64 (zs.getD j 0)) := by
  obtain ⟨cs, hb, hc⟩ := h
  rw [cell_of_row w g j cs t (0, 0) hb]; exact hc j hj
theorem Flat.frozen {w : World} {g : Nat} {t : TypeId} {zs : List Int} (h : Flat w g t zs) (j : Nat) : w.frozen? ⟨g, j, none⟩ = false := by
  obtain ⟨cs, hb, hc⟩ := h
  simp [World.frozen?, hb]
theorem Flat.lt {w : World} {g : Nat} {t : TypeId} {zs : List Int} (h : Flat w g t zs) : g < w.heap.size := by
  obtain ⟨cs, hb, hc⟩ := h
  exact Blk.lt hb
theorem Flat.of_block {w w' : World} {g : Nat} {t : TypeId} {zs : List Int} (h : Flat w g t zs) (e : w'.heap[g]? = w.heap[g]?) : Flat w' g t zs := by
  obtain ⟨cs, hb, hc⟩ := h
  exact ⟨cs, e.trans hb, hc⟩
theorem Flat.next {w w' : World} {g : Nat} {t : TypeId} {zs : List Int} (h : Flat w g t zs) (hb : Below w.heap.size w w') : Flat w' g t zs := h.of_block (hb.block g h.lt)
theorem Flat.apart {w w' : World} {g g' : Nat} {t : TypeId} {zs : List Int} (h : Flat w g t zs) (hG : w.grownBy w' (some g')) (hne : g ≠ g') : Flat w' g t zs :=
  h.of_block (hG.block g h.lt (fun e => by injection e with e; exact hne e))
theorem getD_setF {zs : List Int} {i j : Nat} {z : Int} (hi : i < zs.length) : (zs.set i z).getD j 0 = if j = i then z else zs.getD j 0 := by
  rw [List.getD_eq_getElem?_getD, List.getD_eq_getElem?_getD, List.getElem?_set]
  by_cases e : i = j
  · subst e; rw [if_pos rfl, if_pos hi, if_pos rfl]; rfl
  · rw [if_neg e, if_neg (fun c => e c.symm)]
theorem Flat.set_ {w : World} {g : Nat} {t : TypeId} {zs : List Int} (h : Flat w g t zs) {i : Nat} (hi : i < zs.length) (z : Int) : Flat (w.setCell ⟨g, i, none⟩ (.int .i64 z)) g t (zs.set i z) := by
  obtain ⟨cs, hb, hc⟩ := h
  refine ⟨cs.setIfInBounds i (.int .i64 z), Blk.set_ hb i _, fun j hj => ?_⟩
  rw [List.length_set] at hj
  have hs : i < cs.size := by
    have := hc i hi
    rcases Nat.lt_or_ge i cs.size with h | h
    · exact h
    · rw [Array.getElem?_eq_none h] at this; cases this
  rw [Array.getElem?_setIfInBounds, getD_setF hi]
  by_cases e : i = j
  · subst e; rw [if_pos rfl, if_pos hs, if_pos rfl]
  · rw [if_neg e, if_neg (fun c => e c.symm)]; exact hc j hj
theorem Flat.row {w : World} {g : Nat} {t : TypeId} {n : Nat} {f : Nat → Value} {zs : List Int} (h : w.rowIs g t n f) (hl : zs.length ≤ n) (hf : ∀ j, j < zs.length → f j = .int .i64 (zs.getD j 0)) : Flat w g t zs := by
  obtain ⟨cs, hb, _, hc⟩ := h
  exact ⟨cs, hb, fun j hj => by rw [hc j (by omega), hf j hj]⟩
/-- a row of the call's own that begins with numbers: nil, or a block -/
theorem Flat.own {w : World} {base : Nat} {e : TypeId} {size n : Nat} {v : Value} {zs : List Int} (h : w.ownsRow base e size v n (zs.map (Value.int .i64))) : (v = .slice none 0 0 ∧ n = 0) ∨ ∃ g cap, v = .slice (some ⟨g, 0, none⟩) n cap ∧ base ≤ g ∧ Flat w g e zs ∧ n ≤ cap := by
  rcases h.2 with h0 | ⟨g, cap, cur, rfl, hg, hb, hnc, _, _, ht⟩
  · exact .inl h0
  · refine .inr ⟨g, cap, rfl, hg, ⟨cur, hb, fun j hj => ?_⟩, hnc⟩
    have hl := h.1
    rw [List.length_map] at hl
    have : (List.take (n * size) cur.toList)[j]? = some (.int .i64 (zs.getD j 0)) := by
      rw [ht, List.getElem?_map, List.getElem?_eq_getElem hj, List.getD_eq_getElem?_getD, List.getElem?_eq_getElem hj]; rfl
    rw [List.getElem?_take_of_lt (by omega)] at this
    simpa using this
theorem Flat.hs {w : World} {g : Nat} {t : TypeId} {hs : List Hd} (h : Flat w g t (flatH hs)) : IsHs w (some ⟨g, 0, none⟩) hs := by
  refine .inr ⟨g, 0, rfl, fun i hi => ?_⟩
  obtain ⟨a, b, c⟩ := flat_get hs i hi
  have hl := flat_len hs
  rw [Nat.zero_add]
  exact ⟨by rw [h.cell (by omega), a], by rw [h.cell (by omega), b], by rw [h.cell (by omega), c]⟩

end Go.Proofs.Ytgmmdpdlekpmfac
namespace Go.Proofs.Ytgmmdpdlekpmfac
open Go.RowKit

/-- laws.toFrac -/
theorem ltoFrac (n d : Int) (w : World) :
    Calls Try.prog 88 #[.agg #[.int .i64 n, .int .i64 d]] w fun e w' => e = .returned (.agg #[.int .i64 n, .int .i64 d]) ∧ Below w.heap.size w w' := by
  go_enter Try.func88, Try.ntmps88
  go_wp2
  refine bodyPost_ret (v := .agg #[.int .i64 n, .int .i64 d]) (by simp [results, Try.results88, go_sem]) rfl ⟨rfl, by go_grown⟩

/-- laws.eqFrac of a fraction and itself -/
theorem leqFrac (n d : Int) (w : World) :
    Calls Try.prog 95 #[.agg #[.int .i64 n, .int .i64 d], .agg #[.int .i64 n, .int .i64 d]] w fun e w' => e = .returned (.bool true) ∧ Below w.heap.size w w' := by
  go_enter Try.func95, Try.ntmps95
  go_wp2
  go_ret
  exact ⟨rfl, by go_grown⟩
end Go.Proofs.Ytgmmdpdlekpmfac
namespace Go.Proofs.Ytgmmdpdlekpmfac
open Go.RowKit

theorem lszH (a : Option Addr) (n cap : Nat) (w : World) (hn : n ≤ 1048576) :
    Calls Try.prog 36 #[.slice a n cap, .int .i64 1048576] w fun e w' => e = .returned (.int .i64 (1048576 - (n : Int))) ∧ w = w' := by
  go_enter Try.func36, Try.ntmps36
  go_wp2
  go_ret
  exact ⟨rfl, rfl⟩
theorem lszH_no (a : Option Addr) (n cap : Nat) (w : World) (h : 1048576 < n) (hn : n ≤ 9223372036854775807) :
    Calls Try.prog 36 #[.slice a n cap, .int .i64 1048576] w fun e w' => e = .returned (.int .i64 (-1)) ∧ w = w' := by
  go_enter Try.func36, Try.ntmps36
  go_wp2
  go_ret
  exact ⟨rfl, rfl⟩

set_option maxHeartbeats 1000000 in
theorem ltoHolding (o n d : Int) (w : World) :
    Calls Try.prog 72 #[.agg #[.int .i64 o, .int .i64 n, .int .i64 d]] w fun e w' => e = .returned (.agg #[.int .i64 o, .int .i64 n, .int .i64 d]) ∧ Below w.heap.size w w' := by
  go_enter Try.func72, Try.ntmps72
  go_wp2_with fail
  refine (ltoFrac n d _).mono ?_
  rintro e w1 ⟨rfl, hb⟩
  have hB : Below w.heap.size w w1 := bel_tr (by go_grown) hb
  obtain ⟨hc, hf⟩ := bcell hb
  have hz := hb.size
  simp at hz
  have c0 := hc (w.heap.size + 1) 0 (by simp)
  have c1 := hc (w.heap.size + 1) 1 (by simp)
  have c2 := hc (w.heap.size + 1) 2 (by simp)
  have c3 := hc (w.heap.size + 2) 0 (by simp)
  have c4 := hc (w.heap.size + 2) 1 (by simp)
  have c5 := hc (w.heap.size + 2) 2 (by simp)
  have f0 := hf (w.heap.size + 1) 0 (by simp)
  have f1 := hf (w.heap.size + 1) 1 (by simp)
  have f2 := hf (w.heap.size + 1) 2 (by simp)
  have f3 := hf (w.heap.size + 2) 0 (by simp)
  have f4 := hf (w.heap.size + 2) 1 (by simp)
  have f5 := hf (w.heap.size + 2) 2 (by simp)
  simp [go_sem] at c0 c1 c2 c3 c4 c5 f0 f1 f2 f3 f4 f5
  clear hc hf hb
  go_wp2_with fail
  refine bodyPost_ret (v := .agg #[.int .i64 o, .int .i64 n, .int .i64 d]) (by simp [results, Try.results72, go_sem, c0, c1, c2]) rfl ⟨rfl, ?_⟩
  repeat (first | exact hB | refine Below.setCell ?_ (by simp <;> omega) _)

theorem leqHolding (o n d : Int) (w : World) :
    Calls Try.prog 79 #[.agg #[.int .i64 o, .int .i64 n, .int .i64 d], .agg #[.int .i64 o, .int .i64 n, .int .i64 d]] w fun e w' => e = .returned (.bool true) ∧ Below w.heap.size w w' := by
  go_enter Try.func79, Try.ntmps79
  go_wp2_with fail
  refine (leqFrac n d _).mono ?_
  rintro e w1 ⟨rfl, hb⟩
  have hB : Below w.heap.size w w1 := bel_tr (by go_grown) hb
  go_wp2_with fail
  go_ret
  exact ⟨rfl, hB⟩

/-- what toHoldingS leaves -/
def CopiedH (w : World) (hs : List Hd) (e : Ending) (w' : World) : Prop := ∃ g : Nat, e = .returned (.slice (some ⟨g, 0, none⟩) hs.length hs.length) ∧ w.heap.size ≤ g ∧ Flat w' g 104 (flatH hs) ∧ Below w.heap.size w w'
theorem made_row (w : World) (n : Nat) (t : TypeId) : (w.alloc (.cells (madeCells #[.int .i64 0, .int .i64 0, .int .i64 0] n) t)).rowIs w.heap.size t n (fun _ => .int .i64 0) := by
  have hs : (madeCells #[Value.int .i64 0, .int .i64 0, .int .i64 0] n).size = n := by unfold madeCells; simp
  refine ⟨_, heap_alloc_new w _, hs, fun i hi => ?_⟩
  have hm : i % 3 = 0 ∨ i % 3 = 1 ∨ i % 3 = 2 := by omega
  unfold madeCells
  rw [Array.getElem?_map, Array.getElem?_range, if_pos hi]
  show some ((#[Value.int .i64 0, .int .i64 0, .int .i64 0] : Array Value)[i % 3]!) = _
  rcases hm with h | h | h <;> rw [h] <;> rfl
theorem run_makeH (n : Nat) (hn : n ≤ 1048576) (w : World) : (Instr.makeSlice 62 (.int .i64 (n : Int)) (.int .i64 (n : Int))).run Try.prog w = .ok (.slice (some ⟨w.heap.size, 0, none⟩) n n) (w.alloc (.cells (madeCells #[.int .i64 0, .int .i64 0, .int .i64 0] (n * 3)) 104)) := by
  obtain ⟨i0, hi0, hz0, hz1, hz2⟩ := info_parts infoH
  have := run_make (P := Try.prog) w 62 104 i0 _ Try.underlying62 hi0 hz0 .i64 .i64 (n : Int) (n : Int) (by omega) (by omega) (by rw [hz2]; omega) (by omega)
  simp only [Int.toNat_natCast, hz1] at this
  exact this

set_option maxHeartbeats 1000000 in
theorem ltoH (a : Option Addr) (cap : Nat) (hs : List Hd) (w : World) (h : IsHs w a hs) (hn : hs.length ≤ 1048576) :
    Calls Try.prog 39 #[.slice a hs.length cap] w (CopiedH w hs) := by
  rcases h with rfl | ⟨g, o, rfl, hc⟩
  · have hmk : ∀ W : World, (Instr.makeSlice 62 (.int .i64 0) (.int .i64 0)).run Try.prog W = .ok (.slice (some ⟨W.heap.size, 0, none⟩) 0 0) (W.alloc (.cells (madeCells #[.int .i64 0, .int .i64 0, .int .i64 0] 0) 104)) := fun W => run_makeH 0 (by omega) W
    go_enter Try.func39, Try.ntmps39
    go_wp2
    go_rounds 1
    go_ret
    exact ⟨_, rfl, Nat.le_refl _, Flat.row (made_row w 0 _) (by simp [flatH]) (fun j hj => by simp [flatH] at hj), by go_grown⟩
  · have hmk := run_makeH hs.length hn
    have HC := Lib.hid hc
    clear hc
    go_enter Try.func39, Try.ntmps39
    go_wp2
    clear hmk
    go_loopw [4] (fun i wr => ∃ k : Nat, k ≤ hs.length ∧ i = .int .i64 k ∧ wr.rowIs w.heap.size 104 (hs.length * 3) (fun j => if j < k * 3 then .int .i64 ((flatH hs).getD j 0) else .int .i64 0) ∧ Below w.heap.size w wr) (fun i _ => hs.length - (intOf i).toNat)
    case atStart => exact ⟨0, Nat.zero_le _, rfl, (made_row w (hs.length * 3) _).congr (fun i hi => by simp), by go_grown⟩
    case round =>
      obtain ⟨k, hk, rfl, hrow, hB⟩ := hrel
      by_cases hlt : k < hs.length
      · obtain ⟨c0, c1, c2⟩ := cells_at HC.out hB hlt
        obtain ⟨g0, g1, g2⟩ := flat_get hs k hlt
        have hd : ∀ j, k * 3 ≤ j → j < hs.length * 3 → wr.cell? ⟨w.heap.size, j, none⟩ = some (.int .i64 0) := fun j h0 h1 => by rw [hrow.cell h1, if_neg (by omega)]
        have d0 := hd (k * 3) (by omega) (by omega)
        have d1 := hd (k * 3 + 1) (by omega) (by omega)
        have d2 := hd (k * 3 + 2) (by omega) (by omega)
        have hcon : ∀ x n d : Int, (flatH hs).getD (k * 3) 0 = x → (flatH hs).getD (k * 3 + 1) 0 = n → (flatH hs).getD (k * 3 + 2) 0 = d → ∀ W : World, W.heap[w.heap.size]? = wr.heap[w.heap.size]? →
            (((W.setCell ⟨w.heap.size, k * 3, none⟩ (.int .i64 x)).setCell ⟨w.heap.size, k * 3 + 1, none⟩ (.int .i64 n)).setCell ⟨w.heap.size, k * 3 + 2, none⟩ (.int .i64 d)).rowIs w.heap.size 104 (hs.length * 3) (fun j => if j < (k + 1) * 3 then .int .i64 ((flatH hs).getD j 0) else .int .i64 0) := fun x n d e0 e1 e2 W hW => by
          have hrow' := World.rowIs.of_block hrow hW
          refine (((hrow'.set (k * 3) (.int .i64 x)).set (k * 3 + 1) (.int .i64 n)).set (k * 3 + 2) (.int .i64 d)).congr (fun j hj => ?_)
          show (if j = k * 3 + 2 then Value.int .i64 d else if j = k * 3 + 1 then .int .i64 n else if j = k * 3 then .int .i64 x else if j < k * 3 then .int .i64 ((flatH hs).getD j 0) else .int .i64 0) = _
          by_cases a2 : j = k * 3 + 2
          · rw [if_pos a2, if_pos (by omega), a2, e2]
          rw [if_neg a2]
          by_cases a1 : j = k * 3 + 1
          · rw [if_pos a1, if_pos (by omega), a1, e1]
          rw [if_neg a1]
          by_cases a0 : j = k * 3
          · rw [if_pos a0, if_pos (by omega), a0, e0]
          rw [if_neg a0]
          by_cases al : j < k * 3
          · rw [if_pos al, if_pos (by omega)]
          · rw [if_neg al, if_neg (by omega)]
        have hcon2 := hcon _ _ _ g0 g1 g2
        have hfr := hrow.frozen
        have hlw := World.rowIs.lt hrow
        clear hcon hd g0 g1 g2
        generalize hs.getD k hd0 = hh at c0 c1 c2 hcon2
        obtain ⟨x, n, d⟩ := hh
        dsimp only at c0 c1 c2 hcon2
        have HR := Lib.hid hcon2
        have HB := Lib.hid hB
        have HF := Lib.hid hfr
        clear hcon2 hrow hB hfr
        go_wp2_with fail
        refine (ltoHolding x n d _).mono ?_
        rintro e w1 ⟨rfl, hb⟩
        have hB1 := bel_tr HB.out hb
        have hblk := hb.block w.heap.size hlw
        have e0 := (hb.cell (p := ⟨w.heap.size, k * 3, none⟩) hlw).trans d0
        have e1 := (hb.cell (p := ⟨w.heap.size, k * 3 + 1, none⟩) hlw).trans d1
        have e2 := (hb.cell (p := ⟨w.heap.size, k * 3 + 2, none⟩) hlw).trans d2
        have f0 := (hb.frozen (p := ⟨w.heap.size, k * 3, none⟩) hlw).trans (HF.out _)
        have f1 := (hb.frozen (p := ⟨w.heap.size, k * 3 + 1, none⟩) hlw).trans (HF.out _)
        have f2 := (hb.frozen (p := ⟨w.heap.size, k * 3 + 2, none⟩) hlw).trans (HF.out _)
        clear hb d0 d1 d2 c0 c1 c2
        go_wp2_with fail
        go_roundw
        case rel => exact ⟨k + 1, by omega, by go_num, HR.out w1 hblk, ((hB1.setCell (Nat.le_refl _) _).setCell (Nat.le_refl _) _).setCell (Nat.le_refl _) _⟩
        case measure => simp [intOf]; omega
      · have HR := Lib.hid hrow
        have HB := Lib.hid hB
        clear hrow hB
        go_wp2
        go_ret
        have hl := flat_len hs
        exact ⟨_, rfl, Nat.le_refl _, Flat.row HR.out (by omega) (fun j hj => by rw [if_pos (by omega)]), HB.out⟩

theorem keep6 {w w' : World} {p q r p' q' r' : Addr} {u v x u' v' x' : Value} (hb : Below w.heap.size w w') (h : w.cell? p = some u ∧ w.cell? q = some v ∧ w.cell? r = some x ∧ w.cell? p' = some u' ∧ w.cell? q' = some v' ∧ w.cell? r' = some x') : w'.cell? p = some u ∧ w'.cell? q = some v ∧ w'.cell? r = some x ∧ w'.cell? p' = some u' ∧ w'.cell? q' = some v' ∧ w'.cell? r' = some x' := by
  have n : ∀ {p : Addr} {v : Value}, w.cell? p = some v → w'.cell? p = some v := fun h => (hb.cell (World.block_lt_of_cell? w _ h)).trans h
  exact ⟨n h.1, n h.2.1, n h.2.2.1, n h.2.2.2.1, n h.2.2.2.2.1, n h.2.2.2.2.2⟩

set_option maxHeartbeats 1000000 in
/-- eqHoldingS of two readings of the same holdings -/
theorem leqH (a b : Option Addr) (ca cb : Nat) (hs : List Hd) (w : World) (ha : IsHs w a hs) (hb : IsHs w b hs) (hn : hs.length ≤ 1048576) :
    Calls Try.prog 42 #[.slice a hs.length ca, .slice b hs.length cb] w fun e w' => e = .returned (.bool true) ∧ Below w.heap.size w w' := by
  rcases ha with rfl | ⟨g, o, rfl, hc⟩
  · go_enter Try.func42, Try.ntmps42
    go_wp2
    go_rounds 1
    go_ret
    exact ⟨rfl, by go_grown⟩
  · rcases hb with rfl | ⟨g2, o2, rfl, hc2⟩
    · go_enter Try.func42, Try.ntmps42
      go_wp2
      go_rounds 1
      go_ret
      exact ⟨rfl, by go_grown⟩
    · have HC := Lib.hid hc
      have HD := Lib.hid hc2
      clear hc hc2
      go_enter Try.func42, Try.ntmps42
      go_wp2
      go_loopw [5] (fun i wr => ∃ k : Nat, k ≤ hs.length ∧ i = .int .i64 k ∧ Below w.heap.size w wr) (fun i _ => hs.length - (intOf i).toNat)
      case atStart => exact ⟨0, Nat.zero_le _, rfl, by go_grown⟩
      case round =>
        obtain ⟨k, hk, rfl, hB⟩ := hrel
        by_cases hlt : k < hs.length
        · obtain ⟨c0, c1, c2⟩ := cells_at HC.out hB hlt
          obtain ⟨d0, d1, d2⟩ := cells_at HD.out hB hlt
          generalize hs.getD k hd0 = hh at c0 c1 c2 d0 d1 d2
          obtain ⟨x, n, d⟩ := hh
          dsimp only at c0 c1 c2 d0 d1 d2
          have HB := Lib.hid hB
          clear hB
          have i0 : (0 : Int) ≤ (k : Int) := by omega
          have i1 : (k : Int) < (hs.length : Int) := by omega
          go_wp2_with fail
          go_region_held3 (fun w' => w'.cell? ⟨g, o + k * 3, none⟩ = some (.int .i64 x) ∧ w'.cell? ⟨g, o + k * 3 + 1, none⟩ = some (.int .i64 n) ∧ w'.cell? ⟨g, o + k * 3 + 2, none⟩ = some (.int .i64 d) ∧ w'.cell? ⟨g2, o2 + k * 3, none⟩ = some (.int .i64 x) ∧ w'.cell? ⟨g2, o2 + k * 3 + 1, none⟩ = some (.int .i64 n) ∧ w'.cell? ⟨g2, o2 + k * 3 + 2, none⟩ = some (.int .i64 d)) (first | (exact keep6 (by assumption) (by assumption)) | (refine ⟨?_, ?_, ?_, ?_, ?_, ?_⟩ <;> (go_keep; done))) (first | (go_at_call 79; refine (leqHolding x n d _).mono ?_; rintro e w3 ⟨rfl, hb⟩))
          go_wp2_with fail
          go_roundw
          case rel => exact ⟨k + 1, by omega, by go_num, bel_tr HB.out.drew hb⟩
          case measure => simp [intOf]; omega
        · go_wp2
          go_ret
          exact ⟨rfl, hB⟩

/-- what markHoldingS leaves -/
def MarkedF (w : World) (g n : Nat) (e : Ending) (w' : World) : Prop := e = .returned (.int .i64 (1 + ((n * 3 : Nat) : Int))) ∧ Flat w' g 104 (marksF (n * 3)) ∧ w.grownBy w' (some g)
end Go.Proofs.Ytgmmdpdlekpmfac
namespace Go.Proofs.Ytgmmdpdlekpmfac
open Go.ChangeShapes Go.WideShapes Go.RowKit Go.Deep

/-- a slice of holdings that came in -/
def HoldsIn (w : World) (a : Option Addr) (len cap : Nat) (hs : List Hd) : Prop := hs.length = len ∧ IsHs w a hs ∧ len ≤ cap ∧ cap ≤ maxLen
set_option maxRecDepth 100000 in
theorem open_frac {H : Type} {enc : TypeId × Value → H} {w : World} {base : Nat} {spare : Nat → Bool} {held : Bool} {fuel : Nat} {cs : List Value} {x : DataW H × List MemPlace} (h : DataW.trod enc Try.prog w base spare held fuel 23 cs = some x) : ∃ n d : Int, cs = [.int .i64 n, .int .i64 d] := by
  obtain ⟨y0, y1, n', _, hl, h0, h1⟩ := trod_struct2 Try.underlying23 h
  obtain ⟨n, e0, _, _⟩ := DataW.trod_int Try.underlying3 h0
  obtain ⟨d, e1, _, _⟩ := DataW.trod_int Try.underlying3 h1
  have hc : Try.prog.cellsOf 23 = 2 := by kernel_rfl
  have hi : Try.prog.cellsOf 3 = 1 := by kernel_rfl
  have hl := hl.trans hc
  dsimp only at e0 e1
  rw [hi] at e0 e1
  match cs, hl with
  | [a, b], _ =>
    refine ⟨n, d, ?_⟩
    simp at e0 e1
    rw [e0, e1]
set_option maxRecDepth 100000 in
theorem open_hold {H : Type} {enc : TypeId × Value → H} {w : World} {base : Nat} {spare : Nat → Bool} {held : Bool} {fuel : Nat} {cs : List Value} {x : DataW H × List MemPlace} (h : DataW.trod enc Try.prog w base spare held fuel 107 cs = some x) : ∃ o n d : Int, cs = [.int .i64 o, .int .i64 n, .int .i64 d] := by
  obtain ⟨y0, y1, n', _, hl, h0, h1⟩ := trod_struct2 Try.underlying107 h
  obtain ⟨o, e0, _, _⟩ := DataW.trod_int Try.underlying3 h0
  obtain ⟨n, d, e1⟩ := open_frac h1
  have hc : Try.prog.cellsOf 107 = 3 := by kernel_rfl
  have hf : Try.prog.cellsOf 23 = 2 := by kernel_rfl
  have hi : Try.prog.cellsOf 3 = 1 := by kernel_rfl
  have hl := hl.trans hc
  dsimp only at e0 e1
  rw [hi] at e0
  rw [hf] at e1
  match cs, hl with
  | [a, b, c], _ =>
    refine ⟨o, n, d, ?_⟩
    simp at e0 e1
    rw [e0, e1.1, e1.2]
set_option maxRecDepth 100000 in
theorem open_holds {H : Type} {enc : TypeId × Value → H} {w : World} {base : Nat} {spare : Nat → Bool} {held : Bool} {fuel : Nat} {a : Option Addr} {len cap : Nat} {x : DataW H × List MemPlace} (h : DataW.trod enc Try.prog w base spare held fuel 57 [.slice a len cap] = some x) : ∃ hs, HoldsIn w a len cap hs := by
  rcases open_slice Try.underlying57 h with ⟨hcs, _⟩ | ⟨ad, l, c, m, n', D, Pl, hcs, hb, hl, hm, hmm, hx, hi⟩
  · simp at hcs
    obtain ⟨rfl, rfl, rfl⟩ := hcs
    exact ⟨[], rfl, .inl rfl, Nat.le_refl _, Nat.zero_le _⟩
  · simp at hcs
    obtain ⟨rfl, rfl, rfl⟩ := hcs
    have hc : Try.prog.cellsOf 107 = 3 := by kernel_rfl
    have hmn : len ≤ m := by rw [hmm]; split <;> omega
    have each : ∀ i, i < len → ∃ z : Hd, w.cell? (ad.add (i * 3)) = some (.int .i64 z.1) ∧ w.cell? (ad.add (i * 3 + 1)) = some (.int .i64 z.2.1) ∧ w.cell? (ad.add (i * 3 + 2)) = some (.int .i64 z.2.2) := fun i hin => by
      obtain ⟨cs', h1, h2⟩ := hi i (by omega)
      obtain ⟨o, n, d, rfl⟩ := open_hold h2
      rw [hc] at h1
      obtain ⟨_, _, hat⟩ := World.cells?_some h1
      have a0 := hat 0 (by omega)
      have a1 := hat 1 (by omega)
      have a2 := hat 2 (by omega)
      rw [add_add] at a0 a1 a2
      exact ⟨(o, n, d), a0, a1, a2⟩
    obtain ⟨f, hf⟩ : ∃ f : Nat → Hd, ∀ i, i < len → w.cell? (ad.add (i * 3)) = some (.int .i64 (f i).1) ∧ w.cell? (ad.add (i * 3 + 1)) = some (.int .i64 (f i).2.1) ∧ w.cell? (ad.add (i * 3 + 2)) = some (.int .i64 (f i).2.2) :=
      ⟨fun i => if hh : i < len then Classical.choose (each i hh) else hd0, fun i hh => by simp only [dif_pos hh]; exact Classical.choose_spec (each i hh)⟩
    refine ⟨(List.range len).map f, by simp, ?_, hl, hm⟩
    by_cases h0 : len = 0
    · subst h0; exact .inl rfl
    · obtain ⟨b, off, spot⟩ := ad
      have hsp := (hf 0 (by omega)).1
      have hspot : spot = none := by simpa [Addr.add] using World.cell?_spot hsp
      subst hspot
      refine .inr ⟨b, off, rfl, fun i hin => ?_⟩
      have hin' : i < len := by simpa using hin
      have e : ((List.range len).map f).getD i hd0 = f i := by
        rw [List.getD_eq_getElem?_getD, List.getElem?_map, List.getElem?_range hin']; rfl
      have ao : ∀ j, (⟨b, off, none⟩ : Addr).add j = ⟨b, off + j, none⟩ := fun j => by
        unfold Addr.add
        by_cases hj : j = 0
        · subst hj; simp
        · simp [hj]
      obtain ⟨q0, q1, q2⟩ := hf i hin'
      rw [ao] at q0 q1 q2
      rw [e]
      exact ⟨q0, by rw [Nat.add_assoc]; exact q1, by rw [Nat.add_assoc]; exact q2⟩
end Go.Proofs.Ytgmmdpdlekpmfac
