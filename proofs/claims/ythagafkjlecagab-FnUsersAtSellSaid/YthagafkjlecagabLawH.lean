/- The laws' own functions on holdings: sizes, copies, comparisons, marks. Condition: at most 1048576 holdings. -/
import Derived.Test.YthagafkjlecagabGrB
import Derived.Deep.RegionHeld3
import Derived.Deep.DeepCutAuto
namespace Go.Proofs.Ythagafkjlecagab
open Go.RowKit

theorem lszH (a : Option Addr) (n cap : Nat) (w : World) (hn : n ≤ 1048576) :
    Calls Try.prog 9 #[.slice a n cap, .int .i64 1048576] w fun e w' => e = .returned (.int .i64 (1048576 - (n : Int))) ∧ w = w' := by
  go_enter Try.func9, Try.ntmps9
  go_wp2
  go_ret
  exact ⟨rfl, rfl⟩
theorem lszH_no (a : Option Addr) (n cap : Nat) (w : World) (h : 1048576 < n) (hn : n ≤ 9223372036854775807) :
    Calls Try.prog 9 #[.slice a n cap, .int .i64 1048576] w fun e w' => e = .returned (.int .i64 (-1)) ∧ w = w' := by
  go_enter Try.func9, Try.ntmps9
  go_wp2
  go_ret
  exact ⟨rfl, rfl⟩

set_option maxHeartbeats 1000000 in
theorem ltoHolding (o n d : Int) (w : World) :
    Calls Try.prog 40 #[.agg #[.int .i64 o, .int .i64 n, .int .i64 d]] w fun e w' => e = .returned (.agg #[.int .i64 o, .int .i64 n, .int .i64 d]) ∧ Below w.heap.size w w' := by
  go_enter Try.func40, Try.ntmps40
  go_wp2_with fail
  refine (ltoFrac n d _).mono ?_
  rintro e w1 ⟨rfl, hb⟩
  have hB : Below w.heap.size w w1 := bel_tr (by go_grown) hb
  obtain ⟨hc, hf⟩ := bcell hb
  have hz := hb.size
  simp at hz
  have c0 := hc (w.heap.size + 1) 0 (by simp)
  have c1 := hc (w.heap.size + 1) 1 (by simp)
  have c2 := hc (w.heap.size + 1) 2 (by simp)
  have c3 := hc (w.heap.size + 2) 0 (by simp)
  have c4 := hc (w.heap.size + 2) 1 (by simp)
  have c5 := hc (w.heap.size + 2) 2 (by simp)
  have f0 := hf (w.heap.size + 1) 0 (by simp)
  have f1 := hf (w.heap.size + 1) 1 (by simp)
  have f2 := hf (w.heap.size + 1) 2 (by simp)
  have f3 := hf (w.heap.size + 2) 0 (by simp)
  have f4 := hf (w.heap.size + 2) 1 (by simp)
  have f5 := hf (w.heap.size + 2) 2 (by simp)
  simp [go_sem] at c0 c1 c2 c3 c4 c5 f0 f1 f2 f3 f4 f5
  clear hc hf hb
  go_wp2_with fail
  refine bodyPost_ret (v := .agg #[.int .i64 o, .int .i64 n, .int .i64 d]) (by simp [results, Try.results40, go_sem, c0, c1, c2]) rfl ⟨rfl, ?_⟩
  repeat (first | exact hB | refine Below.setCell ?_ (by simp <;> omega) _)

theorem leqHolding (o n d : Int) (w : World) :
    Calls Try.prog 45 #[.agg #[.int .i64 o, .int .i64 n, .int .i64 d], .agg #[.int .i64 o, .int .i64 n, .int .i64 d]] w fun e w' => e = .returned (.bool true) ∧ Below w.heap.size w w' := by
  go_enter Try.func45, Try.ntmps45
  go_wp2_with fail
  refine (leqFrac n d _).mono ?_
  rintro e w1 ⟨rfl, hb⟩
  have hB : Below w.heap.size w w1 := bel_tr (by go_grown) hb
  go_wp2_with fail
  go_ret
  exact ⟨rfl, hB⟩

/-- what toHoldingS leaves -/
def CopiedH (w : World) (hs : List Hd) (e : Ending) (w' : World) : Prop := ∃ g : Nat, e = .returned (.slice (some ⟨g, 0, none⟩) hs.length hs.length) ∧ w.heap.size ≤ g ∧ Flat w' g 64 (flatH hs) ∧ Below w.heap.size w w'
theorem made_row (w : World) (n : Nat) (t : TypeId) : (w.alloc (.cells (madeCells #[.int .i64 0, .int .i64 0, .int .i64 0] n) t)).rowIs w.heap.size t n (fun _ => .int .i64 0) := by
  have hs : (madeCells #[Value.int .i64 0, .int .i64 0, .int .i64 0] n).size = n := by unfold madeCells; simp
  refine ⟨_, heap_alloc_new w _, hs, fun i hi => ?_⟩
  have hm : i % 3 = 0 ∨ i % 3 = 1 ∨ i % 3 = 2 := by omega
  unfold madeCells
  rw [Array.getElem?_map, Array.getElem?_range, if_pos hi]
  show some ((#[Value.int .i64 0, .int .i64 0, .int .i64 0] : Array Value)[i % 3]!) = _
  rcases hm with h | h | h <;> rw [h] <;> rfl
theorem run_makeH (n : Nat) (hn : n ≤ 1048576) (w : World) : (Instr.makeSlice 26 (.int .i64 (n : Int)) (.int .i64 (n : Int))).run Try.prog w = .ok (.slice (some ⟨w.heap.size, 0, none⟩) n n) (w.alloc (.cells (madeCells #[.int .i64 0, .int .i64 0, .int .i64 0] (n * 3)) 64)) := by
  obtain ⟨i0, hi0, hz0, hz1, hz2⟩ := info_parts infoH
  have := run_make (P := Try.prog) w 26 64 i0 _ Try.underlying26 hi0 hz0 .i64 .i64 (n : Int) (n : Int) (by omega) (by omega) (by rw [hz2]; omega) (by omega)
  simp only [Int.toNat_natCast, hz1] at this
  exact this

set_option maxHeartbeats 1000000 in
theorem ltoH (a : Option Addr) (cap : Nat) (hs : List Hd) (w : World) (h : IsHs w a hs) (hn : hs.length ≤ 1048576) :
    Calls Try.prog 12 #[.slice a hs.length cap] w (CopiedH w hs) := by
  rcases h with rfl | ⟨g, o, rfl, hc⟩
  · have hmk : ∀ W : World, (Instr.makeSlice 26 (.int .i64 0) (.int .i64 0)).run Try.prog W = .ok (.slice (some ⟨W.heap.size, 0, none⟩) 0 0) (W.alloc (.cells (madeCells #[.int .i64 0, .int .i64 0, .int .i64 0] 0) 64)) := fun W => run_makeH 0 (by omega) W
    go_enter Try.func12, Try.ntmps12
    go_wp2
    go_rounds 1
    go_ret
    exact ⟨_, rfl, Nat.le_refl _, Flat.row (made_row w 0 _) (by simp [flatH]) (fun j hj => by simp [flatH] at hj), by go_grown⟩
  · have hmk := run_makeH hs.length hn
    have HC := Lib.hid hc
    clear hc
    go_enter Try.func12, Try.ntmps12
    go_wp2
    clear hmk
    go_loopw [4] (fun i wr => ∃ k : Nat, k ≤ hs.length ∧ i = .int .i64 k ∧ wr.rowIs w.heap.size 64 (hs.length * 3) (fun j => if j < k * 3 then .int .i64 ((flatH hs).getD j 0) else .int .i64 0) ∧ Below w.heap.size w wr) (fun i _ => hs.length - (intOf i).toNat)
    case atStart => exact ⟨0, Nat.zero_le _, rfl, (made_row w (hs.length * 3) _).congr (fun i hi => by simp), by go_grown⟩
    case round =>
      obtain ⟨k, hk, rfl, hrow, hB⟩ := hrel
      by_cases hlt : k < hs.length
      · obtain ⟨c0, c1, c2⟩ := cells_at HC.out hB hlt
        obtain ⟨g0, g1, g2⟩ := flat_get hs k hlt
        have hd : ∀ j, k * 3 ≤ j → j < hs.length * 3 → wr.cell? ⟨w.heap.size, j, none⟩ = some (.int .i64 0) := fun j h0 h1 => by rw [hrow.cell h1, if_neg (by omega)]
        have d0 := hd (k * 3) (by omega) (by omega)
        have d1 := hd (k * 3 + 1) (by omega) (by omega)
        have d2 := hd (k * 3 + 2) (by omega) (by omega)
        have hcon : ∀ x n d : Int, (flatH hs).getD (k * 3) 0 = x → (flatH hs).getD (k * 3 + 1) 0 = n → (flatH hs).getD (k * 3 + 2) 0 = d → ∀ W : World, W.heap[w.heap.size]? = wr.heap[w.heap.size]? →
            (((W.setCell ⟨w.heap.size, k * 3, none⟩ (.int .i64 x)).setCell ⟨w.heap.size, k * 3 + 1, none⟩ (.int .i64 n)).setCell ⟨w.heap.size, k * 3 + 2, none⟩ (.int .i64 d)).rowIs w.heap.size 64 (hs.length * 3) (fun j => if j < (k + 1) * 3 then .int .i64 ((flatH hs).getD j 0) else .int .i64 0) := fun x n d e0 e1 e2 W hW => by
          have hrow' := World.rowIs.of_block hrow hW
          refine (((hrow'.set (k * 3) (.int .i64 x)).set (k * 3 + 1) (.int .i64 n)).set (k * 3 + 2) (.int .i64 d)).congr (fun j hj => ?_)
          show (if j = k * 3 + 2 then Value.int .i64 d else if j = k * 3 + 1 then .int .i64 n else if j = k * 3 then .int .i64 x else if j < k * 3 then .int .i64 ((flatH hs).getD j 0) else .int .i64 0) = _
          by_cases a2 : j = k * 3 + 2
          · rw [if_pos a2, if_pos (by omega), a2, e2]
          rw [if_neg a2]
          by_cases a1 : j = k * 3 + 1
          · rw [if_pos a1, if_pos (by omega), a1, e1]
          rw [if_neg a1]
          by_cases a0 : j = k * 3
          · rw [if_pos a0, if_pos (by omega), a0, e0]
          rw [if_neg a0]
          by_cases al : j < k * 3
          · rw [if_pos al, if_pos (by omega)]
          · rw [if_neg al, if_neg (by omega)]
        have hcon2 := hcon _ _ _ g0 g1 g2
        have hfr := hrow.frozen
        have hlw := World.rowIs.lt hrow
        clear hcon hd g0 g1 g2
        generalize hs.getD k hd0 = hh at c0 c1 c2 hcon2
        obtain ⟨x, n, d⟩ := hh
        dsimp only at c0 c1 c2 hcon2
        have HR := Lib.hid hcon2
        have HB := Lib.hid hB
        have HF := Lib.hid hfr
        clear hcon2 hrow hB hfr
        go_wp2_with fail
        refine (ltoHolding x n d _).mono ?_
        rintro e w1 ⟨rfl, hb⟩
        have hB1 := bel_tr HB.out hb
        have hblk := hb.block w.heap.size hlw
        have e0 := (hb.cell (p := ⟨w.heap.size, k * 3, none⟩) hlw).trans d0
        have e1 := (hb.cell (p := ⟨w.heap.size, k * 3 + 1, none⟩) hlw).trans d1
        have e2 := (hb.cell (p := ⟨w.heap.size, k * 3 + 2, none⟩) hlw).trans d2
        have f0 := (hb.frozen (p := ⟨w.heap.size, k * 3, none⟩) hlw).trans (HF.out _)
        have f1 := (hb.frozen (p := ⟨w.heap.size, k * 3 + 1, none⟩) hlw).trans (HF.out _)
        have f2 := (hb.frozen (p := ⟨w.heap.size, k * 3 + 2, none⟩) hlw).trans (HF.out _)
        clear hb d0 d1 d2 c0 c1 c2
        go_wp2_with fail
        go_roundw
        case rel => exact ⟨k + 1, by omega, by go_num, HR.out w1 hblk, ((hB1.setCell (Nat.le_refl _) _).setCell (Nat.le_refl _) _).setCell (Nat.le_refl _) _⟩
        case measure => simp [intOf]; omega
      · have HR := Lib.hid hrow
        have HB := Lib.hid hB
        clear hrow hB
        go_wp2
        go_ret
        have hl := flat_len hs
        exact ⟨_, rfl, Nat.le_refl _, Flat.row HR.out (by omega) (fun j hj => by rw [if_pos (by omega)]), HB.out⟩

theorem keep6 {w w' : World} {p q r p' q' r' : Addr} {u v x u' v' x' : Value} (hb : Below w.heap.size w w') (h : w.cell? p = some u ∧ w.cell? q = some v ∧ w.cell? r = some x ∧ w.cell? p' = some u' ∧ w.cell? q' = some v' ∧ w.cell? r' = some x') : w'.cell? p = some u ∧ w'.cell? q = some v ∧ w'.cell? r = some x ∧ w'.cell? p' = some u' ∧ w'.cell? q' = some v' ∧ w'.cell? r' = some x' := by
  have n : ∀ {p : Addr} {v : Value}, w.cell? p = some v → w'.cell? p = some v := fun h => (hb.cell (World.block_lt_of_cell? w _ h)).trans h
  exact ⟨n h.1, n h.2.1, n h.2.2.1, n h.2.2.2.1, n h.2.2.2.2.1, n h.2.2.2.2.2⟩

set_option maxHeartbeats 1000000 in
/-- eqHoldingS of two readings of the same holdings -/
theorem leqH (a b : Option Addr) (ca cb : Nat) (hs : List Hd) (w : World) (ha : IsHs w a hs) (hb : IsHs w b hs) (hn : hs.length ≤ 1048576) :
    Calls Try.prog 15 #[.slice a hs.length ca, .slice b hs.length cb] w fun e w' => e = .returned (.bool true) ∧ Below w.heap.size w w' := by
  rcases ha with rfl | ⟨g, o, rfl, hc⟩
  · go_enter Try.func15, Try.ntmps15
    go_wp2
    go_rounds 1
    go_ret
    exact ⟨rfl, by go_grown⟩
  · rcases hb with rfl | ⟨g2, o2, rfl, hc2⟩
    · go_enter Try.func15, Try.ntmps15
      go_wp2
      go_rounds 1
      go_ret
      exact ⟨rfl, by go_grown⟩
    · have HC := Lib.hid hc
      have HD := Lib.hid hc2
      clear hc hc2
      go_enter Try.func15, Try.ntmps15
      go_wp2
      go_loopw [5] (fun i wr => ∃ k : Nat, k ≤ hs.length ∧ i = .int .i64 k ∧ Below w.heap.size w wr) (fun i _ => hs.length - (intOf i).toNat)
      case atStart => exact ⟨0, Nat.zero_le _, rfl, by go_grown⟩
      case round =>
        obtain ⟨k, hk, rfl, hB⟩ := hrel
        by_cases hlt : k < hs.length
        · obtain ⟨c0, c1, c2⟩ := cells_at HC.out hB hlt
          obtain ⟨d0, d1, d2⟩ := cells_at HD.out hB hlt
          generalize hs.getD k hd0 = hh at c0 c1 c2 d0 d1 d2
          obtain ⟨x, n, d⟩ := hh
          dsimp only at c0 c1 c2 d0 d1 d2
          have HB := Lib.hid hB
          clear hB
          have i0 : (0 : Int) ≤ (k : Int) := by omega
          have i1 : (k : Int) < (hs.length : Int) := by omega
          go_wp2_with fail
          go_region_held3 (fun w' => w'.cell? ⟨g, o + k * 3, none⟩ = some (.int .i64 x) ∧ w'.cell? ⟨g, o + k * 3 + 1, none⟩ = some (.int .i64 n) ∧ w'.cell? ⟨g, o + k * 3 + 2, none⟩ = some (.int .i64 d) ∧ w'.cell? ⟨g2, o2 + k * 3, none⟩ = some (.int .i64 x) ∧ w'.cell? ⟨g2, o2 + k * 3 + 1, none⟩ = some (.int .i64 n) ∧ w'.cell? ⟨g2, o2 + k * 3 + 2, none⟩ = some (.int .i64 d)) (first | (exact keep6 (by assumption) (by assumption)) | (refine ⟨?_, ?_, ?_, ?_, ?_, ?_⟩ <;> (go_keep; done))) (first | (go_at_call 45; refine (leqHolding x n d _).mono ?_; rintro e w3 ⟨rfl, hb⟩))
          go_wp2_with fail
          go_roundw
          case rel => exact ⟨k + 1, by omega, by go_num, bel_tr HB.out.drew hb⟩
          case measure => simp [intOf]; omega
        · go_wp2
          go_ret
          exact ⟨rfl, hB⟩

/-- what markHoldingS leaves -/
def MarkedF (w : World) (g n : Nat) (e : Ending) (w' : World) : Prop := e = .returned (.int .i64 (1 + ((n * 3 : Nat) : Int))) ∧ Flat w' g 64 (marksF (n * 3)) ∧ w.grownBy w' (some g)
set_option maxHeartbeats 1000000 in
theorem lmarkH (g cap n : Nat) (zs : List Int) (w : World) (h : Flat w g 64 zs) (hl : zs.length = n * 3) (hn : n ≤ 1048576) :
    Calls Try.prog 17 #[.slice (some ⟨g, 0, none⟩) n cap, .int .i64 1] w (MarkedF w g n) := by
  have H := Lib.hid h
  have HL := Lib.hid hl
  clear h hl
  go_enter Try.func17, Try.ntmps17
  go_wp2
  go_loopw [1, 5] (fun q i wr => ∃ k : Nat, k ≤ n ∧ i = .int .i64 k ∧ q = .int .i64 (1 + ((k * 3 : Nat) : Int)) ∧ Flat wr g 64 (markTo zs (k * 3)) ∧ w.grownBy wr (some g)) (fun _ i _ => n - (intOf i).toNat)
  case atStart => exact ⟨0, Nat.zero_le _, rfl, rfl, by rw [Nat.zero_mul, markTo_zero]; exact H.out, g_of (Below.refl _ _) _⟩
  case round =>
    obtain ⟨k, hk, rfl, rfl, hF, hG⟩ := hrel
    by_cases hlt : k < n
    · have hzl := HL.out
      have l0 := markTo_len (zs := zs) (j := k * 3) (by omega)
      have c0 := hF.cell (j := k * 3) (by omega)
      have c1 := hF.cell (j := k * 3 + 1) (by omega)
      have c2 := hF.cell (j := k * 3 + 2) (by omega)
      have f0 := hF.frozen (k * 3)
      have f1 := hF.frozen (k * 3 + 1)
      have f2 := hF.frozen (k * 3 + 2)
      have n1 := (hF.set_ (i := k * 3) (by omega) (1 + ((k * 3 : Nat) : Int)))
      rw [markTo_succ (by omega)] at n1
      have l1 := markTo_len (zs := zs) (j := k * 3 + 1) (by omega)
      have n2 := (n1.set_ (i := k * 3 + 1) (by omega) (1 + ((k * 3 + 1 : Nat) : Int)))
      rw [markTo_succ (by omega)] at n2
      have l2 := markTo_len (zs := zs) (j := k * 3 + 1 + 1) (by omega)
      have n3 := (n2.set_ (i := k * 3 + 2) (by omega) (1 + ((k * 3 + 2 : Nat) : Int)))
      rw [markTo_succ (by omega), show k * 3 + 1 + 1 + 1 = (k + 1) * 3 from by omega] at n3
      have e1 : (1 + ((k * 3 + 1 : Nat) : Int)) = 1 + ((k * 3 : Nat) : Int) + 1 := by omega
      have e2 : (1 + ((k * 3 + 2 : Nat) : Int)) = 1 + ((k * 3 : Nat) : Int) + 1 + 1 := by omega
      have e3 : (1 + (((k + 1) * 3 : Nat) : Int)) = 1 + ((k * 3 : Nat) : Int) + 1 + 1 + 1 := by omega
      rw [e1, e2] at n3
      have hq : ((k * 3 : Nat) : Int) ≤ 3145728 := by omega
      have hq0 : 0 ≤ ((k * 3 : Nat) : Int) := by omega
      generalize ((k * 3 : Nat) : Int) = q at n3 e3 hq hq0
      generalize (markTo zs (k * 3)).getD (k * 3) 0 = z0 at c0
      generalize (markTo zs (k * 3)).getD (k * 3 + 1) 0 = z1 at c1
      generalize (markTo zs (k * 3)).getD (k * 3 + 2) 0 = z2 at c2
      have HN := Lib.hid n3
      have HG := Lib.hid hG
      have H3 := Lib.hid e3
      clear n1 n2 n3 e1 e2 e3 l0 l1 l2 hF hG hzl
      go_wp2_with fail
      go_roundw
      case rel => exact ⟨k + 1, by omega, by go_num, by rw [H3.out], HN.out, g_set2 (g_set2 (g_set2 HG.out))⟩
      case measure => simp [intOf]; omega
    · obtain rfl : n = k := by omega
      have HF := Lib.hid hF
      have HG := Lib.hid hG
      clear hF hG
      go_wp2_with fail
      go_ret
      refine ⟨rfl, ?_, HG.out⟩
      have := HF.out
      rw [← HL.out, markTo_end, HL.out] at this
      exact this
theorem lmarkH_nil (w : World) : Calls Try.prog 17 #[.slice none 0 0, .int .i64 1] w fun e w' => e = .returned (.int .i64 1) ∧ w = w' := by
  go_enter Try.func17, Try.ntmps17
  go_wp2
  go_rounds 1
  go_ret
  exact ⟨rfl, rfl⟩
theorem lheldH_nil (w : World) : Calls Try.prog 19 #[.slice none 0 0, .int .i64 1] w fun e w' => e = .returned (.int .i64 1) ∧ w = w' := by
  go_enter Try.func19, Try.ntmps19
  go_wp2
  go_rounds 1
  go_ret
  exact ⟨rfl, rfl⟩
set_option maxHeartbeats 1000000 in
theorem lheldH (g cap n : Nat) (w : World) (h : Flat w g 64 (marksF (n * 3))) (hn : n ≤ 1048576) :
    Calls Try.prog 19 #[.slice (some ⟨g, 0, none⟩) n cap, .int .i64 1] w fun e w' => e = .returned (.int .i64 (1 + ((n * 3 : Nat) : Int))) ∧ w = w' := by
  have H := Lib.hid h
  clear h
  go_enter Try.func19, Try.ntmps19
  go_wp2
  go_loop [1, 5] (fun q i => ∃ k : Nat, k ≤ n ∧ i = .int .i64 k ∧ q = .int .i64 (1 + ((k * 3 : Nat) : Int))) (fun _ i => n - (intOf i).toNat)
  case atStart => exact ⟨0, Nat.zero_le _, rfl, rfl⟩
  case round =>
    obtain ⟨k, hk, rfl, rfl⟩ := hrel
    by_cases hlt : k < n
    · have c0 := H.out.cell (j := k * 3) (by rw [marksF_len]; omega)
      have c1 := H.out.cell (j := k * 3 + 1) (by rw [marksF_len]; omega)
      have c2 := H.out.cell (j := k * 3 + 2) (by rw [marksF_len]; omega)
      rw [marksF_get _ (by omega)] at c0 c1 c2
      rw [show (1 + ((k * 3 + 1 : Nat) : Int)) = 1 + ((k * 3 : Nat) : Int) + 1 from by omega] at c1
      rw [show (1 + ((k * 3 + 2 : Nat) : Int)) = 1 + ((k * 3 : Nat) : Int) + 1 + 1 from by omega] at c2
      have e3 : (1 + (((k + 1) * 3 : Nat) : Int)) = 1 + ((k * 3 : Nat) : Int) + 1 + 1 + 1 := by omega
      have hq : ((k * 3 : Nat) : Int) ≤ 3145728 := by omega
      have hq0 : 0 ≤ ((k * 3 : Nat) : Int) := by omega
      generalize ((k * 3 : Nat) : Int) = q at c0 c1 c2 e3 hq hq0
      have H3 := Lib.hid e3
      clear e3
      go_wp2_with fail
      go_round
      case rel => exact ⟨k + 1, by omega, by go_num, by rw [H3.out]⟩
      case measure => simp [intOf]; omega
    · obtain rfl : n = k := by omega
      go_wp2_with fail
      go_ret
      exact ⟨rfl, rfl⟩
end Go.Proofs.Ythagafkjlecagab
