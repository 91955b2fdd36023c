/- The laws' own functions on Rules: sizes, copies, comparisons, marks. Condition: at most 1048576 of them. -/
import Derived.Test.YtigapnbpgbfbhabRu
import Derived.Test.YtigapnbpgbfbhabCopy
import Derived.Deep.RegionHeld3
import Derived.Deep.DeepCutAuto
namespace Go.Proofs.Ytigapnbpgbfbhab
open Go.RowKit

theorem lszRu (a : Option Addr) (n cap : Nat) (w : World) (hn : n ≤ 1048576) :
    Calls Try.prog 21 #[.slice a n cap, .int .i64 1048576] w fun e w' => e = .returned (.int .i64 (1048576 - (n : Int))) ∧ w = w' := by
  go_enter Try.func21, Try.ntmps21
  go_wp2
  go_ret
  exact ⟨rfl, rfl⟩
theorem lszRu_no (a : Option Addr) (n cap : Nat) (w : World) (h : 1048576 < n) (hn : n ≤ 9223372036854775807) :
    Calls Try.prog 21 #[.slice a n cap, .int .i64 1048576] w fun e w' => e = .returned (.int .i64 (-1)) ∧ w = w' := by
  go_enter Try.func21, Try.ntmps21
  go_wp2
  go_ret
  exact ⟨rfl, rfl⟩

theorem ltoRu1 (x0 x1 x2 x3 x4 : Int) (w : World) :
    Calls Try.prog 52 #[.agg #[.int .i64 x0, .int .i64 x1, .int .i64 x2, .int .i64 x3, .int .i64 x4]] w fun e w' => e = .returned (.agg #[.int .i64 x0, .int .i64 x1, .int .i64 x2, .int .i64 x3, .int .i64 x4]) ∧ Below w.heap.size w w' := by
  go_enter Try.func52, Try.ntmps52
  go_wp2
  refine bodyPost_ret (v := .agg #[.int .i64 x0, .int .i64 x1, .int .i64 x2, .int .i64 x3, .int .i64 x4]) (by simp [results, Try.results52, go_sem]) rfl ⟨rfl, by go_grown⟩

theorem leqRu1 (x0 x1 x2 x3 x4 : Int) (w : World) :
    Calls Try.prog 55 #[.agg #[.int .i64 x0, .int .i64 x1, .int .i64 x2, .int .i64 x3, .int .i64 x4], .agg #[.int .i64 x0, .int .i64 x1, .int .i64 x2, .int .i64 x3, .int .i64 x4]] w fun e w' => e = .returned (.bool true) ∧ Below w.heap.size w w' := by
  go_enter Try.func55, Try.ntmps55
  go_wp2
  go_ret
  exact ⟨rfl, by go_grown⟩

/-- what the copy leaves -/
def CopiedRu (w : World) (xs : List Ru) (e : Ending) (w' : World) : Prop := ∃ g : Nat, e = .returned (.slice (some ⟨g, 0, none⟩) xs.length xs.length) ∧ w.heap.size ≤ g ∧ Flat w' g 46 (flatRu xs) ∧ Below w.heap.size w w'
theorem madeRu (w : World) (n : Nat) (t : TypeId) : (w.alloc (.cells (madeCells #[.int .i64 0, .int .i64 0, .int .i64 0, .int .i64 0, .int .i64 0] n) t)).rowIs w.heap.size t n (fun _ => .int .i64 0) := by
  have hs : (madeCells #[Value.int .i64 0, .int .i64 0, .int .i64 0, .int .i64 0, .int .i64 0] n).size = n := by unfold madeCells; simp
  refine ⟨_, heap_alloc_new w _, hs, fun i hi => ?_⟩
  have hm : i % 5 = 0 ∨ i % 5 = 1 ∨ i % 5 = 2 ∨ i % 5 = 3 ∨ i % 5 = 4 := by omega
  unfold madeCells
  rw [Array.getElem?_map, Array.getElem?_range, if_pos hi]
  show some ((#[Value.int .i64 0, .int .i64 0, .int .i64 0, .int .i64 0, .int .i64 0] : Array Value)[i % 5]!) = _
  rcases hm with h | h | h | h | h <;> rw [h] <;> rfl
theorem run_makeRu (n : Nat) (hn : n ≤ 1048576) (w : World) : (Instr.makeSlice 34 (.int .i64 (n : Int)) (.int .i64 (n : Int))).run Try.prog w = .ok (.slice (some ⟨w.heap.size, 0, none⟩) n n) (w.alloc (.cells (madeCells #[.int .i64 0, .int .i64 0, .int .i64 0, .int .i64 0, .int .i64 0] (n * 5)) 46)) := by
  obtain ⟨i0, hi0, hz0, hz1, hz2⟩ := info_parts infoRu
  have := run_make (P := Try.prog) w 34 46 i0 _ Try.underlying34 hi0 hz0 .i64 .i64 (n : Int) (n : Int) (by omega) (by omega) (by rw [hz2]; omega) (by omega)
  simp only [Int.toNat_natCast, hz1] at this
  exact this

set_option maxHeartbeats 2000000 in
theorem ltoRu (a : Option Addr) (cap : Nat) (xs : List Ru) (w : World) (h : IsRu w a xs) (hn : xs.length ≤ 1048576) :
    Calls Try.prog 23 #[.slice a xs.length cap] w (CopiedRu w xs) := by
  rcases h with rfl | ⟨g, o, rfl, hc⟩
  · have hmk : ∀ W : World, (Instr.makeSlice 34 (.int .i64 0) (.int .i64 0)).run Try.prog W = .ok (.slice (some ⟨W.heap.size, 0, none⟩) 0 0) (W.alloc (.cells (madeCells #[.int .i64 0, .int .i64 0, .int .i64 0, .int .i64 0, .int .i64 0] 0) 46)) := fun W => run_makeRu 0 (by omega) W
    go_enter Try.func23, Try.ntmps23
    go_wp2
    go_rounds 1
    go_ret
    exact ⟨_, rfl, Nat.le_refl _, Flat.row (madeRu w 0 _) (by simp [flatRu]) (fun j hj => by simp [flatRu] at hj), by go_grown⟩
  · have hmk := run_makeRu xs.length hn
    have HC := Lib.hid hc
    clear hc
    go_enter Try.func23, Try.ntmps23
    go_wp2
    clear hmk
    go_loopw [4] (fun i wr => ∃ k : Nat, k ≤ xs.length ∧ i = .int .i64 k ∧ wr.rowIs w.heap.size 46 (xs.length * 5) (fun j => if j < k * 5 then .int .i64 ((flatRu xs).getD j 0) else .int .i64 0) ∧ Below w.heap.size w wr) (fun i _ => xs.length - (intOf i).toNat)
    case atStart => exact ⟨0, Nat.zero_le _, rfl, (madeRu w (xs.length * 5) _).congr (fun i hi => by simp), by go_grown⟩
    case round =>
      obtain ⟨k, hk, rfl, hrow, hB⟩ := hrel
      by_cases hlt : k < xs.length
      · obtain ⟨c0, c1, c2, c3, c4⟩ := ru_at HC.out hB hlt
        obtain ⟨g0, g1, g2, g3, g4⟩ := flatRu_get xs k hlt
        have hd : ∀ j, k * 5 ≤ j → j < xs.length * 5 → wr.cell? ⟨w.heap.size, j, none⟩ = some (.int .i64 0) := fun j h0 h1 => by rw [hrow.cell h1, if_neg (by omega)]
        have d0 := hd (k * 5) (by omega) (by omega)
        have d1 := hd (k * 5 + 1) (by omega) (by omega)
        have d2 := hd (k * 5 + 2) (by omega) (by omega)
        have d3 := hd (k * 5 + 3) (by omega) (by omega)
        have d4 := hd (k * 5 + 4) (by omega) (by omega)
        have hcon : ∀ x0 x1 x2 x3 x4 : Int, (flatRu xs).getD (k * 5) 0 = x0 → (flatRu xs).getD (k * 5 + 1) 0 = x1 → (flatRu xs).getD (k * 5 + 2) 0 = x2 → (flatRu xs).getD (k * 5 + 3) 0 = x3 → (flatRu xs).getD (k * 5 + 4) 0 = x4 → ∀ W : World, W.heap[w.heap.size]? = wr.heap[w.heap.size]? →
            (((((W.setCell ⟨w.heap.size, k * 5, none⟩ (.int .i64 x0)).setCell ⟨w.heap.size, k * 5 + 1, none⟩ (.int .i64 x1)).setCell ⟨w.heap.size, k * 5 + 2, none⟩ (.int .i64 x2)).setCell ⟨w.heap.size, k * 5 + 3, none⟩ (.int .i64 x3)).setCell ⟨w.heap.size, k * 5 + 4, none⟩ (.int .i64 x4)).rowIs w.heap.size 46 (xs.length * 5) (fun j => if j < (k + 1) * 5 then .int .i64 ((flatRu xs).getD j 0) else .int .i64 0) := fun x0 x1 x2 x3 x4 e0 e1 e2 e3 e4 W hW => by
          have hrow' := World.rowIs.of_block hrow hW
          refine (((((hrow'.set (k * 5) (.int .i64 x0)).set (k * 5 + 1) (.int .i64 x1)).set (k * 5 + 2) (.int .i64 x2)).set (k * 5 + 3) (.int .i64 x3)).set (k * 5 + 4) (.int .i64 x4)).congr (fun j hj => ?_)
          show (if j = k * 5 + 4 then Value.int .i64 x4 else if j = k * 5 + 3 then .int .i64 x3 else if j = k * 5 + 2 then .int .i64 x2 else if j = k * 5 + 1 then .int .i64 x1 else if j = k * 5 then .int .i64 x0 else if j < k * 5 then .int .i64 ((flatRu xs).getD j 0) else .int .i64 0) = _
          by_cases a4 : j = k * 5 + 4
          · rw [if_pos a4, if_pos (by omega), a4, e4]
          rw [if_neg a4]
          by_cases a3 : j = k * 5 + 3
          · rw [if_pos a3, if_pos (by omega), a3, e3]
          rw [if_neg a3]
          by_cases a2 : j = k * 5 + 2
          · rw [if_pos a2, if_pos (by omega), a2, e2]
          rw [if_neg a2]
          by_cases a1 : j = k * 5 + 1
          · rw [if_pos a1, if_pos (by omega), a1, e1]
          rw [if_neg a1]
          by_cases a0 : j = k * 5
          · rw [if_pos a0, if_pos (by omega), a0, e0]
          rw [if_neg a0]
          by_cases al : j < k * 5
          · rw [if_pos al, if_pos (by omega)]
          · rw [if_neg al, if_neg (by omega)]
        have hcon2 := hcon _ _ _ _ _ g0 g1 g2 g3 g4
        have hfr := hrow.frozen
        have hlw := World.rowIs.lt hrow
        clear hcon hd g0 g1 g2 g3 g4
        generalize xs.getD k ru0 = hh at c0 c1 c2 c3 c4 hcon2
        obtain ⟨x0, x1, x2, x3, x4⟩ := hh
        dsimp only at c0 c1 c2 c3 c4 hcon2
        have HR := Lib.hid hcon2
        have HB := Lib.hid hB
        have HF := Lib.hid hfr
        clear hcon2 hrow hB hfr
        go_wp2_with fail
        refine (ltoRu1 x0 x1 x2 x3 x4 _).mono ?_
        rintro e w1 ⟨rfl, hb⟩
        have hB1 := bel_tr HB.out hb
        have hblk := hb.block w.heap.size hlw
        have e0 := (hb.cell (p := ⟨w.heap.size, k * 5, none⟩) hlw).trans d0
        have e1 := (hb.cell (p := ⟨w.heap.size, k * 5 + 1, none⟩) hlw).trans d1
        have e2 := (hb.cell (p := ⟨w.heap.size, k * 5 + 2, none⟩) hlw).trans d2
        have e3 := (hb.cell (p := ⟨w.heap.size, k * 5 + 3, none⟩) hlw).trans d3
        have e4 := (hb.cell (p := ⟨w.heap.size, k * 5 + 4, none⟩) hlw).trans d4
        have f0 := (hb.frozen (p := ⟨w.heap.size, k * 5, none⟩) hlw).trans (HF.out _)
        have f1 := (hb.frozen (p := ⟨w.heap.size, k * 5 + 1, none⟩) hlw).trans (HF.out _)
        have f2 := (hb.frozen (p := ⟨w.heap.size, k * 5 + 2, none⟩) hlw).trans (HF.out _)
        have f3 := (hb.frozen (p := ⟨w.heap.size, k * 5 + 3, none⟩) hlw).trans (HF.out _)
        have f4 := (hb.frozen (p := ⟨w.heap.size, k * 5 + 4, none⟩) hlw).trans (HF.out _)
        clear hb d0 d1 d2 d3 d4 c0 c1 c2 c3 c4
        go_wp2_with fail
        go_roundw
        case rel => exact ⟨k + 1, by omega, by go_num, HR.out w1 hblk, (((((hB1.setCell (Nat.le_refl _) _).setCell (Nat.le_refl _) _).setCell (Nat.le_refl _) _).setCell (Nat.le_refl _) _).setCell (Nat.le_refl _) _)⟩
        case measure => simp [intOf]; omega
      · have HR := Lib.hid hrow
        have HB := Lib.hid hB
        clear hrow hB
        go_wp2
        go_ret
        have hl := flatRu_len xs
        exact ⟨_, rfl, Nat.le_refl _, Flat.row HR.out (by omega) (fun j hj => by rw [if_pos (by omega)]), HB.out⟩

theorem keepRu {w w' : World} {p0 p1 p2 p3 p4 p5 p6 p7 p8 p9 : Addr} {u0 u1 u2 u3 u4 u5 u6 u7 u8 u9 : Value} (hb : Below w.heap.size w w') (h : w.cell? p0 = some u0 ∧ w.cell? p1 = some u1 ∧ w.cell? p2 = some u2 ∧ w.cell? p3 = some u3 ∧ w.cell? p4 = some u4 ∧ w.cell? p5 = some u5 ∧ w.cell? p6 = some u6 ∧ w.cell? p7 = some u7 ∧ w.cell? p8 = some u8 ∧ w.cell? p9 = some u9) : w'.cell? p0 = some u0 ∧ w'.cell? p1 = some u1 ∧ w'.cell? p2 = some u2 ∧ w'.cell? p3 = some u3 ∧ w'.cell? p4 = some u4 ∧ w'.cell? p5 = some u5 ∧ w'.cell? p6 = some u6 ∧ w'.cell? p7 = some u7 ∧ w'.cell? p8 = some u8 ∧ w'.cell? p9 = some u9 := by
  have n : ∀ {p : Addr} {v : Value}, w.cell? p = some v → w'.cell? p = some v := fun h => (hb.cell (World.block_lt_of_cell? w _ h)).trans h
  obtain ⟨h0, h1, h2, h3, h4, h5, h6, h7, h8, h9⟩ := h
  exact ⟨n h0, n h1, n h2, n h3, n h4, n h5, n h6, n h7, n h8, n h9⟩

set_option maxHeartbeats 2000000 in
/-- the comparison of two readings of the same -/
theorem leqRu (a b : Option Addr) (ca cb : Nat) (xs : List Ru) (w : World) (ha : IsRu w a xs) (hb : IsRu w b xs) (hn : xs.length ≤ 1048576) :
    Calls Try.prog 25 #[.slice a xs.length ca, .slice b xs.length cb] w fun e w' => e = .returned (.bool true) ∧ Below w.heap.size w w' := by
  rcases ha with rfl | ⟨g, o, rfl, hc⟩
  · go_enter Try.func25, Try.ntmps25
    go_wp2
    go_rounds 1
    go_ret
    exact ⟨rfl, by go_grown⟩
  · rcases hb with rfl | ⟨g2, o2, rfl, hc2⟩
    · go_enter Try.func25, Try.ntmps25
      go_wp2
      go_rounds 1
      go_ret
      exact ⟨rfl, by go_grown⟩
    · have HC := Lib.hid hc
      have HD := Lib.hid hc2
      clear hc hc2
      go_enter Try.func25, Try.ntmps25
      go_wp2
      go_loopw [5] (fun i wr => ∃ k : Nat, k ≤ xs.length ∧ i = .int .i64 k ∧ Below w.heap.size w wr) (fun i _ => xs.length - (intOf i).toNat)
      case atStart => exact ⟨0, Nat.zero_le _, rfl, by go_grown⟩
      case round =>
        obtain ⟨k, hk, rfl, hB⟩ := hrel
        by_cases hlt : k < xs.length
        · obtain ⟨c0, c1, c2, c3, c4⟩ := ru_at HC.out hB hlt
          obtain ⟨d0, d1, d2, d3, d4⟩ := ru_at HD.out hB hlt
          generalize xs.getD k ru0 = hh at c0 c1 c2 c3 c4 d0 d1 d2 d3 d4
          obtain ⟨x0, x1, x2, x3, x4⟩ := hh
          dsimp only at c0 c1 c2 c3 c4 d0 d1 d2 d3 d4
          have HB := Lib.hid hB
          clear hB
          have i0 : (0 : Int) ≤ (k : Int) := by omega
          have i1 : (k : Int) < (xs.length : Int) := by omega
          go_wp2_with fail
          go_region_held3 (fun w' => w'.cell? ⟨g, o + k * 5, none⟩ = some (.int .i64 x0) ∧ w'.cell? ⟨g, o + k * 5 + 1, none⟩ = some (.int .i64 x1) ∧ w'.cell? ⟨g, o + k * 5 + 2, none⟩ = some (.int .i64 x2) ∧ w'.cell? ⟨g, o + k * 5 + 3, none⟩ = some (.int .i64 x3) ∧ w'.cell? ⟨g, o + k * 5 + 4, none⟩ = some (.int .i64 x4) ∧ w'.cell? ⟨g2, o2 + k * 5, none⟩ = some (.int .i64 x0) ∧ w'.cell? ⟨g2, o2 + k * 5 + 1, none⟩ = some (.int .i64 x1) ∧ w'.cell? ⟨g2, o2 + k * 5 + 2, none⟩ = some (.int .i64 x2) ∧ w'.cell? ⟨g2, o2 + k * 5 + 3, none⟩ = some (.int .i64 x3) ∧ w'.cell? ⟨g2, o2 + k * 5 + 4, none⟩ = some (.int .i64 x4)) (first | (exact keepRu (by assumption) (by assumption)) | (refine ⟨?_, ?_, ?_, ?_, ?_, ?_, ?_, ?_, ?_, ?_⟩ <;> (go_keep; done))) (first | (go_at_call 55; refine (leqRu1 x0 x1 x2 x3 x4 _).mono ?_; rintro e w3 ⟨rfl, hb⟩))
          go_wp2_with fail
          go_roundw
          case rel => exact ⟨k + 1, by omega, by go_num, bel_tr HB.out.drew hb⟩
          case measure => simp [intOf]; omega
        · go_wp2
          go_ret
          exact ⟨rfl, hB⟩

/-- what the marking leaves -/
def MarkedRu (w : World) (g n : Nat) (e : Ending) (w' : World) : Prop := e = .returned (.int .i64 (1 + ((n * 5 : Nat) : Int))) ∧ Flat w' g 46 (marksF (n * 5)) ∧ w.grownBy w' (some g)
set_option maxHeartbeats 2000000 in
theorem lmarkRu (g cap n : Nat) (zs : List Int) (w : World) (h : Flat w g 46 zs) (hl : zs.length = n * 5) (hn : n ≤ 1048576) :
    Calls Try.prog 33 #[.slice (some ⟨g, 0, none⟩) n cap, .int .i64 1] w (MarkedRu w g n) := by
  have H := Lib.hid h
  have HL := Lib.hid hl
  clear h hl
  go_enter Try.func33, Try.ntmps33
  go_wp2
  go_loopw [1, 5] (fun q i wr => ∃ k : Nat, k ≤ n ∧ i = .int .i64 k ∧ q = .int .i64 (1 + ((k * 5 : Nat) : Int)) ∧ Flat wr g 46 (markTo zs (k * 5)) ∧ w.grownBy wr (some g)) (fun _ i _ => n - (intOf i).toNat)
  case atStart => exact ⟨0, Nat.zero_le _, rfl, rfl, by rw [Nat.zero_mul, markTo_zero]; exact H.out, g_of (Below.refl _ _) _⟩
  case round =>
    obtain ⟨k, hk, rfl, rfl, hF, hG⟩ := hrel
    by_cases hlt : k < n
    · have hzl := HL.out
      have l0 := markTo_len (zs := zs) (j := k * 5) (by omega)
      have c0 := hF.cell (j := k * 5) (by omega)
      have c1 := hF.cell (j := k * 5 + 1) (by omega)
      have c2 := hF.cell (j := k * 5 + 2) (by omega)
      have c3 := hF.cell (j := k * 5 + 3) (by omega)
      have c4 := hF.cell (j := k * 5 + 4) (by omega)
      have f0 := hF.frozen (k * 5)
      have f1 := hF.frozen (k * 5 + 1)
      have f2 := hF.frozen (k * 5 + 2)
      have f3 := hF.frozen (k * 5 + 3)
      have f4 := hF.frozen (k * 5 + 4)
      have n1 := (hF.set_ (i := k * 5) (by omega) (1 + ((k * 5 : Nat) : Int)))
      rw [markTo_succ (by omega)] at n1
      have l1 := markTo_len (zs := zs) (j := k * 5 + 1) (by omega)
      have n2 := (n1.set_ (i := k * 5 + 1) (by omega) (1 + ((k * 5 + 1 : Nat) : Int)))
      rw [markTo_succ (by omega)] at n2
      have l2 := markTo_len (zs := zs) (j := k * 5 + 1 + 1) (by omega)
      have n3 := (n2.set_ (i := k * 5 + 2) (by omega) (1 + ((k * 5 + 2 : Nat) : Int)))
      rw [markTo_succ (by omega)] at n3
      have l3 := markTo_len (zs := zs) (j := k * 5 + 1 + 1 + 1) (by omega)
      have n4 := (n3.set_ (i := k * 5 + 3) (by omega) (1 + ((k * 5 + 3 : Nat) : Int)))
      rw [markTo_succ (by omega)] at n4
      have l4 := markTo_len (zs := zs) (j := k * 5 + 1 + 1 + 1 + 1) (by omega)
      have n5 := (n4.set_ (i := k * 5 + 4) (by omega) (1 + ((k * 5 + 4 : Nat) : Int)))
      rw [markTo_succ (by omega), show k * 5 + 1 + 1 + 1 + 1 + 1 = (k + 1) * 5 from by omega] at n5
      have e1 : (1 + ((k * 5 + 1 : Nat) : Int)) = 1 + ((k * 5 : Nat) : Int) + 1 := by omega
      have e2 : (1 + ((k * 5 + 2 : Nat) : Int)) = 1 + ((k * 5 : Nat) : Int) + 1 + 1 := by omega
      have e3 : (1 + ((k * 5 + 3 : Nat) : Int)) = 1 + ((k * 5 : Nat) : Int) + 1 + 1 + 1 := by omega
      have e4 : (1 + ((k * 5 + 4 : Nat) : Int)) = 1 + ((k * 5 : Nat) : Int) + 1 + 1 + 1 + 1 := by omega
      have e5 : (1 + (((k + 1) * 5 : Nat) : Int)) = 1 + ((k * 5 : Nat) : Int) + 1 + 1 + 1 + 1 + 1 := by omega
      rw [e1, e2, e3, e4] at n5
      have hq : ((k * 5 : Nat) : Int) ≤ 5242880 := by omega
      have hq0 : 0 ≤ ((k * 5 : Nat) : Int) := by omega
      generalize ((k * 5 : Nat) : Int) = q at n5 e5 hq hq0
      generalize (markTo zs (k * 5)).getD (k * 5) 0 = z0 at c0
      generalize (markTo zs (k * 5)).getD (k * 5 + 1) 0 = z1 at c1
      generalize (markTo zs (k * 5)).getD (k * 5 + 2) 0 = z2 at c2
      generalize (markTo zs (k * 5)).getD (k * 5 + 3) 0 = z3 at c3
      generalize (markTo zs (k * 5)).getD (k * 5 + 4) 0 = z4 at c4
      have HN := Lib.hid n5
      have HG := Lib.hid hG
      have H3 := Lib.hid e5
      clear n1 n2 n3 n4 n5 e1 e2 e3 e4 e5 l0 l1 l2 l3 l4 hF hG hzl
      go_wp2_with fail
      go_roundw
      case rel => exact ⟨k + 1, by omega, by go_num, by rw [H3.out], HN.out, (g_set2 (g_set2 (g_set2 (g_set2 (g_set2 HG.out)))))⟩
      case measure => simp [intOf]; omega
    · obtain rfl : n = k := by omega
      have HF := Lib.hid hF
      have HG := Lib.hid hG
      clear hF hG
      go_wp2_with fail
      go_ret
      refine ⟨rfl, ?_, HG.out⟩
      have := HF.out
      rw [← HL.out, markTo_end, HL.out] at this
      exact this
theorem lmarkRu_nil (w : World) : Calls Try.prog 33 #[.slice none 0 0, .int .i64 1] w fun e w' => e = .returned (.int .i64 1) ∧ w = w' := by
  go_enter Try.func33, Try.ntmps33
  go_wp2
  go_rounds 1
  go_ret
  exact ⟨rfl, rfl⟩
end Go.Proofs.Ytigapnbpgbfbhab
