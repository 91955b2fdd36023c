/- The laws' own functions on Plots: sizes, copies, comparisons, marks. Condition: at most 1048576 of them. -/
import Derived.Test.YtigapnbpgbfbhacPl
import Derived.Test.YtigapnbpgbfbhacCopy
import Derived.Deep.RegionHeld3
import Derived.Deep.DeepCutAuto
namespace Go.Proofs.Ytigapnbpgbfbhac
open Go.RowKit

theorem lszPl (a : Option Addr) (n cap : Nat) (w : World) (hn : n ≤ 1048576) :
    Calls Try.prog 12 #[.slice a n cap, .int .i64 1048576] w fun e w' => e = .returned (.int .i64 (1048576 - (n : Int))) ∧ w = w' := by
  go_enter Try.func12, Try.ntmps12
  go_wp2
  go_ret
  exact ⟨rfl, rfl⟩
theorem lszPl_no (a : Option Addr) (n cap : Nat) (w : World) (h : 1048576 < n) (hn : n ≤ 9223372036854775807) :
    Calls Try.prog 12 #[.slice a n cap, .int .i64 1048576] w fun e w' => e = .returned (.int .i64 (-1)) ∧ w = w' := by
  go_enter Try.func12, Try.ntmps12
  go_wp2
  go_ret
  exact ⟨rfl, rfl⟩

theorem ltoPl1 (x0 x1 : Int) (w : World) :
    Calls Try.prog 41 #[.agg #[.int .i64 x0, .int .i64 x1]] w fun e w' => e = .returned (.agg #[.int .i64 x0, .int .i64 x1]) ∧ Below w.heap.size w w' := by
  go_enter Try.func41, Try.ntmps41
  go_wp2
  refine bodyPost_ret (v := .agg #[.int .i64 x0, .int .i64 x1]) (by simp [results, Try.results41, go_sem]) rfl ⟨rfl, by go_grown⟩

theorem leqPl1 (x0 x1 : Int) (w : World) :
    Calls Try.prog 43 #[.agg #[.int .i64 x0, .int .i64 x1], .agg #[.int .i64 x0, .int .i64 x1]] w fun e w' => e = .returned (.bool true) ∧ Below w.heap.size w w' := by
  go_enter Try.func43, Try.ntmps43
  go_wp2
  go_ret
  exact ⟨rfl, by go_grown⟩

/-- what the copy leaves -/
def CopiedPl (w : World) (xs : List Pl) (e : Ending) (w' : World) : Prop := ∃ g : Nat, e = .returned (.slice (some ⟨g, 0, none⟩) xs.length xs.length) ∧ w.heap.size ≤ g ∧ Flat w' g 45 (flatPl xs) ∧ Below w.heap.size w w'
theorem madePl (w : World) (n : Nat) (t : TypeId) : (w.alloc (.cells (madeCells #[.int .i64 0, .int .i64 0] n) t)).rowIs w.heap.size t n (fun _ => .int .i64 0) := by
  have hs : (madeCells #[Value.int .i64 0, .int .i64 0] n).size = n := by unfold madeCells; simp
  refine ⟨_, heap_alloc_new w _, hs, fun i hi => ?_⟩
  have hm : i % 2 = 0 ∨ i % 2 = 1 := by omega
  unfold madeCells
  rw [Array.getElem?_map, Array.getElem?_range, if_pos hi]
  show some ((#[Value.int .i64 0, .int .i64 0] : Array Value)[i % 2]!) = _
  rcases hm with h | h <;> rw [h] <;> rfl
theorem run_makePl (n : Nat) (hn : n ≤ 1048576) (w : World) : (Instr.makeSlice 25 (.int .i64 (n : Int)) (.int .i64 (n : Int))).run Try.prog w = .ok (.slice (some ⟨w.heap.size, 0, none⟩) n n) (w.alloc (.cells (madeCells #[.int .i64 0, .int .i64 0] (n * 2)) 45)) := by
  obtain ⟨i0, hi0, hz0, hz1, hz2⟩ := info_parts infoPl
  have := run_make (P := Try.prog) w 25 45 i0 _ Try.underlying25 hi0 hz0 .i64 .i64 (n : Int) (n : Int) (by omega) (by omega) (by rw [hz2]; omega) (by omega)
  simp only [Int.toNat_natCast, hz1] at this
  exact this

set_option maxHeartbeats 2000000 in
theorem ltoPl (a : Option Addr) (cap : Nat) (xs : List Pl) (w : World) (h : IsPl w a xs) (hn : xs.length ≤ 1048576) :
    Calls Try.prog 14 #[.slice a xs.length cap] w (CopiedPl w xs) := by
  rcases h with rfl | ⟨g, o, rfl, hc⟩
  · have hmk : ∀ W : World, (Instr.makeSlice 25 (.int .i64 0) (.int .i64 0)).run Try.prog W = .ok (.slice (some ⟨W.heap.size, 0, none⟩) 0 0) (W.alloc (.cells (madeCells #[.int .i64 0, .int .i64 0] 0) 45)) := fun W => run_makePl 0 (by omega) W
    go_enter Try.func14, Try.ntmps14
    go_wp2
    go_rounds 1
    go_ret
    exact ⟨_, rfl, Nat.le_refl _, Flat.row (madePl w 0 _) (by simp [flatPl]) (fun j hj => by simp [flatPl] at hj), by go_grown⟩
  · have hmk := run_makePl xs.length hn
    have HC := Lib.hid hc
    clear hc
    go_enter Try.func14, Try.ntmps14
    go_wp2
    clear hmk
    go_loopw [4] (fun i wr => ∃ k : Nat, k ≤ xs.length ∧ i = .int .i64 k ∧ wr.rowIs w.heap.size 45 (xs.length * 2) (fun j => if j < k * 2 then .int .i64 ((flatPl xs).getD j 0) else .int .i64 0) ∧ Below w.heap.size w wr) (fun i _ => xs.length - (intOf i).toNat)
    case atStart => exact ⟨0, Nat.zero_le _, rfl, (madePl w (xs.length * 2) _).congr (fun i hi => by simp), by go_grown⟩
    case round =>
      obtain ⟨k, hk, rfl, hrow, hB⟩ := hrel
      by_cases hlt : k < xs.length
      · obtain ⟨c0, c1⟩ := pl_at HC.out hB hlt
        obtain ⟨g0, g1⟩ := flatPl_get xs k hlt
        have hd : ∀ j, k * 2 ≤ j → j < xs.length * 2 → wr.cell? ⟨w.heap.size, j, none⟩ = some (.int .i64 0) := fun j h0 h1 => by rw [hrow.cell h1, if_neg (by omega)]
        have d0 := hd (k * 2) (by omega) (by omega)
        have d1 := hd (k * 2 + 1) (by omega) (by omega)
        have hcon : ∀ x0 x1 : Int, (flatPl xs).getD (k * 2) 0 = x0 → (flatPl xs).getD (k * 2 + 1) 0 = x1 → ∀ W : World, W.heap[w.heap.size]? = wr.heap[w.heap.size]? →
            ((W.setCell ⟨w.heap.size, k * 2, none⟩ (.int .i64 x0)).setCell ⟨w.heap.size, k * 2 + 1, none⟩ (.int .i64 x1)).rowIs w.heap.size 45 (xs.length * 2) (fun j => if j < (k + 1) * 2 then .int .i64 ((flatPl xs).getD j 0) else .int .i64 0) := fun x0 x1 e0 e1 W hW => by
          have hrow' := World.rowIs.of_block hrow hW
          refine ((hrow'.set (k * 2) (.int .i64 x0)).set (k * 2 + 1) (.int .i64 x1)).congr (fun j hj => ?_)
          show (if j = k * 2 + 1 then Value.int .i64 x1 else if j = k * 2 then .int .i64 x0 else if j < k * 2 then .int .i64 ((flatPl xs).getD j 0) else .int .i64 0) = _
          by_cases a1 : j = k * 2 + 1
          · rw [if_pos a1, if_pos (by omega), a1, e1]
          rw [if_neg a1]
          by_cases a0 : j = k * 2
          · rw [if_pos a0, if_pos (by omega), a0, e0]
          rw [if_neg a0]
          by_cases al : j < k * 2
          · rw [if_pos al, if_pos (by omega)]
          · rw [if_neg al, if_neg (by omega)]
        have hcon2 := hcon _ _ g0 g1
        have hfr := hrow.frozen
        have hlw := World.rowIs.lt hrow
        clear hcon hd g0 g1
        generalize xs.getD k pl0 = hh at c0 c1 hcon2
        obtain ⟨x0, x1⟩ := hh
        dsimp only at c0 c1 hcon2
        have HR := Lib.hid hcon2
        have HB := Lib.hid hB
        have HF := Lib.hid hfr
        clear hcon2 hrow hB hfr
        go_wp2_with fail
        refine (ltoPl1 x0 x1 _).mono ?_
        rintro e w1 ⟨rfl, hb⟩
        have hB1 := bel_tr HB.out hb
        have hblk := hb.block w.heap.size hlw
        have e0 := (hb.cell (p := ⟨w.heap.size, k * 2, none⟩) hlw).trans d0
        have e1 := (hb.cell (p := ⟨w.heap.size, k * 2 + 1, none⟩) hlw).trans d1
        have f0 := (hb.frozen (p := ⟨w.heap.size, k * 2, none⟩) hlw).trans (HF.out _)
        have f1 := (hb.frozen (p := ⟨w.heap.size, k * 2 + 1, none⟩) hlw).trans (HF.out _)
        clear hb d0 d1 c0 c1
        go_wp2_with fail
        go_roundw
        case rel => exact ⟨k + 1, by omega, by go_num, HR.out w1 hblk, ((hB1.setCell (Nat.le_refl _) _).setCell (Nat.le_refl _) _)⟩
        case measure => simp [intOf]; omega
      · have HR := Lib.hid hrow
        have HB := Lib.hid hB
        clear hrow hB
        go_wp2
        go_ret
        have hl := flatPl_len xs
        exact ⟨_, rfl, Nat.le_refl _, Flat.row HR.out (by omega) (fun j hj => by rw [if_pos (by omega)]), HB.out⟩

theorem keepPl {w w' : World} {p0 p1 p2 p3 : Addr} {u0 u1 u2 u3 : Value} (hb : Below w.heap.size w w') (h : w.cell? p0 = some u0 ∧ w.cell? p1 = some u1 ∧ w.cell? p2 = some u2 ∧ w.cell? p3 = some u3) : w'.cell? p0 = some u0 ∧ w'.cell? p1 = some u1 ∧ w'.cell? p2 = some u2 ∧ w'.cell? p3 = some u3 := by
  have n : ∀ {p : Addr} {v : Value}, w.cell? p = some v → w'.cell? p = some v := fun h => (hb.cell (World.block_lt_of_cell? w _ h)).trans h
  obtain ⟨h0, h1, h2, h3⟩ := h
  exact ⟨n h0, n h1, n h2, n h3⟩

set_option maxHeartbeats 2000000 in
/-- the comparison of two readings of the same -/
theorem leqPl (a b : Option Addr) (ca cb : Nat) (xs : List Pl) (w : World) (ha : IsPl w a xs) (hb : IsPl w b xs) (hn : xs.length ≤ 1048576) :
    Calls Try.prog 16 #[.slice a xs.length ca, .slice b xs.length cb] w fun e w' => e = .returned (.bool true) ∧ Below w.heap.size w w' := by
  rcases ha with rfl | ⟨g, o, rfl, hc⟩
  · go_enter Try.func16, Try.ntmps16
    go_wp2
    go_rounds 1
    go_ret
    exact ⟨rfl, by go_grown⟩
  · rcases hb with rfl | ⟨g2, o2, rfl, hc2⟩
    · go_enter Try.func16, Try.ntmps16
      go_wp2
      go_rounds 1
      go_ret
      exact ⟨rfl, by go_grown⟩
    · have HC := Lib.hid hc
      have HD := Lib.hid hc2
      clear hc hc2
      go_enter Try.func16, Try.ntmps16
      go_wp2
      go_loopw [5] (fun i wr => ∃ k : Nat, k ≤ xs.length ∧ i = .int .i64 k ∧ Below w.heap.size w wr) (fun i _ => xs.length - (intOf i).toNat)
      case atStart => exact ⟨0, Nat.zero_le _, rfl, by go_grown⟩
      case round =>
        obtain ⟨k, hk, rfl, hB⟩ := hrel
        by_cases hlt : k < xs.length
        · obtain ⟨c0, c1⟩ := pl_at HC.out hB hlt
          obtain ⟨d0, d1⟩ := pl_at HD.out hB hlt
          generalize xs.getD k pl0 = hh at c0 c1 d0 d1
          obtain ⟨x0, x1⟩ := hh
          dsimp only at c0 c1 d0 d1
          have HB := Lib.hid hB
          clear hB
          have i0 : (0 : Int) ≤ (k : Int) := by omega
          have i1 : (k : Int) < (xs.length : Int) := by omega
          go_wp2_with fail
          go_region_held3 (fun w' => w'.cell? ⟨g, o + k * 2, none⟩ = some (.int .i64 x0) ∧ w'.cell? ⟨g, o + k * 2 + 1, none⟩ = some (.int .i64 x1) ∧ w'.cell? ⟨g2, o2 + k * 2, none⟩ = some (.int .i64 x0) ∧ w'.cell? ⟨g2, o2 + k * 2 + 1, none⟩ = some (.int .i64 x1)) (first | (exact keepPl (by assumption) (by assumption)) | (refine ⟨?_, ?_, ?_, ?_⟩ <;> (go_keep; done))) (first | (go_at_call 43; refine (leqPl1 x0 x1 _).mono ?_; rintro e w3 ⟨rfl, hb⟩))
          go_wp2_with fail
          go_roundw
          case rel => exact ⟨k + 1, by omega, by go_num, bel_tr HB.out.drew hb⟩
          case measure => simp [intOf]; omega
        · go_wp2
          go_ret
          exact ⟨rfl, hB⟩

/-- what the marking leaves -/
def MarkedPl (w : World) (g n : Nat) (e : Ending) (w' : World) : Prop := e = .returned (.int .i64 (1 + ((n * 2 : Nat) : Int))) ∧ Flat w' g 45 (marksF (n * 2)) ∧ w.grownBy w' (some g)
set_option maxHeartbeats 2000000 in
theorem lmarkPl (g cap n : Nat) (zs : List Int) (w : World) (h : Flat w g 45 zs) (hl : zs.length = n * 2) (hn : n ≤ 1048576) :
    Calls Try.prog 22 #[.slice (some ⟨g, 0, none⟩) n cap, .int .i64 1] w (MarkedPl w g n) := by
  have H := Lib.hid h
  have HL := Lib.hid hl
  clear h hl
  go_enter Try.func22, Try.ntmps22
  go_wp2
  go_loopw [1, 5] (fun q i wr => ∃ k : Nat, k ≤ n ∧ i = .int .i64 k ∧ q = .int .i64 (1 + ((k * 2 : Nat) : Int)) ∧ Flat wr g 45 (markTo zs (k * 2)) ∧ w.grownBy wr (some g)) (fun _ i _ => n - (intOf i).toNat)
  case atStart => exact ⟨0, Nat.zero_le _, rfl, rfl, by rw [Nat.zero_mul, markTo_zero]; exact H.out, g_of (Below.refl _ _) _⟩
  case round =>
    obtain ⟨k, hk, rfl, rfl, hF, hG⟩ := hrel
    by_cases hlt : k < n
    · have hzl := HL.out
      have l0 := markTo_len (zs := zs) (j := k * 2) (by omega)
      have c0 := hF.cell (j := k * 2) (by omega)
      have c1 := hF.cell (j := k * 2 + 1) (by omega)
      have f0 := hF.frozen (k * 2)
      have f1 := hF.frozen (k * 2 + 1)
      have n1 := (hF.set_ (i := k * 2) (by omega) (1 + ((k * 2 : Nat) : Int)))
      rw [markTo_succ (by omega)] at n1
      have l1 := markTo_len (zs := zs) (j := k * 2 + 1) (by omega)
      have n2 := (n1.set_ (i := k * 2 + 1) (by omega) (1 + ((k * 2 + 1 : Nat) : Int)))
      rw [markTo_succ (by omega), show k * 2 + 1 + 1 = (k + 1) * 2 from by omega] at n2
      have e1 : (1 + ((k * 2 + 1 : Nat) : Int)) = 1 + ((k * 2 : Nat) : Int) + 1 := by omega
      have e2 : (1 + (((k + 1) * 2 : Nat) : Int)) = 1 + ((k * 2 : Nat) : Int) + 1 + 1 := by omega
      rw [e1] at n2
      have hq : ((k * 2 : Nat) : Int) ≤ 2097152 := by omega
      have hq0 : 0 ≤ ((k * 2 : Nat) : Int) := by omega
      generalize ((k * 2 : Nat) : Int) = q at n2 e2 hq hq0
      generalize (markTo zs (k * 2)).getD (k * 2) 0 = z0 at c0
      generalize (markTo zs (k * 2)).getD (k * 2 + 1) 0 = z1 at c1
      have HN := Lib.hid n2
      have HG := Lib.hid hG
      have H3 := Lib.hid e2
      clear n1 n2 e1 e2 l0 l1 hF hG hzl
      go_wp2_with fail
      go_roundw
      case rel => exact ⟨k + 1, by omega, by go_num, by rw [H3.out], HN.out, (g_set2 (g_set2 HG.out))⟩
      case measure => simp [intOf]; omega
    · obtain rfl : n = k := by omega
      have HF := Lib.hid hF
      have HG := Lib.hid hG
      clear hF hG
      go_wp2_with fail
      go_ret
      refine ⟨rfl, ?_, HG.out⟩
      have := HF.out
      rw [← HL.out, markTo_end, HL.out] at this
      exact this
theorem lmarkPl_nil (w : World) : Calls Try.prog 22 #[.slice none 0 0, .int .i64 1] w fun e w' => e = .returned (.int .i64 1) ∧ w = w' := by
  go_enter Try.func22, Try.ntmps22
  go_wp2
  go_rounds 1
  go_ret
  exact ⟨rfl, rfl⟩
end Go.Proofs.Ytigapnbpgbfbhac
