/- Rows of integers that the call makes; the laws' copies and comparisons of slices. Condition: at most 1048576 numbers. -/
import Derived.Test.YtdlbjmhjaljlfaaInts
import Derived.Deep.OwnRows
namespace Go.Proofs.Ytdlbjmhjaljlfaa
open Go.RowKit

theorem below_drewN {B : Nat} {a w : World} (h : Below B a w) (n : Nat) : Below B a (w.drewN n) := ⟨h.os, h.tape, h.output, h.size, h.block⟩
theorem infoInt : (Try.prog.info? 3).map (fun i => (i.zero, i.size, i.bytes)) = some (some (.int .i64 0), 1, 8) := by kernel_rfl

/-- block g is the row of the numbers zs -/
def Row (w : World) (g : Nat) (zs : List Int) : Prop := w.rowIs g 3 zs.length (fun i => .int .i64 (zs.getD i 0))
theorem row_ints {w : World} {g : Nat} {zs : List Int} (h : Row w g zs) : IsInts w (some ⟨g, 0, none⟩) zs := .inr ⟨g, 0, rfl, fun i hi => by
  have := World.rowIs.cell h hi
  simpa using this⟩
theorem row_keep {w w' : World} {g : Nat} {zs : List Int} (h : Row w g zs) (hB : Below w.heap.size w w') : Row w' g zs := World.rowIs.of_block h (hB.block g (World.rowIs.lt h))
theorem ints_below {w w' : World} {a : Option Addr} {zs : List Int} (h : IsInts w a zs) (hB : Below w.heap.size w w') : IsInts w' a zs := by
  rcases h with h | ⟨g, o, ha, hc⟩
  · exact .inl h
  · exact .inr ⟨g, o, ha, fun i hi => (hB.cell (p := ⟨g, o + i, none⟩) (World.block_lt_of_cell? w _ (hc i hi))).trans (hc i hi)⟩

/-- what toIntS leaves -/
def Copied (w : World) (zs : List Int) (e : Ending) (w' : World) : Prop := ∃ g : Nat, e = .returned (.slice (some ⟨g, 0, none⟩) zs.length zs.length) ∧ w.heap.size ≤ g ∧ Row w' g zs ∧ Below w.heap.size w w'

set_option maxHeartbeats 1000000 in
theorem ltoIntS (a : Option Addr) (cap : Nat) (zs : List Int) (w : World) (h : IsInts w a zs) (hn : zs.length ≤ 1048576) :
    Calls Try.prog 119 #[.slice a zs.length cap] w (Copied w zs) := by
  rcases h with rfl | ⟨g, o, rfl, hc⟩
  · have hmk : ∀ W : World, (Instr.makeSlice 80 (.int .i64 0) (.int .i64 0)).run Try.prog W = .ok (.slice (some ⟨W.heap.size, 0, none⟩) 0 0) (W.alloc (.cells (madeCells #[.int .i64 0] 0) 3)) := fun W =>
      run_make_row' 80 3 (.int .i64 0) 8 Try.underlying80 infoInt rfl .i64 .i64 0 (by omega) (by omega) W
    go_enter Try.func119, Try.ntmps119
    go_wp2
    go_rounds 1
    go_ret
    exact ⟨_, rfl, Nat.le_refl _, (World.rowIs_made w (.int .i64 0) 0 _).congr (fun i hi => by omega), by go_grown⟩
  · have hmk := run_make_row' (P := Try.prog) 80 3 (.int .i64 0) 8 Try.underlying80 infoInt rfl .i64 .i64 zs.length (by omega) (by omega)
    have HC := Lib.hid hc
    clear hc
    go_enter Try.func119, Try.ntmps119
    go_wp2
    clear hmk
    go_loopw [4] (fun i wr => ∃ k : Nat, k ≤ zs.length ∧ i = .int .i64 k ∧ wr.rowIs w.heap.size 3 zs.length (fun j => if j < k then .int .i64 (zs.getD j 0) else .int .i64 0) ∧ Below w.heap.size w wr) (fun i _ => zs.length - (intOf i).toNat)
    case atStart => exact ⟨0, Nat.zero_le _, rfl, (World.rowIs_made w (.int .i64 0) zs.length _).congr (fun i hi => by simp), by go_grown⟩
    case round =>
      obtain ⟨k, hk, rfl, hrow, hB⟩ := hrel
      by_cases hlt : k < zs.length
      · have hc0 := HC.out k hlt
        have hc := (hB.cell (p := ⟨g, o + k, none⟩) (World.block_lt_of_cell? w _ hc0)).trans hc0
        have hd : wr.cell? ⟨w.heap.size, k, none⟩ = some (.int .i64 0) := by rw [hrow.cell hlt, if_neg (Nat.lt_irrefl k)]
        have hf := hrow.frozen k
        have hcon : ∀ z : Int, zs.getD k 0 = z → (wr.setCell ⟨w.heap.size, k, none⟩ (.int .i64 z)).rowIs w.heap.size 3 zs.length (fun j => if j < k + 1 then .int .i64 (zs.getD j 0) else .int .i64 0) := fun z hz =>
          (hrow.set k (.int .i64 z)).congr (fun j hj => by
            show (if j = k then Value.int .i64 z else if j < k then .int .i64 (zs.getD j 0) else .int .i64 0) = _
            by_cases hjk : j = k
            · subst hjk; rw [if_pos rfl, if_pos (by omega), hz]
            · rw [if_neg hjk]
              by_cases hl : j < k
              · rw [if_pos hl, if_pos (by omega)]
              · rw [if_neg hl, if_neg (by omega)])
        have hcon2 := hcon _ rfl
        clear hcon hc0
        generalize zs.getD k 0 = z at hc hcon2
        have HR := Lib.hid hcon2
        have HB := Lib.hid hB
        clear hcon2 hrow hB
        go_wp2
        go_roundw
        case rel => exact ⟨k + 1, by omega, by go_num, HR.out, HB.out.setCell (Nat.le_refl _) _⟩
        case measure => simp [intOf]; omega
      · have HR := Lib.hid hrow
        have HB := Lib.hid hB
        clear hrow hB
        go_wp2
        go_ret
        exact ⟨_, rfl, Nat.le_refl _, HR.out.congr (fun i hi => by rw [if_pos (by omega)]), HB.out⟩

set_option maxHeartbeats 1000000 in
/-- eqIntS of two readings of the same numbers -/
theorem leqIntS (a b : Option Addr) (ca cb : Nat) (zs : List Int) (w : World) (ha : IsInts w a zs) (hb : IsInts w b zs) (hn : zs.length ≤ 1048576) :
    Calls Try.prog 120 #[.slice a zs.length ca, .slice b zs.length cb] w fun e w' => e = .returned (.bool true) ∧ Below w.heap.size w w' := by
  rcases ha with rfl | ⟨g, o, rfl, hc⟩
  · go_enter Try.func120, Try.ntmps120
    go_wp2
    go_rounds 1
    go_ret
    exact ⟨rfl, by go_grown⟩
  · rcases hb with rfl | ⟨g2, o2, rfl, hc2⟩
    · go_enter Try.func120, Try.ntmps120
      go_wp2
      go_rounds 1
      go_ret
      exact ⟨rfl, by go_grown⟩
    · have HC := Lib.hid hc
      have HD := Lib.hid hc2
      clear hc hc2
      go_enter Try.func120, Try.ntmps120
      go_wp2
      go_loopw [5] (fun i wr => ∃ k : Nat, k ≤ zs.length ∧ i = .int .i64 k ∧ Below w.heap.size w wr) (fun i _ => zs.length - (intOf i).toNat)
      case atStart => exact ⟨0, Nat.zero_le _, rfl, by go_grown⟩
      case round =>
        obtain ⟨k, hk, rfl, hB⟩ := hrel
        by_cases hlt : k < zs.length
        · have hc := (hB.cell (p := ⟨g, o + k, none⟩) (World.block_lt_of_cell? w _ (HC.out k hlt))).trans (HC.out k hlt)
          have hd := (hB.cell (p := ⟨g2, o2 + k, none⟩) (World.block_lt_of_cell? w _ (HD.out k hlt))).trans (HD.out k hlt)
          generalize zs.getD k 0 = z at hc hd
          have i0 : (0 : Int) ≤ (k : Int) := by omega
          have i1 : (k : Int) < (zs.length : Int) := by omega
          go_wp2_with fail
          go_quiet (fail)
          go_wp2
          go_roundw
          case rel => exact ⟨k + 1, by omega, by go_num, below_drewN hB _⟩
          case measure => simp [intOf]; omega
        · go_wp2
          go_ret
          exact ⟨rfl, by go_grown⟩

/-- a slice that came in is read as its numbers -/
theorem row_is {w : World} {a : Option Addr} {len cap : Nat} {z : List Int} (h : IsRow .i64 w a len cap z) : ∃ zs : List Int, zs.length = len ∧ IsInts w a zs := by
  rcases h with ⟨rfl, rfl, rfl, rfl⟩ | ⟨x, rfl, hl, hm, hz, hcell, hwz⟩
  · exact ⟨[], rfl, .inl rfl⟩
  · refine ⟨z.take len, by rw [List.length_take]; omega, ?_⟩
    by_cases h0 : len = 0
    · subst h0; exact .inl (by simp)
    · obtain ⟨b, off, spot⟩ := x
      have hc := hcell 0 (by omega)
      have hspot : spot = none := by simpa [Addr.add] using World.cell?_spot hc
      subst hspot
      refine .inr ⟨b, off, rfl, fun i hi => ?_⟩
      have hi' : i < len := by rw [List.length_take] at hi; omega
      have hci := hcell i (by omega)
      have e : (z.take len).getD i 0 = z.getD i 0 := by
        rw [List.getD_eq_getElem?_getD, List.getD_eq_getElem?_getD, List.getElem?_take_of_lt hi']
      rw [e]
      by_cases hi0 : i = 0
      · subst hi0; simpa [Addr.add] using hci
      · simpa [Addr.add, hi0] using hci
end Go.Proofs.Ytdlbjmhjaljlfaa
