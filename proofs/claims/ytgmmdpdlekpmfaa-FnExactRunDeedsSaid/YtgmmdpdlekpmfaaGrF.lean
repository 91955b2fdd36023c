/- Contracts and facts of functions of this program, in build order. Conditions: those stated in each. -/
import Derived.Test.YtgmmdpdlekpmfaaGrE
import Derived.Test.YtgmmdpdlekpmfaaGrB
import Derived.Deep.Slices
import Derived.ChangeSame
import Derived.ChangeArms
import Derived.ProofKit
import Derived.Deep.RegionHeld3
import Derived.Deep.DeepCutAuto
import Derived.Deep.RegionWith
import Derived.Deep.QuietTactic
import Derived.BigQuiet
import Derived.RegionTactic
namespace Go.Proofs.Ytgmmdpdlekpmfaa
open Go.RowKit
set_option linter.unusedSimpArgs false
set_option linter.unusedVariables false

def ddv (G : Nat) (x : Dd) : Nat → Value
  | 0 => .int .i64 x.k
  | 1 => .int .i64 x.o
  | 2 => .int .i64 x.t
  | 3 => .int .i64 x.n
  | 4 => .int .i64 x.d
  | _ => .slice (some ⟨G, 0, none⟩) x.zs.length x.zs.length
def ddz : Nat → Value
  | 0 => .int .i64 0
  | 1 => .int .i64 0
  | 2 => .int .i64 0
  | 3 => .int .i64 0
  | 4 => .int .i64 0
  | _ => .slice none 0 0
/-- deeds in a row of the call's own, the heirs of each in a block of their own -/
def RowDs (w : World) (g : Nat) (G : Nat → Nat) (n : Nat) (ds : List Dd) : Prop := (w.rowIs g 113 (ds.length * 6) fun j => if j < n * 6 then ddv (G (j / 6)) (ds.getD (j / 6) dd0) (j % 6) else ddz (j % 6)) ∧ (∀ j, j < n → g < G j ∧ Row w (G j) (ds.getD j dd0).zs) ∧ ∀ i j, i < j → j < n → G i < G j
theorem RowDs.cells {w : World} {g : Nat} {G : Nat → Nat} {ds : List Dd} (h : RowDs w g G ds.length ds) {i : Nat} (hi : i < ds.length) : w.cell? ⟨g, i * 6, none⟩ = some (.int .i64 (ds.getD i dd0).k) ∧ w.cell? ⟨g, i * 6 + 1, none⟩ = some (.int .i64 (ds.getD i dd0).o) ∧ w.cell? ⟨g, i * 6 + 2, none⟩ = some (.int .i64 (ds.getD i dd0).t) ∧ w.cell? ⟨g, i * 6 + 3, none⟩ = some (.int .i64 (ds.getD i dd0).n) ∧ w.cell? ⟨g, i * 6 + 4, none⟩ = some (.int .i64 (ds.getD i dd0).d) ∧ w.cell? ⟨g, i * 6 + 5, none⟩ = some (.slice (some ⟨G i, 0, none⟩) (ds.getD i dd0).zs.length (ds.getD i dd0).zs.length) := by
  have key : ∀ q, q < 6 → w.cell? ⟨g, i * 6 + q, none⟩ = some (ddv (G i) (ds.getD i dd0) q) := fun q hq => by
    have := h.1.cell (i := i * 6 + q) (by omega)
    rw [if_pos (by omega), show (i * 6 + q) / 6 = i from by omega, show (i * 6 + q) % 6 = q from by omega] at this
    exact this
  exact ⟨key 0 (by omega), key 1 (by omega), key 2 (by omega), key 3 (by omega), key 4 (by omega), key 5 (by omega)⟩
theorem RowDs.is {w : World} {g : Nat} {G : Nat → Nat} {ds : List Dd} (h : RowDs w g G ds.length ds) (hn : ∀ i, i < ds.length → (ds.getD i dd0).zs.length ≤ 1048576) : IsDds w (some ⟨g, 0, none⟩) ds := by
  refine .inr ⟨g, 0, rfl, fun i hi => ?_⟩
  obtain ⟨c0, c1, c2, c3, c4, c5⟩ := h.cells hi
  rw [Nat.zero_add]
  exact ⟨_, _, c0, c1, c2, c3, c4, c5, row_ints (h.2.1 i hi).2, hn i hi, Nat.le_refl _⟩
theorem RowDs.next {w w' : World} {g : Nat} {G : Nat → Nat} {ds : List Dd} (h : RowDs w g G ds.length ds) (hb : Below w.heap.size w w') : RowDs w' g G ds.length ds :=
  ⟨World.rowIs.of_block h.1 (hb.block g h.1.lt), fun j hj => ⟨(h.2.1 j hj).1, row_keep (h.2.1 j hj).2 hb⟩, h.2.2⟩
/-- what toDeedS leaves -/
def CopiedDs (w : World) (ds : List Dd) (e : Ending) (w' : World) : Prop := ∃ (g : Nat) (G : Nat → Nat), e = .returned (.slice (some ⟨g, 0, none⟩) ds.length ds.length) ∧ w.heap.size ≤ g ∧ RowDs w' g G ds.length ds ∧ Below w.heap.size w w'
theorem infoDd : (Try.prog.info? 113).map (fun i => (i.zero, i.size, i.bytes)) = some (some (.agg #[.int .i64 0, .int .i64 0, .int .i64 0, .int .i64 0, .int .i64 0, .slice none 0 0]), 6, 64) := by kernel_rfl
theorem madeDd (w : World) (n : Nat) (t : TypeId) : (w.alloc (.cells (madeCells #[.int .i64 0, .int .i64 0, .int .i64 0, .int .i64 0, .int .i64 0, .slice none 0 0] n) t)).rowIs w.heap.size t n (fun j => ddz (j % 6)) := by
  have hs : (madeCells #[Value.int .i64 0, .int .i64 0, .int .i64 0, .int .i64 0, .int .i64 0, .slice none 0 0] n).size = n := by unfold madeCells; simp
  refine ⟨_, heap_alloc_new w _, hs, fun i hi => ?_⟩
  have hm : i % 6 = 0 ∨ i % 6 = 1 ∨ i % 6 = 2 ∨ i % 6 = 3 ∨ i % 6 = 4 ∨ i % 6 = 5 := by omega
  unfold madeCells
  rw [Array.getElem?_map, Array.getElem?_range, if_pos hi]
  show some ((#[Value.int .i64 0, .int .i64 0, .int .i64 0, .int .i64 0, .int .i64 0, .slice none 0 0] : Array Value)[i % 6]!) = some (ddz (i % 6))
  rcases hm with h | h | h | h | h | h <;> rw [h] <;> rfl
theorem run_makeDd (n : Nat) (hn : n ≤ 1048576) (w : World) : (Instr.makeSlice 65 (.int .i64 (n : Int)) (.int .i64 (n : Int))).run Try.prog w = .ok (.slice (some ⟨w.heap.size, 0, none⟩) n n) (w.alloc (.cells (madeCells #[.int .i64 0, .int .i64 0, .int .i64 0, .int .i64 0, .int .i64 0, .slice none 0 0] (n * 6)) 113)) := by
  obtain ⟨i0, hi0, hz0, hz1, hz2⟩ := info_parts infoDd
  have := run_make (P := Try.prog) w 65 113 i0 _ Try.underlying65 hi0 hz0 .i64 .i64 (n : Int) (n : Int) (by omega) (by omega) (by rw [hz2]; omega) (by omega)
  simp only [Int.toNat_natCast, hz1] at this
  exact this
/-- one more deed in the row -/
theorem rowDs_step {w : World} {g : Nat} {G : Nat → Nat} {k : Nat} {ds : List Dd} {gz : Nat} (h : RowDs w g G k ds) (hk : k < ds.length) (hlt : ∀ j, j < k → G j < gz) (hg : g < gz) (hR : Row w gz (ds.getD k dd0).zs) :
    RowDs ((((((w.setCell ⟨g, k * 6, none⟩ (.int .i64 (ds.getD k dd0).k)).setCell ⟨g, k * 6 + 1, none⟩ (.int .i64 (ds.getD k dd0).o)).setCell ⟨g, k * 6 + 2, none⟩ (.int .i64 (ds.getD k dd0).t)).setCell ⟨g, k * 6 + 3, none⟩ (.int .i64 (ds.getD k dd0).n)).setCell ⟨g, k * 6 + 4, none⟩ (.int .i64 (ds.getD k dd0).d)).setCell ⟨g, k * 6 + 5, none⟩ (.slice (some ⟨gz, 0, none⟩) (ds.getD k dd0).zs.length (ds.getD k dd0).zs.length)) g (fun j => if j = k then gz else G j) (k + 1) ds := by
  have far : ∀ (q : Nat) (zs : List Int), q ≠ g → Row w q zs → Row ((((((w.setCell ⟨g, k * 6, none⟩ (.int .i64 (ds.getD k dd0).k)).setCell ⟨g, k * 6 + 1, none⟩ (.int .i64 (ds.getD k dd0).o)).setCell ⟨g, k * 6 + 2, none⟩ (.int .i64 (ds.getD k dd0).t)).setCell ⟨g, k * 6 + 3, none⟩ (.int .i64 (ds.getD k dd0).n)).setCell ⟨g, k * 6 + 4, none⟩ (.int .i64 (ds.getD k dd0).d)).setCell ⟨g, k * 6 + 5, none⟩ (.slice (some ⟨gz, 0, none⟩) (ds.getD k dd0).zs.length (ds.getD k dd0).zs.length)) q zs := fun q zs hq hr =>
    World.rowIs.of_block hr (by rw [Below.heap_setCell _ _ _ q hq, Below.heap_setCell _ _ _ q hq, Below.heap_setCell _ _ _ q hq, Below.heap_setCell _ _ _ q hq, Below.heap_setCell _ _ _ q hq, Below.heap_setCell _ _ _ q hq])
  refine ⟨((((((h.1.set (k * 6) _).set (k * 6 + 1) _).set (k * 6 + 2) _).set (k * 6 + 3) _).set (k * 6 + 4) _).set (k * 6 + 5) _).congr (fun j hj => ?_), fun j hj => ?_, fun i j hij hj => ?_⟩
  · dsimp only
    by_cases hb : k * 6 ≤ j ∧ j < k * 6 + 6
    · rw [if_pos (show j < (k + 1) * 6 from by omega), if_pos (show j / 6 = k from by omega), show j / 6 = k from by omega]
      have hm : j = k * 6 ∨ j = k * 6 + 1 ∨ j = k * 6 + 2 ∨ j = k * 6 + 3 ∨ j = k * 6 + 4 ∨ j = k * 6 + 5 := by omega
      rcases hm with e | e | e | e | e | e
      · rw [if_neg (by omega), if_neg (by omega), if_neg (by omega), if_neg (by omega), if_neg (by omega), if_pos e, show j % 6 = 0 from by omega]; rfl
      · rw [if_neg (by omega), if_neg (by omega), if_neg (by omega), if_neg (by omega), if_pos e, show j % 6 = 1 from by omega]; rfl
      · rw [if_neg (by omega), if_neg (by omega), if_neg (by omega), if_pos e, show j % 6 = 2 from by omega]; rfl
      · rw [if_neg (by omega), if_neg (by omega), if_pos e, show j % 6 = 3 from by omega]; rfl
      · rw [if_neg (by omega), if_pos e, show j % 6 = 4 from by omega]; rfl
      · rw [if_pos e, show j % 6 = 5 from by omega]; rfl
    · rw [if_neg (by omega), if_neg (by omega), if_neg (by omega), if_neg (by omega), if_neg (by omega), if_neg (by omega), if_neg (show ¬ j / 6 = k from by omega)]
      by_cases hl : j < k * 6
      · rw [if_pos hl, if_pos (by omega)]
      · rw [if_neg hl, if_neg (by omega)]
  · dsimp only
    by_cases hjk : j = k
    · rw [if_pos hjk, hjk]; exact ⟨hg, far _ _ (by omega) hR⟩
    · rw [if_neg hjk]
      obtain ⟨p1, p2⟩ := h.2.1 j (by omega)
      exact ⟨p1, far _ _ (by omega) p2⟩
  · dsimp only
    rw [if_neg (by omega : ¬ i = k)]
    by_cases hjk : j = k
    · rw [if_pos hjk]; exact hlt i (by omega)
    · rw [if_neg hjk]; exact h.2.2 i j hij (by omega)
set_option maxRecDepth 100000 in
set_option maxHeartbeats 6000000 in
/-- laws.toDeedS -/
theorem ltoDs (a : Option Addr) (cap : Nat) (ds : List Dd) (w : World) (h : IsDds w a ds) (hn : ds.length ≤ 1048576) :
    Calls Try.prog 32 #[.slice a ds.length cap] w (CopiedDs w ds) := by
  have hmk := run_makeDd ds.length hn
  have HC := Lib.hid h
  clear h
  go_enter Try.func32, Try.ntmps32
  go_wp2
  clear hmk
  go_loopw [4] (fun i wr => ∃ (k : Nat) (G : Nat → Nat), k ≤ ds.length ∧ i = .int .i64 k ∧ Hid (RowDs wr w.heap.size G k ds ∧ Below w.heap.size w wr)) (fun i _ => ds.length - (intOf i).toNat)
  case atStart => exact ⟨0, fun _ => 0, Nat.zero_le _, rfl, ⟨⟨(madeDd w (ds.length * 6) _).congr (fun i hi => by simp), fun j hj => absurd hj (Nat.not_lt_zero _), fun i j _ hj => absurd hj (Nat.not_lt_zero _)⟩, by go_grown⟩⟩
  case round =>
    obtain ⟨k, G, hk, rfl, HS⟩ := hrel
    by_cases hlt : k < ds.length
    · rcases HC.out with hd0 | ⟨g, o, rfl, hg⟩
      · rw [hd0] at hlt; exact absurd hlt (Nat.not_lt_zero _)
      obtain ⟨A, cz, c0, c1, c2, c3, c4, c5, hI, hzn, hzc⟩ := dd_below (hg k hlt) HS.out.2
      have HST := Lib.hid (fun (W : World) (gz : Nat) (hW : RowDs W w.heap.size G k ds) => rowDs_step (gz := gz) hW hlt)
      have hrow := HS.out.1.1
      have key : ∀ q, q < 6 → wr.cell? ⟨w.heap.size, k * 6 + q, none⟩ = some (ddz q) := fun q hq => by
        have := hrow.cell (i := k * 6 + q) (by omega)
        rw [if_neg (by omega), show (k * 6 + q) % 6 = q from by omega] at this
        exact this
      have d0 := key 0 (by omega)
      have d1 := key 1 (by omega)
      have d2 := key 2 (by omega)
      have d3 := key 3 (by omega)
      have d4 := key 4 (by omega)
      have d5 := key 5 (by omega)
      have hf := hrow.frozen
      have hW := hrow.lt
      clear key hrow
      rw [Nat.add_zero] at d0
      unfold ddz at d0 d1 d2 d3 d4 d5
      have hk0 : (0 : Int) ≤ (k : Int) := by omega
      have hk1 : (k : Int) < (ds.length : Int) := by omega
      generalize ds.getD k dd0 = x at c0 c1 c2 c3 c4 c5 hI hzn hzc HST
      have CC := Lib.hid (ltoDd A cz x wr hI hzn)
      have HF := Lib.hid hf
      clear hf hI hzn hzc
      go_wp2_with fail
      refine CC.out.mono ?_
      rintro e w1 ⟨gz, rfl, hgz, hrz, C⟩
      have HN := Lib.hid (HST.out w1 gz ⟨World.rowIs.of_block HS.out.1.1 (C.block _ hW), fun j hj => ⟨(HS.out.1.2.1 j hj).1, row_keep (HS.out.1.2.1 j hj).2 C⟩, HS.out.1.2.2⟩ (fun j hj => Nat.lt_of_lt_of_le (HS.out.1.2.1 j hj).2.lt hgz) (Nat.lt_of_lt_of_le hW hgz) hrz)
      have HB := Lib.hid (bel_tr HS.out.2 C)
      replace d0 := (C.cell (p := ⟨w.heap.size, k * 6, none⟩) hW).trans d0
      replace d1 := (C.cell (p := ⟨w.heap.size, k * 6 + 1, none⟩) hW).trans d1
      replace d2 := (C.cell (p := ⟨w.heap.size, k * 6 + 2, none⟩) hW).trans d2
      replace d3 := (C.cell (p := ⟨w.heap.size, k * 6 + 3, none⟩) hW).trans d3
      replace d4 := (C.cell (p := ⟨w.heap.size, k * 6 + 4, none⟩) hW).trans d4
      replace d5 := (C.cell (p := ⟨w.heap.size, k * 6 + 5, none⟩) hW).trans d5
      have f0 := (C.frozen (p := ⟨w.heap.size, k * 6, none⟩) hW).trans (HF.out _)
      have f1 := (C.frozen (p := ⟨w.heap.size, k * 6 + 1, none⟩) hW).trans (HF.out _)
      have f2 := (C.frozen (p := ⟨w.heap.size, k * 6 + 2, none⟩) hW).trans (HF.out _)
      have f3 := (C.frozen (p := ⟨w.heap.size, k * 6 + 3, none⟩) hW).trans (HF.out _)
      have f4 := (C.frozen (p := ⟨w.heap.size, k * 6 + 4, none⟩) hW).trans (HF.out _)
      have f5 := (C.frozen (p := ⟨w.heap.size, k * 6 + 5, none⟩) hW).trans (HF.out _)
      clear C c0 c1 c2 c3 c4 c5 hrz HST CC HS
      go_wp2_with fail
      go_roundw
      case rel => exact ⟨k + 1, _, by omega, by go_num, HN.out, (((((HB.out.setCell (p := ⟨w.heap.size, k * 6, none⟩) (Nat.le_refl _) _).setCell (p := ⟨w.heap.size, k * 6 + 1, none⟩) (Nat.le_refl _) _).setCell (p := ⟨w.heap.size, k * 6 + 2, none⟩) (Nat.le_refl _) _).setCell (p := ⟨w.heap.size, k * 6 + 3, none⟩) (Nat.le_refl _) _).setCell (p := ⟨w.heap.size, k * 6 + 4, none⟩) (Nat.le_refl _) _).setCell (p := ⟨w.heap.size, k * 6 + 5, none⟩) (Nat.le_refl _) _⟩
      case measure => simp [intOf]; omega
    · obtain rfl : k = ds.length := by omega
      go_wp2_with fail
      go_ret
      exact ⟨_, G, rfl, Nat.le_refl _, HS.out.1, HS.out.2⟩
end Go.Proofs.Ytgmmdpdlekpmfaa
namespace Go.Proofs.Ytgmmdpdlekpmfaa
open Go.ChangeShapes Go.WideShapes Go.RowKit Go.Deep

abbrev Tn := Int × Int
abbrev tn0 : Tn := (0, 0)
/-- the numbers, one after the other -/
def flatTn : List Tn → List Int
  | [] => []
  | h :: t => h.1 :: h.2 :: flatTn t
theorem flatTn_len : ∀ xs : List Tn, (flatTn xs).length = xs.length * 2 := by
  intro xs
  induction xs with
  | nil => rfl
  | cons h t ih => show (flatTn t).length + 1 + 1 = (t.length + 1) * 2; rw [ih]; omega
theorem flatTn_append : ∀ a b : List Tn, flatTn (a ++ b) = flatTn a ++ flatTn b := by
  intro a b
  induction a with
  | nil => rfl
  | cons h t ih => show h.1 :: h.2 :: flatTn (t ++ b) = _; rw [ih]; rfl
theorem flatTn_get : ∀ (xs : List Tn) (k : Nat), k < xs.length → (flatTn xs).getD (k * 2) 0 = (xs.getD k tn0).1 ∧ (flatTn xs).getD (k * 2 + 1) 0 = (xs.getD k tn0).2 := by
  intro xs
  induction xs with
  | nil => intro k h; simp at h
  | cons h t ih =>
    intro k hk
    cases k with
    | zero => exact ⟨rfl, rfl⟩
    | succ k =>
      have := ih k (by simpa using hk)
      rw [show (k + 1) * 2 = k * 2 + 1 + 1 from by omega]
      exact this
theorem flatTn_take (xs : List Tn) (k : Nat) : (flatTn xs).take (k * 2) = flatTn (xs.take k) := by
  induction xs generalizing k with
  | nil => simp [flatTn]
  | cons h t ih =>
    cases k with
    | zero => rfl
    | succ k =>
      rw [show (k + 1) * 2 = k * 2 + 1 + 1 from by omega]
      show h.1 :: h.2 :: (flatTn t).take (k * 2) = _
      rw [ih]; rfl
theorem flatTn_drop (xs : List Tn) (k : Nat) : (flatTn xs).drop (k * 2) = flatTn (xs.drop k) := by
  induction xs generalizing k with
  | nil => simp [flatTn]
  | cons h t ih =>
    cases k with
    | zero => rfl
    | succ k =>
      rw [show (k + 1) * 2 = k * 2 + 1 + 1 from by omega]
      show (flatTn t).drop (k * 2) = _
      rw [ih]; rfl
/-- Turns xs, read through a slice at address a -/
def IsTn (w : World) (a : Option Addr) (xs : List Tn) : Prop := xs = [] ∨ ∃ g o, a = some ⟨g, o, none⟩ ∧ ∀ i, i < xs.length → w.cell? ⟨g, o + i * 2, none⟩ = some (.int .i64 (xs.getD i tn0).1) ∧ w.cell? ⟨g, o + i * 2 + 1, none⟩ = some (.int .i64 (xs.getD i tn0).2)
theorem tn_below {w w' : World} {a : Option Addr} {xs : List Tn} (h : IsTn w a xs) (hB : Below w.heap.size w w') : IsTn w' a xs := by
  rcases h with h | ⟨g, o, ha, hc⟩
  · exact .inl h
  · refine .inr ⟨g, o, ha, fun i hi => ?_⟩
    obtain ⟨c0, c1⟩ := hc i hi
    have kp : ∀ p v, w.cell? ⟨g, p, none⟩ = some v → w'.cell? ⟨g, p, none⟩ = some v := fun p v c => (hB.cell (p := ⟨g, p, none⟩) (World.block_lt_of_cell? w _ c)).trans c
    exact ⟨kp _ _ c0, kp _ _ c1⟩
theorem tn_at {w wr : World} {g o : Nat} {xs : List Tn} (hc : ∀ i, i < xs.length → w.cell? ⟨g, o + i * 2, none⟩ = some (.int .i64 (xs.getD i tn0).1) ∧ w.cell? ⟨g, o + i * 2 + 1, none⟩ = some (.int .i64 (xs.getD i tn0).2)) (hB : Below w.heap.size w wr) {k : Nat} (hk : k < xs.length) :
    wr.cell? ⟨g, o + k * 2, none⟩ = some (.int .i64 (xs.getD k tn0).1) ∧ wr.cell? ⟨g, o + k * 2 + 1, none⟩ = some (.int .i64 (xs.getD k tn0).2) := by
  obtain ⟨c0, c1⟩ := hc k hk
  have kp : ∀ p v, w.cell? ⟨g, p, none⟩ = some v → wr.cell? ⟨g, p, none⟩ = some v := fun p v c => (hB.cell (p := ⟨g, p, none⟩) (World.block_lt_of_cell? w _ c)).trans c
  exact ⟨kp _ _ c0, kp _ _ c1⟩
theorem Flat.tn {w : World} {g : Nat} {t : TypeId} {xs : List Tn} (h : Flat w g t (flatTn xs)) : IsTn w (some ⟨g, 0, none⟩) xs := by
  refine .inr ⟨g, 0, rfl, fun i hi => ?_⟩
  obtain ⟨a0, a1⟩ := flatTn_get xs i hi
  have hl := flatTn_len xs
  rw [Nat.zero_add]
  exact ⟨by rw [h.cell (by omega), a0], by rw [h.cell (by omega), a1]⟩
theorem tn_take {w : World} {g o : Nat} {xs : List Tn} (hc : ∀ i, i < xs.length → w.cell? ⟨g, o + i * 2, none⟩ = some (.int .i64 (xs.getD i tn0).1) ∧ w.cell? ⟨g, o + i * 2 + 1, none⟩ = some (.int .i64 (xs.getD i tn0).2)) (k : Nat) : IsTn w (some ⟨g, o, none⟩) (xs.take k) := by
  refine .inr ⟨g, o, rfl, fun i hi => ?_⟩
  rw [List.length_take] at hi
  have e : (xs.take k).getD i tn0 = xs.getD i tn0 := by
    rw [List.getD_eq_getElem?_getD, List.getD_eq_getElem?_getD, List.getElem?_take_of_lt (by omega)]
  rw [e]; exact hc i (by omega)
/-- the cells -/
def valsTn (xs : List Tn) : List Value := (flatTn xs).map (Value.int .i64)
theorem valsTn_len (xs : List Tn) : (valsTn xs).length = xs.length * 2 := by unfold valsTn; rw [List.length_map, flatTn_len]
theorem valsTn_append (a b : List Tn) : valsTn (a ++ b) = valsTn a ++ valsTn b := by unfold valsTn; rw [flatTn_append, List.map_append]
theorem valsTn_one (xs : List Tn) : ∀ u ∈ valsTn xs, u.oneCell' = true := fun u hu => by
  unfold valsTn at hu
  obtain ⟨z, _, rfl⟩ := List.mem_map.1 hu
  rfl
theorem valsTn_get {xs : List Tn} {k : Nat} (h : k < xs.length) : (valsTn xs)[k * 2]? = some (.int .i64 (xs.getD k tn0).1) ∧ (valsTn xs)[k * 2 + 1]? = some (.int .i64 (xs.getD k tn0).2) := by
  obtain ⟨a0, a1⟩ := flatTn_get xs k h
  have hl := flatTn_len xs
  have get : ∀ j, j < (flatTn xs).length → (valsTn xs)[j]? = some (.int .i64 ((flatTn xs).getD j 0)) := fun j hj => by
    unfold valsTn
    rw [List.getElem?_map, List.getElem?_eq_getElem hj, List.getD_eq_getElem?_getD, List.getElem?_eq_getElem hj]; rfl
  rw [get _ (by omega), get _ (by omega), a0, a1]
  exact ⟨rfl, rfl⟩
theorem tn_reads {w : World} {a : Option Addr} {xs : List Tn} (h : IsTn w a xs) : Reads w w.heap.size 2 a xs.length (valsTn xs) := by
  refine ⟨valsTn_len xs, fun hn => ?_⟩
  rcases h with rfl | ⟨g, o, rfl, hc⟩
  · exact absurd hn (by simp)
  · refine ⟨⟨g, o, none⟩, rfl, ?_, fun j u hu => ?_⟩
    · exact World.block_lt_of_cell? w _ (hc 0 hn).1
    · have hl := valsTn_len xs
      have hj : j < (valsTn xs).length := by
        rcases Nat.lt_or_ge j (valsTn xs).length with h | h
        · exact h
        · rw [List.getElem?_eq_none h] at hu; cases hu
      have hk : j / 2 < xs.length := by omega
      obtain ⟨c0, c1⟩ := hc _ hk
      obtain ⟨v0, v1⟩ := valsTn_get hk
      have hm : j % 2 = 0 ∨ j % 2 = 1 := by omega
      rw [add_off]
      rcases hm with e | e
      · have ej : j = j / 2 * 2 := by omega
        rw [ej] at hu ⊢; rw [v0] at hu; rw [c0, ← hu]
      · have ej : j = j / 2 * 2 + 1 := by omega
        rw [ej] at hu ⊢; rw [v1] at hu; rw [← Nat.add_assoc, c1, ← hu]
theorem reads_tn {w : World} {B : Nat} {a : Option Addr} {xs : List Tn} (h : Reads w B 2 a xs.length (valsTn xs)) (hsp : ∀ ad, a = some ad → ad.spot = none) : IsTn w a xs := by
  by_cases hn : xs = []
  · exact .inl hn
  · obtain ⟨ad, rfl, _, hc⟩ := h.2 (by cases xs with | nil => exact absurd rfl hn | cons _ _ => simp)
    obtain ⟨g, o, sp⟩ := ad
    obtain rfl : sp = none := hsp _ rfl
    refine .inr ⟨g, o, rfl, fun i hi => ?_⟩
    obtain ⟨v0, v1⟩ := valsTn_get hi
    have e0 := hc _ _ v0
    have e1 := hc _ _ v1
    rw [add_off] at e0 e1
    rw [← Nat.add_assoc] at e1
    exact ⟨e0, e1⟩
theorem infoTn : (Try.prog.info? 99).map (fun i => (i.zero, i.size, i.bytes)) = some (some (.agg #[.int .i64 0, .int .i64 0]), 2, 16) := by kernel_rfl
/-- a row of the call's own that holds xs -/
def OwnTn (w : World) (base : Nat) (v : Value) (xs : List Tn) : Prop := w.ownsRow base 99 2 v xs.length (valsTn xs)
theorem own_tn {w : World} {base : Nat} {v : Value} {xs : List Tn} (h : OwnTn w base v xs) : ∃ (b : Option Addr) (cap : Nat), v = .slice b xs.length cap ∧ IsTn w b xs := by
  have h0 := h
  rcases h.2 with ⟨hv, hn⟩ | ⟨g, cap, cur, hv, _⟩
  · exact ⟨none, 0, by rw [hv, hn], .inl (List.eq_nil_of_length_eq_zero hn)⟩
  · subst hv
    exact ⟨some ⟨g, 0, none⟩, cap, rfl, reads_tn (Reads.of_own h0) (fun ad e => by injection e with e; rw [← e])⟩

/-- a slice of Turns that came in -/
def TnIn (w : World) (a : Option Addr) (len cap : Nat) (xs : List Tn) : Prop := xs.length = len ∧ IsTn w a xs ∧ len ≤ cap ∧ cap ≤ maxLen
set_option maxRecDepth 100000 in
theorem open_tn {H : Type} {enc : TypeId × Value → H} {w : World} {base : Nat} {spare : Nat → Bool} {held : Bool} {fuel : Nat} {cs : List Value} {x : DataW H × List MemPlace} (h : DataW.trod enc Try.prog w base spare held fuel 129 cs = some x) : ∃ x0 x1 : Int, cs = [.int .i64 x0, .int .i64 x1] := by
  obtain ⟨y0, y1, n', _, hl, h0, h1⟩ := trod_struct2 Try.underlying129 h
  obtain ⟨x0, e0, _, _⟩ := DataW.trod_int Try.underlying3 h0
  obtain ⟨x1, e1, _, _⟩ := DataW.trod_int Try.underlying3 h1
  have hc : Try.prog.cellsOf 129 = 2 := by kernel_rfl
  have hi : Try.prog.cellsOf 3 = 1 := by kernel_rfl
  have hl := hl.trans hc
  dsimp only at e0 e1
  rw [hi] at e0 e1
  match cs, hl with
  | [a0, a1], _ =>
    refine ⟨x0, x1, ?_⟩
    simp at e0 e1
    rw [e0, e1]
set_option maxRecDepth 100000 in
theorem open_tns {H : Type} {enc : TypeId × Value → H} {w : World} {base : Nat} {spare : Nat → Bool} {held : Bool} {fuel : Nat} {a : Option Addr} {len cap : Nat} {x : DataW H × List MemPlace} (h : DataW.trod enc Try.prog w base spare held fuel 23 [.slice a len cap] = some x) : ∃ xs, TnIn w a len cap xs := by
  rcases open_slice Try.underlying23 h with ⟨hcs, _⟩ | ⟨ad, l, c, m, n', D, Pl, hcs, hb, hl, hm, hmm, hx, hi⟩
  · simp at hcs
    obtain ⟨rfl, rfl, rfl⟩ := hcs
    exact ⟨[], rfl, .inl rfl, Nat.le_refl _, Nat.zero_le _⟩
  · simp at hcs
    obtain ⟨rfl, rfl, rfl⟩ := hcs
    have hc : Try.prog.cellsOf 129 = 2 := by kernel_rfl
    have hmn : len ≤ m := by rw [hmm]; split <;> omega
    have each : ∀ i, i < len → ∃ z : Tn, w.cell? (ad.add (i * 2)) = some (.int .i64 z.1) ∧ w.cell? (ad.add (i * 2 + 1)) = some (.int .i64 z.2) := fun i hin => by
      obtain ⟨cs', h1, h2⟩ := hi i (by omega)
      obtain ⟨x0, x1, rfl⟩ := open_tn h2
      rw [hc] at h1
      obtain ⟨_, _, hat⟩ := World.cells?_some h1
      have a0 := hat 0 (by omega)
      have a1 := hat 1 (by omega)
      rw [add_add] at a0 a1
      exact ⟨(x0, x1), a0, a1⟩
    obtain ⟨f, hf⟩ : ∃ f : Nat → Tn, ∀ i, i < len → w.cell? (ad.add (i * 2)) = some (.int .i64 (f i).1) ∧ w.cell? (ad.add (i * 2 + 1)) = some (.int .i64 (f i).2) :=
      ⟨fun i => if hh : i < len then Classical.choose (each i hh) else tn0, fun i hh => by simp only [dif_pos hh]; exact Classical.choose_spec (each i hh)⟩
    refine ⟨(List.range len).map f, by simp, ?_, hl, hm⟩
    by_cases h0 : len = 0
    · subst h0; exact .inl rfl
    · obtain ⟨b, off, spot⟩ := ad
      have hsp := (hf 0 (by omega)).1
      have hspot : spot = none := by simpa [Addr.add] using World.cell?_spot hsp
      subst hspot
      refine .inr ⟨b, off, rfl, fun i hin => ?_⟩
      have hin' : i < len := by simpa using hin
      have e : ((List.range len).map f).getD i tn0 = f i := by
        rw [List.getD_eq_getElem?_getD, List.getElem?_map, List.getElem?_range hin']; rfl
      obtain ⟨q0, q1⟩ := hf i hin'
      rw [add_off] at q0 q1
      rw [e]
      exact ⟨q0, by rw [Nat.add_assoc]; exact q1⟩
end Go.Proofs.Ytgmmdpdlekpmfaa
namespace Go.Proofs.Ytgmmdpdlekpmfaa
open Go.RowKit

theorem lszTn (a : Option Addr) (n cap : Nat) (w : World) (hn : n ≤ 1048576) :
    Calls Try.prog 42 #[.slice a n cap, .int .i64 1048576] w fun e w' => e = .returned (.int .i64 (1048576 - (n : Int))) ∧ w = w' := by
  go_enter Try.func42, Try.ntmps42
  go_wp2
  go_ret
  exact ⟨rfl, rfl⟩
theorem lszTn_no (a : Option Addr) (n cap : Nat) (w : World) (h : 1048576 < n) (hn : n ≤ 9223372036854775807) :
    Calls Try.prog 42 #[.slice a n cap, .int .i64 1048576] w fun e w' => e = .returned (.int .i64 (-1)) ∧ w = w' := by
  go_enter Try.func42, Try.ntmps42
  go_wp2
  go_ret
  exact ⟨rfl, rfl⟩

theorem ltoTn1 (x0 x1 : Int) (w : World) :
    Calls Try.prog 98 #[.agg #[.int .i64 x0, .int .i64 x1]] w fun e w' => e = .returned (.agg #[.int .i64 x0, .int .i64 x1]) ∧ Below w.heap.size w w' := by
  go_enter Try.func98, Try.ntmps98
  go_wp2
  refine bodyPost_ret (v := .agg #[.int .i64 x0, .int .i64 x1]) (by simp [results, Try.results98, go_sem]) rfl ⟨rfl, by go_grown⟩

theorem leqTn1 (x0 x1 : Int) (w : World) :
    Calls Try.prog 104 #[.agg #[.int .i64 x0, .int .i64 x1], .agg #[.int .i64 x0, .int .i64 x1]] w fun e w' => e = .returned (.bool true) ∧ Below w.heap.size w w' := by
  go_enter Try.func104, Try.ntmps104
  go_wp2
  go_ret
  exact ⟨rfl, by go_grown⟩

/-- what the copy leaves -/
def CopiedTn (w : World) (xs : List Tn) (e : Ending) (w' : World) : Prop := ∃ g : Nat, e = .returned (.slice (some ⟨g, 0, none⟩) xs.length xs.length) ∧ w.heap.size ≤ g ∧ Flat w' g 99 (flatTn xs) ∧ Below w.heap.size w w'
theorem madeTn (w : World) (n : Nat) (t : TypeId) : (w.alloc (.cells (madeCells #[.int .i64 0, .int .i64 0] n) t)).rowIs w.heap.size t n (fun _ => .int .i64 0) := by
  have hs : (madeCells #[Value.int .i64 0, .int .i64 0] n).size = n := by unfold madeCells; simp
  refine ⟨_, heap_alloc_new w _, hs, fun i hi => ?_⟩
  have hm : i % 2 = 0 ∨ i % 2 = 1 := by omega
  unfold madeCells
  rw [Array.getElem?_map, Array.getElem?_range, if_pos hi]
  show some ((#[Value.int .i64 0, .int .i64 0] : Array Value)[i % 2]!) = _
  rcases hm with h | h <;> rw [h] <;> rfl
theorem run_makeTn (n : Nat) (hn : n ≤ 1048576) (w : World) : (Instr.makeSlice 33 (.int .i64 (n : Int)) (.int .i64 (n : Int))).run Try.prog w = .ok (.slice (some ⟨w.heap.size, 0, none⟩) n n) (w.alloc (.cells (madeCells #[.int .i64 0, .int .i64 0] (n * 2)) 99)) := by
  obtain ⟨i0, hi0, hz0, hz1, hz2⟩ := info_parts infoTn
  have := run_make (P := Try.prog) w 33 99 i0 _ Try.underlying33 hi0 hz0 .i64 .i64 (n : Int) (n : Int) (by omega) (by omega) (by rw [hz2]; omega) (by omega)
  simp only [Int.toNat_natCast, hz1] at this
  exact this

set_option maxHeartbeats 2000000 in
theorem ltoTn (a : Option Addr) (cap : Nat) (xs : List Tn) (w : World) (h : IsTn w a xs) (hn : xs.length ≤ 1048576) :
    Calls Try.prog 46 #[.slice a xs.length cap] w (CopiedTn w xs) := by
  rcases h with rfl | ⟨g, o, rfl, hc⟩
  · have hmk : ∀ W : World, (Instr.makeSlice 33 (.int .i64 0) (.int .i64 0)).run Try.prog W = .ok (.slice (some ⟨W.heap.size, 0, none⟩) 0 0) (W.alloc (.cells (madeCells #[.int .i64 0, .int .i64 0] 0) 99)) := fun W => run_makeTn 0 (by omega) W
    go_enter Try.func46, Try.ntmps46
    go_wp2
    go_rounds 1
    go_ret
    exact ⟨_, rfl, Nat.le_refl _, Flat.row (madeTn w 0 _) (by simp [flatTn]) (fun j hj => by simp [flatTn] at hj), by go_grown⟩
  · have hmk := run_makeTn xs.length hn
    have HC := Lib.hid hc
    clear hc
    go_enter Try.func46, Try.ntmps46
    go_wp2
    clear hmk
    go_loopw [4] (fun i wr => ∃ k : Nat, k ≤ xs.length ∧ i = .int .i64 k ∧ wr.rowIs w.heap.size 99 (xs.length * 2) (fun j => if j < k * 2 then .int .i64 ((flatTn xs).getD j 0) else .int .i64 0) ∧ Below w.heap.size w wr) (fun i _ => xs.length - (intOf i).toNat)
    case atStart => exact ⟨0, Nat.zero_le _, rfl, (madeTn w (xs.length * 2) _).congr (fun i hi => by simp), by go_grown⟩
    case round =>
      obtain ⟨k, hk, rfl, hrow, hB⟩ := hrel
      by_cases hlt : k < xs.length
      · obtain ⟨c0, c1⟩ := tn_at HC.out hB hlt
        obtain ⟨g0, g1⟩ := flatTn_get xs k hlt
        have hd : ∀ j, k * 2 ≤ j → j < xs.length * 2 → wr.cell? ⟨w.heap.size, j, none⟩ = some (.int .i64 0) := fun j h0 h1 => by rw [hrow.cell h1, if_neg (by omega)]
        have d0 := hd (k * 2) (by omega) (by omega)
        have d1 := hd (k * 2 + 1) (by omega) (by omega)
        have hcon : ∀ x0 x1 : Int, (flatTn xs).getD (k * 2) 0 = x0 → (flatTn xs).getD (k * 2 + 1) 0 = x1 → ∀ W : World, W.heap[w.heap.size]? = wr.heap[w.heap.size]? →
            ((W.setCell ⟨w.heap.size, k * 2, none⟩ (.int .i64 x0)).setCell ⟨w.heap.size, k * 2 + 1, none⟩ (.int .i64 x1)).rowIs w.heap.size 99 (xs.length * 2) (fun j => if j < (k + 1) * 2 then .int .i64 ((flatTn xs).getD j 0) else .int .i64 0) := fun x0 x1 e0 e1 W hW => by
          have hrow' := World.rowIs.of_block hrow hW
          refine ((hrow'.set (k * 2) (.int .i64 x0)).set (k * 2 + 1) (.int .i64 x1)).congr (fun j hj => ?_)
          show (if j = k * 2 + 1 then Value.int .i64 x1 else if j = k * 2 then .int .i64 x0 else if j < k * 2 then .int .i64 ((flatTn xs).getD j 0) else .int .i64 0) = _
          by_cases a1 : j = k * 2 + 1
          · rw [if_pos a1, if_pos (by omega), a1, e1]
          rw [if_neg a1]
          by_cases a0 : j = k * 2
          · rw [if_pos a0, if_pos (by omega), a0, e0]
          rw [if_neg a0]
          by_cases al : j < k * 2
          · rw [if_pos al, if_pos (by omega)]
          · rw [if_neg al, if_neg (by omega)]
        have hcon2 := hcon _ _ g0 g1
        have hfr := hrow.frozen
        have hlw := World.rowIs.lt hrow
        clear hcon hd g0 g1
        generalize xs.getD k tn0 = hh at c0 c1 hcon2
        obtain ⟨x0, x1⟩ := hh
        dsimp only at c0 c1 hcon2
        have HR := Lib.hid hcon2
        have HB := Lib.hid hB
        have HF := Lib.hid hfr
        clear hcon2 hrow hB hfr
        go_wp2_with fail
        refine (ltoTn1 x0 x1 _).mono ?_
        rintro e w1 ⟨rfl, hb⟩
        have hB1 := bel_tr HB.out hb
        have hblk := hb.block w.heap.size hlw
        have e0 := (hb.cell (p := ⟨w.heap.size, k * 2, none⟩) hlw).trans d0
        have e1 := (hb.cell (p := ⟨w.heap.size, k * 2 + 1, none⟩) hlw).trans d1
        have f0 := (hb.frozen (p := ⟨w.heap.size, k * 2, none⟩) hlw).trans (HF.out _)
        have f1 := (hb.frozen (p := ⟨w.heap.size, k * 2 + 1, none⟩) hlw).trans (HF.out _)
        clear hb d0 d1 c0 c1
        go_wp2_with fail
        go_roundw
        case rel => exact ⟨k + 1, by omega, by go_num, HR.out w1 hblk, ((hB1.setCell (Nat.le_refl _) _).setCell (Nat.le_refl _) _)⟩
        case measure => simp [intOf]; omega
      · have HR := Lib.hid hrow
        have HB := Lib.hid hB
        clear hrow hB
        go_wp2
        go_ret
        have hl := flatTn_len xs
        exact ⟨_, rfl, Nat.le_refl _, Flat.row HR.out (by omega) (fun j hj => by rw [if_pos (by omega)]), HB.out⟩

theorem keepTn {w w' : World} {p0 p1 p2 p3 : Addr} {u0 u1 u2 u3 : Value} (hb : Below w.heap.size w w') (h : w.cell? p0 = some u0 ∧ w.cell? p1 = some u1 ∧ w.cell? p2 = some u2 ∧ w.cell? p3 = some u3) : w'.cell? p0 = some u0 ∧ w'.cell? p1 = some u1 ∧ w'.cell? p2 = some u2 ∧ w'.cell? p3 = some u3 := by
  have n : ∀ {p : Addr} {v : Value}, w.cell? p = some v → w'.cell? p = some v := fun h => (hb.cell (World.block_lt_of_cell? w _ h)).trans h
  obtain ⟨h0, h1, h2, h3⟩ := h
  exact ⟨n h0, n h1, n h2, n h3⟩

set_option maxHeartbeats 2000000 in
/-- the comparison of two readings of the same -/
theorem leqTn (a b : Option Addr) (ca cb : Nat) (xs : List Tn) (w : World) (ha : IsTn w a xs) (hb : IsTn w b xs) (hn : xs.length ≤ 1048576) :
    Calls Try.prog 57 #[.slice a xs.length ca, .slice b xs.length cb] w fun e w' => e = .returned (.bool true) ∧ Below w.heap.size w w' := by
  rcases ha with rfl | ⟨g, o, rfl, hc⟩
  · go_enter Try.func57, Try.ntmps57
    go_wp2
    go_rounds 1
    go_ret
    exact ⟨rfl, by go_grown⟩
  · rcases hb with rfl | ⟨g2, o2, rfl, hc2⟩
    · go_enter Try.func57, Try.ntmps57
      go_wp2
      go_rounds 1
      go_ret
      exact ⟨rfl, by go_grown⟩
    · have HC := Lib.hid hc
      have HD := Lib.hid hc2
      clear hc hc2
      go_enter Try.func57, Try.ntmps57
      go_wp2
      go_loopw [5] (fun i wr => ∃ k : Nat, k ≤ xs.length ∧ i = .int .i64 k ∧ Below w.heap.size w wr) (fun i _ => xs.length - (intOf i).toNat)
      case atStart => exact ⟨0, Nat.zero_le _, rfl, by go_grown⟩
      case round =>
        obtain ⟨k, hk, rfl, hB⟩ := hrel
        by_cases hlt : k < xs.length
        · obtain ⟨c0, c1⟩ := tn_at HC.out hB hlt
          obtain ⟨d0, d1⟩ := tn_at HD.out hB hlt
          generalize xs.getD k tn0 = hh at c0 c1 d0 d1
          obtain ⟨x0, x1⟩ := hh
          dsimp only at c0 c1 d0 d1
          have HB := Lib.hid hB
          clear hB
          have i0 : (0 : Int) ≤ (k : Int) := by omega
          have i1 : (k : Int) < (xs.length : Int) := by omega
          go_wp2_with fail
          go_region_held3 (fun w' => w'.cell? ⟨g, o + k * 2, none⟩ = some (.int .i64 x0) ∧ w'.cell? ⟨g, o + k * 2 + 1, none⟩ = some (.int .i64 x1) ∧ w'.cell? ⟨g2, o2 + k * 2, none⟩ = some (.int .i64 x0) ∧ w'.cell? ⟨g2, o2 + k * 2 + 1, none⟩ = some (.int .i64 x1)) (first | (exact keepTn (by assumption) (by assumption)) | (refine ⟨?_, ?_, ?_, ?_⟩ <;> (go_keep; done))) (first | (go_at_call 104; refine (leqTn1 x0 x1 _).mono ?_; rintro e w3 ⟨rfl, hb⟩))
          go_wp2_with fail
          go_roundw
          case rel => exact ⟨k + 1, by omega, by go_num, bel_tr HB.out.drew hb⟩
          case measure => simp [intOf]; omega
        · go_wp2
          go_ret
          exact ⟨rfl, hB⟩

/-- what the marking leaves -/
def MarkedTn (w : World) (g n : Nat) (e : Ending) (w' : World) : Prop := e = .returned (.int .i64 (1 + ((n * 2 : Nat) : Int))) ∧ Flat w' g 99 (marksF (n * 2)) ∧ w.grownBy w' (some g)
set_option maxHeartbeats 2000000 in
theorem lmarkTn (g cap n : Nat) (zs : List Int) (w : World) (h : Flat w g 99 zs) (hl : zs.length = n * 2) (hn : n ≤ 1048576) :
    Calls Try.prog 65 #[.slice (some ⟨g, 0, none⟩) n cap, .int .i64 1] w (MarkedTn w g n) := by
  have H := Lib.hid h
  have HL := Lib.hid hl
  clear h hl
  go_enter Try.func65, Try.ntmps65
  go_wp2
  go_loopw [1, 5] (fun q i wr => ∃ k : Nat, k ≤ n ∧ i = .int .i64 k ∧ q = .int .i64 (1 + ((k * 2 : Nat) : Int)) ∧ Flat wr g 99 (markTo zs (k * 2)) ∧ w.grownBy wr (some g)) (fun _ i _ => n - (intOf i).toNat)
  case atStart => exact ⟨0, Nat.zero_le _, rfl, rfl, by rw [Nat.zero_mul, markTo_zero]; exact H.out, g_of (Below.refl _ _) _⟩
  case round =>
    obtain ⟨k, hk, rfl, rfl, hF, hG⟩ := hrel
    by_cases hlt : k < n
    · have hzl := HL.out
      have l0 := markTo_len (zs := zs) (j := k * 2) (by omega)
      have c0 := hF.cell (j := k * 2) (by omega)
      have c1 := hF.cell (j := k * 2 + 1) (by omega)
      have f0 := hF.frozen (k * 2)
      have f1 := hF.frozen (k * 2 + 1)
      have n1 := (hF.set_ (i := k * 2) (by omega) (1 + ((k * 2 : Nat) : Int)))
      rw [markTo_succ (by omega)] at n1
      have l1 := markTo_len (zs := zs) (j := k * 2 + 1) (by omega)
      have n2 := (n1.set_ (i := k * 2 + 1) (by omega) (1 + ((k * 2 + 1 : Nat) : Int)))
      rw [markTo_succ (by omega), show k * 2 + 1 + 1 = (k + 1) * 2 from by omega] at n2
      have e1 : (1 + ((k * 2 + 1 : Nat) : Int)) = 1 + ((k * 2 : Nat) : Int) + 1 := by omega
      have e2 : (1 + (((k + 1) * 2 : Nat) : Int)) = 1 + ((k * 2 : Nat) : Int) + 1 + 1 := by omega
      rw [e1] at n2
      have hq : ((k * 2 : Nat) : Int) ≤ 2097152 := by omega
      have hq0 : 0 ≤ ((k * 2 : Nat) : Int) := by omega
      generalize ((k * 2 : Nat) : Int) = q at n2 e2 hq hq0
      generalize (markTo zs (k * 2)).getD (k * 2) 0 = z0 at c0
      generalize (markTo zs (k * 2)).getD (k * 2 + 1) 0 = z1 at c1
      have HN := Lib.hid n2
      have HG := Lib.hid hG
      have H3 := Lib.hid e2
      clear n1 n2 e1 e2 l0 l1 hF hG hzl
      go_wp2_with fail
      go_roundw
      case rel => exact ⟨k + 1, by omega, by go_num, by rw [H3.out], HN.out, (g_set2 (g_set2 HG.out))⟩
      case measure => simp [intOf]; omega
    · obtain rfl : n = k := by omega
      have HF := Lib.hid hF
      have HG := Lib.hid hG
      clear hF hG
      go_wp2_with fail
      go_ret
      refine ⟨rfl, ?_, HG.out⟩
      have := HF.out
      rw [← HL.out, markTo_end, HL.out] at this
      exact this
theorem lmarkTn_nil (w : World) : Calls Try.prog 65 #[.slice none 0 0, .int .i64 1] w fun e w' => e = .returned (.int .i64 1) ∧ w = w' := by
  go_enter Try.func65, Try.ntmps65
  go_wp2
  go_rounds 1
  go_ret
  exact ⟨rfl, rfl⟩
theorem lheldTn_nil (w : World) : Calls Try.prog 68 #[.slice none 0 0, .int .i64 1] w fun e w' => e = .returned (.int .i64 1) ∧ w = w' := by
  go_enter Try.func68, Try.ntmps68
  go_wp2
  go_rounds 1
  go_ret
  exact ⟨rfl, rfl⟩
set_option maxHeartbeats 2000000 in
theorem lheldTn (g cap n : Nat) (w : World) (h : Flat w g 99 (marksF (n * 2))) (hn : n ≤ 1048576) :
    Calls Try.prog 68 #[.slice (some ⟨g, 0, none⟩) n cap, .int .i64 1] w fun e w' => e = .returned (.int .i64 (1 + ((n * 2 : Nat) : Int))) ∧ w = w' := by
  have H := Lib.hid h
  clear h
  go_enter Try.func68, Try.ntmps68
  go_wp2
  go_loop [1, 5] (fun q i => ∃ k : Nat, k ≤ n ∧ i = .int .i64 k ∧ q = .int .i64 (1 + ((k * 2 : Nat) : Int))) (fun _ i => n - (intOf i).toNat)
  case atStart => exact ⟨0, Nat.zero_le _, rfl, rfl⟩
  case round =>
    obtain ⟨k, hk, rfl, rfl⟩ := hrel
    by_cases hlt : k < n
    · have c0 := H.out.cell (j := k * 2) (by rw [marksF_len]; omega)
      have c1 := H.out.cell (j := k * 2 + 1) (by rw [marksF_len]; omega)
      rw [marksF_get _ (by omega)] at c0 c1
      rw [show (1 + ((k * 2 + 1 : Nat) : Int)) = 1 + ((k * 2 : Nat) : Int) + 1 from by omega] at c1
      have e3 : (1 + (((k + 1) * 2 : Nat) : Int)) = 1 + ((k * 2 : Nat) : Int) + 1 + 1 := by omega
      have hq : ((k * 2 : Nat) : Int) ≤ 2097152 := by omega
      have hq0 : 0 ≤ ((k * 2 : Nat) : Int) := by omega
      generalize ((k * 2 : Nat) : Int) = q at c0 c1 e3 hq hq0
      have H3 := Lib.hid e3
      clear e3
      go_wp2_with fail
      go_round
      case rel => exact ⟨k + 1, by omega, by go_num, by rw [H3.out]⟩
      case measure => simp [intOf]; omega
    · obtain rfl : n = k := by omega
      go_wp2_with fail
      go_ret
      exact ⟨rfl, rfl⟩
end Go.Proofs.Ytgmmdpdlekpmfaa
namespace Go.Proofs.Ytgmmdpdlekpmfaa
open Go.ChangeShapes Go.WideShapes Go.RowKit Go.Deep

abbrev Nd := Int × Int × Int × Int × Int
abbrev nd0 : Nd := (0, 0, 0, 0, 0)
/-- the numbers, one after the other -/
def flatNd : List Nd → List Int
  | [] => []
  | h :: t => h.1 :: h.2.1 :: h.2.2.1 :: h.2.2.2.1 :: h.2.2.2.2 :: flatNd t
theorem flatNd_len : ∀ xs : List Nd, (flatNd xs).length = xs.length * 5 := by
  intro xs
  induction xs with
  | nil => rfl
  | cons h t ih => show (flatNd t).length + 1 + 1 + 1 + 1 + 1 = (t.length + 1) * 5; rw [ih]; omega
theorem flatNd_append : ∀ a b : List Nd, flatNd (a ++ b) = flatNd a ++ flatNd b := by
  intro a b
  induction a with
  | nil => rfl
  | cons h t ih => show h.1 :: h.2.1 :: h.2.2.1 :: h.2.2.2.1 :: h.2.2.2.2 :: flatNd (t ++ b) = _; rw [ih]; rfl
theorem flatNd_get : ∀ (xs : List Nd) (k : Nat), k < xs.length → (flatNd xs).getD (k * 5) 0 = (xs.getD k nd0).1 ∧ (flatNd xs).getD (k * 5 + 1) 0 = (xs.getD k nd0).2.1 ∧ (flatNd xs).getD (k * 5 + 2) 0 = (xs.getD k nd0).2.2.1 ∧ (flatNd xs).getD (k * 5 + 3) 0 = (xs.getD k nd0).2.2.2.1 ∧ (flatNd xs).getD (k * 5 + 4) 0 = (xs.getD k nd0).2.2.2.2 := by
  intro xs
  induction xs with
  | nil => intro k h; simp at h
  | cons h t ih =>
    intro k hk
    cases k with
    | zero => exact ⟨rfl, rfl, rfl, rfl, rfl⟩
    | succ k =>
      have := ih k (by simpa using hk)
      rw [show (k + 1) * 5 = k * 5 + 1 + 1 + 1 + 1 + 1 from by omega]
      exact this
theorem flatNd_take (xs : List Nd) (k : Nat) : (flatNd xs).take (k * 5) = flatNd (xs.take k) := by
  induction xs generalizing k with
  | nil => simp [flatNd]
  | cons h t ih =>
    cases k with
    | zero => rfl
    | succ k =>
      rw [show (k + 1) * 5 = k * 5 + 1 + 1 + 1 + 1 + 1 from by omega]
      show h.1 :: h.2.1 :: h.2.2.1 :: h.2.2.2.1 :: h.2.2.2.2 :: (flatNd t).take (k * 5) = _
      rw [ih]; rfl
theorem flatNd_drop (xs : List Nd) (k : Nat) : (flatNd xs).drop (k * 5) = flatNd (xs.drop k) := by
  induction xs generalizing k with
  | nil => simp [flatNd]
  | cons h t ih =>
    cases k with
    | zero => rfl
    | succ k =>
      rw [show (k + 1) * 5 = k * 5 + 1 + 1 + 1 + 1 + 1 from by omega]
      show (flatNd t).drop (k * 5) = _
      rw [ih]; rfl
/-- Nodes xs, read through a slice at address a -/
def IsNd (w : World) (a : Option Addr) (xs : List Nd) : Prop := xs = [] ∨ ∃ g o, a = some ⟨g, o, none⟩ ∧ ∀ i, i < xs.length → w.cell? ⟨g, o + i * 5, none⟩ = some (.int .i64 (xs.getD i nd0).1) ∧ w.cell? ⟨g, o + i * 5 + 1, none⟩ = some (.int .i64 (xs.getD i nd0).2.1) ∧ w.cell? ⟨g, o + i * 5 + 2, none⟩ = some (.int .i64 (xs.getD i nd0).2.2.1) ∧ w.cell? ⟨g, o + i * 5 + 3, none⟩ = some (.int .i64 (xs.getD i nd0).2.2.2.1) ∧ w.cell? ⟨g, o + i * 5 + 4, none⟩ = some (.int .i64 (xs.getD i nd0).2.2.2.2)
theorem nd_below {w w' : World} {a : Option Addr} {xs : List Nd} (h : IsNd w a xs) (hB : Below w.heap.size w w') : IsNd w' a xs := by
  rcases h with h | ⟨g, o, ha, hc⟩
  · exact .inl h
  · refine .inr ⟨g, o, ha, fun i hi => ?_⟩
    obtain ⟨c0, c1, c2, c3, c4⟩ := hc i hi
    have kp : ∀ p v, w.cell? ⟨g, p, none⟩ = some v → w'.cell? ⟨g, p, none⟩ = some v := fun p v c => (hB.cell (p := ⟨g, p, none⟩) (World.block_lt_of_cell? w _ c)).trans c
    exact ⟨kp _ _ c0, kp _ _ c1, kp _ _ c2, kp _ _ c3, kp _ _ c4⟩
theorem nd_at {w wr : World} {g o : Nat} {xs : List Nd} (hc : ∀ i, i < xs.length → w.cell? ⟨g, o + i * 5, none⟩ = some (.int .i64 (xs.getD i nd0).1) ∧ w.cell? ⟨g, o + i * 5 + 1, none⟩ = some (.int .i64 (xs.getD i nd0).2.1) ∧ w.cell? ⟨g, o + i * 5 + 2, none⟩ = some (.int .i64 (xs.getD i nd0).2.2.1) ∧ w.cell? ⟨g, o + i * 5 + 3, none⟩ = some (.int .i64 (xs.getD i nd0).2.2.2.1) ∧ w.cell? ⟨g, o + i * 5 + 4, none⟩ = some (.int .i64 (xs.getD i nd0).2.2.2.2)) (hB : Below w.heap.size w wr) {k : Nat} (hk : k < xs.length) :
    wr.cell? ⟨g, o + k * 5, none⟩ = some (.int .i64 (xs.getD k nd0).1) ∧ wr.cell? ⟨g, o + k * 5 + 1, none⟩ = some (.int .i64 (xs.getD k nd0).2.1) ∧ wr.cell? ⟨g, o + k * 5 + 2, none⟩ = some (.int .i64 (xs.getD k nd0).2.2.1) ∧ wr.cell? ⟨g, o + k * 5 + 3, none⟩ = some (.int .i64 (xs.getD k nd0).2.2.2.1) ∧ wr.cell? ⟨g, o + k * 5 + 4, none⟩ = some (.int .i64 (xs.getD k nd0).2.2.2.2) := by
  obtain ⟨c0, c1, c2, c3, c4⟩ := hc k hk
  have kp : ∀ p v, w.cell? ⟨g, p, none⟩ = some v → wr.cell? ⟨g, p, none⟩ = some v := fun p v c => (hB.cell (p := ⟨g, p, none⟩) (World.block_lt_of_cell? w _ c)).trans c
  exact ⟨kp _ _ c0, kp _ _ c1, kp _ _ c2, kp _ _ c3, kp _ _ c4⟩
theorem Flat.nd {w : World} {g : Nat} {t : TypeId} {xs : List Nd} (h : Flat w g t (flatNd xs)) : IsNd w (some ⟨g, 0, none⟩) xs := by
  refine .inr ⟨g, 0, rfl, fun i hi => ?_⟩
  obtain ⟨a0, a1, a2, a3, a4⟩ := flatNd_get xs i hi
  have hl := flatNd_len xs
  rw [Nat.zero_add]
  exact ⟨by rw [h.cell (by omega), a0], by rw [h.cell (by omega), a1], by rw [h.cell (by omega), a2], by rw [h.cell (by omega), a3], by rw [h.cell (by omega), a4]⟩
theorem nd_take {w : World} {g o : Nat} {xs : List Nd} (hc : ∀ i, i < xs.length → w.cell? ⟨g, o + i * 5, none⟩ = some (.int .i64 (xs.getD i nd0).1) ∧ w.cell? ⟨g, o + i * 5 + 1, none⟩ = some (.int .i64 (xs.getD i nd0).2.1) ∧ w.cell? ⟨g, o + i * 5 + 2, none⟩ = some (.int .i64 (xs.getD i nd0).2.2.1) ∧ w.cell? ⟨g, o + i * 5 + 3, none⟩ = some (.int .i64 (xs.getD i nd0).2.2.2.1) ∧ w.cell? ⟨g, o + i * 5 + 4, none⟩ = some (.int .i64 (xs.getD i nd0).2.2.2.2)) (k : Nat) : IsNd w (some ⟨g, o, none⟩) (xs.take k) := by
  refine .inr ⟨g, o, rfl, fun i hi => ?_⟩
  rw [List.length_take] at hi
  have e : (xs.take k).getD i nd0 = xs.getD i nd0 := by
    rw [List.getD_eq_getElem?_getD, List.getD_eq_getElem?_getD, List.getElem?_take_of_lt (by omega)]
  rw [e]; exact hc i (by omega)
/-- the cells -/
def valsNd (xs : List Nd) : List Value := (flatNd xs).map (Value.int .i64)
theorem valsNd_len (xs : List Nd) : (valsNd xs).length = xs.length * 5 := by unfold valsNd; rw [List.length_map, flatNd_len]
theorem valsNd_append (a b : List Nd) : valsNd (a ++ b) = valsNd a ++ valsNd b := by unfold valsNd; rw [flatNd_append, List.map_append]
theorem valsNd_one (xs : List Nd) : ∀ u ∈ valsNd xs, u.oneCell' = true := fun u hu => by
  unfold valsNd at hu
  obtain ⟨z, _, rfl⟩ := List.mem_map.1 hu
  rfl
theorem valsNd_get {xs : List Nd} {k : Nat} (h : k < xs.length) : (valsNd xs)[k * 5]? = some (.int .i64 (xs.getD k nd0).1) ∧ (valsNd xs)[k * 5 + 1]? = some (.int .i64 (xs.getD k nd0).2.1) ∧ (valsNd xs)[k * 5 + 2]? = some (.int .i64 (xs.getD k nd0).2.2.1) ∧ (valsNd xs)[k * 5 + 3]? = some (.int .i64 (xs.getD k nd0).2.2.2.1) ∧ (valsNd xs)[k * 5 + 4]? = some (.int .i64 (xs.getD k nd0).2.2.2.2) := by
  obtain ⟨a0, a1, a2, a3, a4⟩ := flatNd_get xs k h
  have hl := flatNd_len xs
  have get : ∀ j, j < (flatNd xs).length → (valsNd xs)[j]? = some (.int .i64 ((flatNd xs).getD j 0)) := fun j hj => by
    unfold valsNd
    rw [List.getElem?_map, List.getElem?_eq_getElem hj, List.getD_eq_getElem?_getD, List.getElem?_eq_getElem hj]; rfl
  rw [get _ (by omega), get _ (by omega), get _ (by omega), get _ (by omega), get _ (by omega), a0, a1, a2, a3, a4]
  exact ⟨rfl, rfl, rfl, rfl, rfl⟩
theorem nd_reads {w : World} {a : Option Addr} {xs : List Nd} (h : IsNd w a xs) : Reads w w.heap.size 5 a xs.length (valsNd xs) := by
  refine ⟨valsNd_len xs, fun hn => ?_⟩
  rcases h with rfl | ⟨g, o, rfl, hc⟩
  · exact absurd hn (by simp)
  · refine ⟨⟨g, o, none⟩, rfl, ?_, fun j u hu => ?_⟩
    · exact World.block_lt_of_cell? w _ (hc 0 hn).1
    · have hl := valsNd_len xs
      have hj : j < (valsNd xs).length := by
        rcases Nat.lt_or_ge j (valsNd xs).length with h | h
        · exact h
        · rw [List.getElem?_eq_none h] at hu; cases hu
      have hk : j / 5 < xs.length := by omega
      obtain ⟨c0, c1, c2, c3, c4⟩ := hc _ hk
      obtain ⟨v0, v1, v2, v3, v4⟩ := valsNd_get hk
      have hm : j % 5 = 0 ∨ j % 5 = 1 ∨ j % 5 = 2 ∨ j % 5 = 3 ∨ j % 5 = 4 := by omega
      rw [add_off]
      rcases hm with e | e | e | e | e
      · have ej : j = j / 5 * 5 := by omega
        rw [ej] at hu ⊢; rw [v0] at hu; rw [c0, ← hu]
      · have ej : j = j / 5 * 5 + 1 := by omega
        rw [ej] at hu ⊢; rw [v1] at hu; rw [← Nat.add_assoc, c1, ← hu]
      · have ej : j = j / 5 * 5 + 2 := by omega
        rw [ej] at hu ⊢; rw [v2] at hu; rw [← Nat.add_assoc, c2, ← hu]
      · have ej : j = j / 5 * 5 + 3 := by omega
        rw [ej] at hu ⊢; rw [v3] at hu; rw [← Nat.add_assoc, c3, ← hu]
      · have ej : j = j / 5 * 5 + 4 := by omega
        rw [ej] at hu ⊢; rw [v4] at hu; rw [← Nat.add_assoc, c4, ← hu]
theorem reads_nd {w : World} {B : Nat} {a : Option Addr} {xs : List Nd} (h : Reads w B 5 a xs.length (valsNd xs)) (hsp : ∀ ad, a = some ad → ad.spot = none) : IsNd w a xs := by
  by_cases hn : xs = []
  · exact .inl hn
  · obtain ⟨ad, rfl, _, hc⟩ := h.2 (by cases xs with | nil => exact absurd rfl hn | cons _ _ => simp)
    obtain ⟨g, o, sp⟩ := ad
    obtain rfl : sp = none := hsp _ rfl
    refine .inr ⟨g, o, rfl, fun i hi => ?_⟩
    obtain ⟨v0, v1, v2, v3, v4⟩ := valsNd_get hi
    have e0 := hc _ _ v0
    have e1 := hc _ _ v1
    have e2 := hc _ _ v2
    have e3 := hc _ _ v3
    have e4 := hc _ _ v4
    rw [add_off] at e0 e1 e2 e3 e4
    rw [← Nat.add_assoc] at e1 e2 e3 e4
    exact ⟨e0, e1, e2, e3, e4⟩
theorem infoNd : (Try.prog.info? 101).map (fun i => (i.zero, i.size, i.bytes)) = some (some (.agg #[.int .i64 0, .int .i64 0, .int .i64 0, .int .i64 0, .int .i64 0]), 5, 40) := by kernel_rfl
/-- a row of the call's own that holds xs -/
def OwnNd (w : World) (base : Nat) (v : Value) (xs : List Nd) : Prop := w.ownsRow base 101 5 v xs.length (valsNd xs)
theorem own_nd {w : World} {base : Nat} {v : Value} {xs : List Nd} (h : OwnNd w base v xs) : ∃ (b : Option Addr) (cap : Nat), v = .slice b xs.length cap ∧ IsNd w b xs := by
  have h0 := h
  rcases h.2 with ⟨hv, hn⟩ | ⟨g, cap, cur, hv, _⟩
  · exact ⟨none, 0, by rw [hv, hn], .inl (List.eq_nil_of_length_eq_zero hn)⟩
  · subst hv
    exact ⟨some ⟨g, 0, none⟩, cap, rfl, reads_nd (Reads.of_own h0) (fun ad e => by injection e with e; rw [← e])⟩

/-- a slice of Nodes that came in -/
def NdIn (w : World) (a : Option Addr) (len cap : Nat) (xs : List Nd) : Prop := xs.length = len ∧ IsNd w a xs ∧ len ≤ cap ∧ cap ≤ maxLen
theorem trod_struct5 {H : Type} {enc : TypeId × Value → H} {w : World} {base : Nat} {spare : Nat → Bool} {held : Bool} {t : TypeId} {f0 f1 f2 f3 f4 : Field} {fuel : Nat} {cs : List Value} {x : DataW H × List MemPlace} (ht : Try.prog.underlying t = some (.struct #[f0, f1, f2, f3, f4])) (h : DataW.trod enc Try.prog w base spare held fuel t cs = some x) :
    ∃ y0 y1 y2 y3 y4 n, cs.length = Try.prog.cellsOf t ∧ DataW.trod enc Try.prog w base spare held n f0.type ((cs.drop f0.offset).take (Try.prog.cellsOf f0.type)) = some y0 ∧
      DataW.trod enc Try.prog w base spare held n f1.type ((cs.drop f1.offset).take (Try.prog.cellsOf f1.type)) = some y1 ∧ DataW.trod enc Try.prog w base spare held n f2.type ((cs.drop f2.offset).take (Try.prog.cellsOf f2.type)) = some y2 ∧
      DataW.trod enc Try.prog w base spare held n f3.type ((cs.drop f3.offset).take (Try.prog.cellsOf f3.type)) = some y3 ∧ DataW.trod enc Try.prog w base spare held n f4.type ((cs.drop f4.offset).take (Try.prog.cellsOf f4.type)) = some y4 := by
  obtain ⟨xs, n, _, rfl, hl, hlen, hf⟩ := DataW.trod_struct ht h
  match xs, hlen with
  | [y0, y1, y2, y3, y4], _ => exact ⟨y0, y1, y2, y3, y4, n, hl, by simpa using hf 0 f0 rfl, by simpa using hf 1 f1 rfl, by simpa using hf 2 f2 rfl, by simpa using hf 3 f3 rfl, by simpa using hf 4 f4 rfl⟩
set_option maxRecDepth 100000 in
theorem open_nd {H : Type} {enc : TypeId × Value → H} {w : World} {base : Nat} {spare : Nat → Bool} {held : Bool} {fuel : Nat} {cs : List Value} {x : DataW H × List MemPlace} (h : DataW.trod enc Try.prog w base spare held fuel 131 cs = some x) : ∃ x0 x1 x2 x3 x4 : Int, cs = [.int .i64 x0, .int .i64 x1, .int .i64 x2, .int .i64 x3, .int .i64 x4] := by
  obtain ⟨y0, y1, y2, y3, y4, n', hl, h0, h1, h2, h3, h4⟩ := trod_struct5 Try.underlying131 h
  obtain ⟨x0, e0, _, _⟩ := DataW.trod_int Try.underlying3 h0
  obtain ⟨x1, e1, _, _⟩ := DataW.trod_int Try.underlying3 h1
  obtain ⟨x2, e2, _, _⟩ := DataW.trod_int Try.underlying3 h2
  obtain ⟨x3, e3, _, _⟩ := DataW.trod_int Try.underlying3 h3
  obtain ⟨x4, e4, _, _⟩ := DataW.trod_int Try.underlying3 h4
  have hc : Try.prog.cellsOf 131 = 5 := by kernel_rfl
  have hi : Try.prog.cellsOf 3 = 1 := by kernel_rfl
  have hl := hl.trans hc
  dsimp only at e0 e1 e2 e3 e4
  rw [hi] at e0 e1 e2 e3 e4
  match cs, hl with
  | [a0, a1, a2, a3, a4], _ =>
    refine ⟨x0, x1, x2, x3, x4, ?_⟩
    simp at e0 e1 e2 e3 e4
    rw [e0, e1, e2, e3, e4]
set_option maxRecDepth 100000 in
theorem open_nds {H : Type} {enc : TypeId × Value → H} {w : World} {base : Nat} {spare : Nat → Bool} {held : Bool} {fuel : Nat} {a : Option Addr} {len cap : Nat} {x : DataW H × List MemPlace} (h : DataW.trod enc Try.prog w base spare held fuel 24 [.slice a len cap] = some x) : ∃ xs, NdIn w a len cap xs := by
  rcases open_slice Try.underlying24 h with ⟨hcs, _⟩ | ⟨ad, l, c, m, n', D, Pl, hcs, hb, hl, hm, hmm, hx, hi⟩
  · simp at hcs
    obtain ⟨rfl, rfl, rfl⟩ := hcs
    exact ⟨[], rfl, .inl rfl, Nat.le_refl _, Nat.zero_le _⟩
  · simp at hcs
    obtain ⟨rfl, rfl, rfl⟩ := hcs
    have hc : Try.prog.cellsOf 131 = 5 := by kernel_rfl
    have hmn : len ≤ m := by rw [hmm]; split <;> omega
    have each : ∀ i, i < len → ∃ z : Nd, w.cell? (ad.add (i * 5)) = some (.int .i64 z.1) ∧ w.cell? (ad.add (i * 5 + 1)) = some (.int .i64 z.2.1) ∧ w.cell? (ad.add (i * 5 + 2)) = some (.int .i64 z.2.2.1) ∧ w.cell? (ad.add (i * 5 + 3)) = some (.int .i64 z.2.2.2.1) ∧ w.cell? (ad.add (i * 5 + 4)) = some (.int .i64 z.2.2.2.2) := fun i hin => by
      obtain ⟨cs', h1, h2⟩ := hi i (by omega)
      obtain ⟨x0, x1, x2, x3, x4, rfl⟩ := open_nd h2
      rw [hc] at h1
      obtain ⟨_, _, hat⟩ := World.cells?_some h1
      have a0 := hat 0 (by omega)
      have a1 := hat 1 (by omega)
      have a2 := hat 2 (by omega)
      have a3 := hat 3 (by omega)
      have a4 := hat 4 (by omega)
      rw [add_add] at a0 a1 a2 a3 a4
      exact ⟨(x0, x1, x2, x3, x4), a0, a1, a2, a3, a4⟩
    obtain ⟨f, hf⟩ : ∃ f : Nat → Nd, ∀ i, i < len → w.cell? (ad.add (i * 5)) = some (.int .i64 (f i).1) ∧ w.cell? (ad.add (i * 5 + 1)) = some (.int .i64 (f i).2.1) ∧ w.cell? (ad.add (i * 5 + 2)) = some (.int .i64 (f i).2.2.1) ∧ w.cell? (ad.add (i * 5 + 3)) = some (.int .i64 (f i).2.2.2.1) ∧ w.cell? (ad.add (i * 5 + 4)) = some (.int .i64 (f i).2.2.2.2) :=
      ⟨fun i => if hh : i < len then Classical.choose (each i hh) else nd0, fun i hh => by simp only [dif_pos hh]; exact Classical.choose_spec (each i hh)⟩
    refine ⟨(List.range len).map f, by simp, ?_, hl, hm⟩
    by_cases h0 : len = 0
    · subst h0; exact .inl rfl
    · obtain ⟨b, off, spot⟩ := ad
      have hsp := (hf 0 (by omega)).1
      have hspot : spot = none := by simpa [Addr.add] using World.cell?_spot hsp
      subst hspot
      refine .inr ⟨b, off, rfl, fun i hin => ?_⟩
      have hin' : i < len := by simpa using hin
      have e : ((List.range len).map f).getD i nd0 = f i := by
        rw [List.getD_eq_getElem?_getD, List.getElem?_map, List.getElem?_range hin']; rfl
      obtain ⟨q0, q1, q2, q3, q4⟩ := hf i hin'
      rw [add_off] at q0 q1 q2 q3 q4
      rw [e]
      exact ⟨q0, by rw [Nat.add_assoc]; exact q1, by rw [Nat.add_assoc]; exact q2, by rw [Nat.add_assoc]; exact q3, by rw [Nat.add_assoc]; exact q4⟩
end Go.Proofs.Ytgmmdpdlekpmfaa
namespace Go.Proofs.Ytgmmdpdlekpmfaa
open Go.RowKit

theorem lszNd (a : Option Addr) (n cap : Nat) (w : World) (hn : n ≤ 1048576) :
    Calls Try.prog 43 #[.slice a n cap, .int .i64 1048576] w fun e w' => e = .returned (.int .i64 (1048576 - (n : Int))) ∧ w = w' := by
  go_enter Try.func43, Try.ntmps43
  go_wp2
  go_ret
  exact ⟨rfl, rfl⟩
theorem lszNd_no (a : Option Addr) (n cap : Nat) (w : World) (h : 1048576 < n) (hn : n ≤ 9223372036854775807) :
    Calls Try.prog 43 #[.slice a n cap, .int .i64 1048576] w fun e w' => e = .returned (.int .i64 (-1)) ∧ w = w' := by
  go_enter Try.func43, Try.ntmps43
  go_wp2
  go_ret
  exact ⟨rfl, rfl⟩

theorem ltoNd1 (x0 x1 x2 x3 x4 : Int) (w : World) :
    Calls Try.prog 99 #[.agg #[.int .i64 x0, .int .i64 x1, .int .i64 x2, .int .i64 x3, .int .i64 x4]] w fun e w' => e = .returned (.agg #[.int .i64 x0, .int .i64 x1, .int .i64 x2, .int .i64 x3, .int .i64 x4]) ∧ Below w.heap.size w w' := by
  go_enter Try.func99, Try.ntmps99
  go_wp2
  refine bodyPost_ret (v := .agg #[.int .i64 x0, .int .i64 x1, .int .i64 x2, .int .i64 x3, .int .i64 x4]) (by simp [results, Try.results99, go_sem]) rfl ⟨rfl, by go_grown⟩

theorem leqNd1 (x0 x1 x2 x3 x4 : Int) (w : World) :
    Calls Try.prog 105 #[.agg #[.int .i64 x0, .int .i64 x1, .int .i64 x2, .int .i64 x3, .int .i64 x4], .agg #[.int .i64 x0, .int .i64 x1, .int .i64 x2, .int .i64 x3, .int .i64 x4]] w fun e w' => e = .returned (.bool true) ∧ Below w.heap.size w w' := by
  go_enter Try.func105, Try.ntmps105
  go_wp2
  go_ret
  exact ⟨rfl, by go_grown⟩

/-- what the copy leaves -/
def CopiedNd (w : World) (xs : List Nd) (e : Ending) (w' : World) : Prop := ∃ g : Nat, e = .returned (.slice (some ⟨g, 0, none⟩) xs.length xs.length) ∧ w.heap.size ≤ g ∧ Flat w' g 101 (flatNd xs) ∧ Below w.heap.size w w'
theorem madeNd (w : World) (n : Nat) (t : TypeId) : (w.alloc (.cells (madeCells #[.int .i64 0, .int .i64 0, .int .i64 0, .int .i64 0, .int .i64 0] n) t)).rowIs w.heap.size t n (fun _ => .int .i64 0) := by
  have hs : (madeCells #[Value.int .i64 0, .int .i64 0, .int .i64 0, .int .i64 0, .int .i64 0] n).size = n := by unfold madeCells; simp
  refine ⟨_, heap_alloc_new w _, hs, fun i hi => ?_⟩
  have hm : i % 5 = 0 ∨ i % 5 = 1 ∨ i % 5 = 2 ∨ i % 5 = 3 ∨ i % 5 = 4 := by omega
  unfold madeCells
  rw [Array.getElem?_map, Array.getElem?_range, if_pos hi]
  show some ((#[Value.int .i64 0, .int .i64 0, .int .i64 0, .int .i64 0, .int .i64 0] : Array Value)[i % 5]!) = _
  rcases hm with h | h | h | h | h <;> rw [h] <;> rfl
theorem run_makeNd (n : Nat) (hn : n ≤ 1048576) (w : World) : (Instr.makeSlice 34 (.int .i64 (n : Int)) (.int .i64 (n : Int))).run Try.prog w = .ok (.slice (some ⟨w.heap.size, 0, none⟩) n n) (w.alloc (.cells (madeCells #[.int .i64 0, .int .i64 0, .int .i64 0, .int .i64 0, .int .i64 0] (n * 5)) 101)) := by
  obtain ⟨i0, hi0, hz0, hz1, hz2⟩ := info_parts infoNd
  have := run_make (P := Try.prog) w 34 101 i0 _ Try.underlying34 hi0 hz0 .i64 .i64 (n : Int) (n : Int) (by omega) (by omega) (by rw [hz2]; omega) (by omega)
  simp only [Int.toNat_natCast, hz1] at this
  exact this

set_option maxHeartbeats 2000000 in
theorem ltoNd (a : Option Addr) (cap : Nat) (xs : List Nd) (w : World) (h : IsNd w a xs) (hn : xs.length ≤ 1048576) :
    Calls Try.prog 47 #[.slice a xs.length cap] w (CopiedNd w xs) := by
  rcases h with rfl | ⟨g, o, rfl, hc⟩
  · have hmk : ∀ W : World, (Instr.makeSlice 34 (.int .i64 0) (.int .i64 0)).run Try.prog W = .ok (.slice (some ⟨W.heap.size, 0, none⟩) 0 0) (W.alloc (.cells (madeCells #[.int .i64 0, .int .i64 0, .int .i64 0, .int .i64 0, .int .i64 0] 0) 101)) := fun W => run_makeNd 0 (by omega) W
    go_enter Try.func47, Try.ntmps47
    go_wp2
    go_rounds 1
    go_ret
    exact ⟨_, rfl, Nat.le_refl _, Flat.row (madeNd w 0 _) (by simp [flatNd]) (fun j hj => by simp [flatNd] at hj), by go_grown⟩
  · have hmk := run_makeNd xs.length hn
    have HC := Lib.hid hc
    clear hc
    go_enter Try.func47, Try.ntmps47
    go_wp2
    clear hmk
    go_loopw [4] (fun i wr => ∃ k : Nat, k ≤ xs.length ∧ i = .int .i64 k ∧ wr.rowIs w.heap.size 101 (xs.length * 5) (fun j => if j < k * 5 then .int .i64 ((flatNd xs).getD j 0) else .int .i64 0) ∧ Below w.heap.size w wr) (fun i _ => xs.length - (intOf i).toNat)
    case atStart => exact ⟨0, Nat.zero_le _, rfl, (madeNd w (xs.length * 5) _).congr (fun i hi => by simp), by go_grown⟩
    case round =>
      obtain ⟨k, hk, rfl, hrow, hB⟩ := hrel
      by_cases hlt : k < xs.length
      · obtain ⟨c0, c1, c2, c3, c4⟩ := nd_at HC.out hB hlt
        obtain ⟨g0, g1, g2, g3, g4⟩ := flatNd_get xs k hlt
        have hd : ∀ j, k * 5 ≤ j → j < xs.length * 5 → wr.cell? ⟨w.heap.size, j, none⟩ = some (.int .i64 0) := fun j h0 h1 => by rw [hrow.cell h1, if_neg (by omega)]
        have d0 := hd (k * 5) (by omega) (by omega)
        have d1 := hd (k * 5 + 1) (by omega) (by omega)
        have d2 := hd (k * 5 + 2) (by omega) (by omega)
        have d3 := hd (k * 5 + 3) (by omega) (by omega)
        have d4 := hd (k * 5 + 4) (by omega) (by omega)
        have hcon : ∀ x0 x1 x2 x3 x4 : Int, (flatNd xs).getD (k * 5) 0 = x0 → (flatNd xs).getD (k * 5 + 1) 0 = x1 → (flatNd xs).getD (k * 5 + 2) 0 = x2 → (flatNd xs).getD (k * 5 + 3) 0 = x3 → (flatNd xs).getD (k * 5 + 4) 0 = x4 → ∀ W : World, W.heap[w.heap.size]? = wr.heap[w.heap.size]? →
            (((((W.setCell ⟨w.heap.size, k * 5, none⟩ (.int .i64 x0)).setCell ⟨w.heap.size, k * 5 + 1, none⟩ (.int .i64 x1)).setCell ⟨w.heap.size, k * 5 + 2, none⟩ (.int .i64 x2)).setCell ⟨w.heap.size, k * 5 + 3, none⟩ (.int .i64 x3)).setCell ⟨w.heap.size, k * 5 + 4, none⟩ (.int .i64 x4)).rowIs w.heap.size 101 (xs.length * 5) (fun j => if j < (k + 1) * 5 then .int .i64 ((flatNd xs).getD j 0) else .int .i64 0) := fun x0 x1 x2 x3 x4 e0 e1 e2 e3 e4 W hW => by
          have hrow' := World.rowIs.of_block hrow hW
          refine (((((hrow'.set (k * 5) (.int .i64 x0)).set (k * 5 + 1) (.int .i64 x1)).set (k * 5 + 2) (.int .i64 x2)).set (k * 5 + 3) (.int .i64 x3)).set (k * 5 + 4) (.int .i64 x4)).congr (fun j hj => ?_)
          show (if j = k * 5 + 4 then Value.int .i64 x4 else if j = k * 5 + 3 then .int .i64 x3 else if j = k * 5 + 2 then .int .i64 x2 else if j = k * 5 + 1 then .int .i64 x1 else if j = k * 5 then .int .i64 x0 else if j < k * 5 then .int .i64 ((flatNd xs).getD j 0) else .int .i64 0) = _
          by_cases a4 : j = k * 5 + 4
          · rw [if_pos a4, if_pos (by omega), a4, e4]
          rw [if_neg a4]
          by_cases a3 : j = k * 5 + 3
          · rw [if_pos a3, if_pos (by omega), a3, e3]
          rw [if_neg a3]
          by_cases a2 : j = k * 5 + 2
          · rw [if_pos a2, if_pos (by omega), a2, e2]
          rw [if_neg a2]
          by_cases a1 : j = k * 5 + 1
          · rw [if_pos a1, if_pos (by omega), a1, e1]
          rw [if_neg a1]
          by_cases a0 : j = k * 5
          · rw [if_pos a0, if_pos (by omega), a0, e0]
          rw [if_neg a0]
          by_cases al : j < k * 5
          · rw [if_pos al, if_pos (by omega)]
          · rw [if_neg al, if_neg (by omega)]
        have hcon2 := hcon _ _ _ _ _ g0 g1 g2 g3 g4
        have hfr := hrow.frozen
        have hlw := World.rowIs.lt hrow
        clear hcon hd g0 g1 g2 g3 g4
        generalize xs.getD k nd0 = hh at c0 c1 c2 c3 c4 hcon2
        obtain ⟨x0, x1, x2, x3, x4⟩ := hh
        dsimp only at c0 c1 c2 c3 c4 hcon2
        have HR := Lib.hid hcon2
        have HB := Lib.hid hB
        have HF := Lib.hid hfr
        clear hcon2 hrow hB hfr
        go_wp2_with fail
        refine (ltoNd1 x0 x1 x2 x3 x4 _).mono ?_
        rintro e w1 ⟨rfl, hb⟩
        have hB1 := bel_tr HB.out hb
        have hblk := hb.block w.heap.size hlw
        have e0 := (hb.cell (p := ⟨w.heap.size, k * 5, none⟩) hlw).trans d0
        have e1 := (hb.cell (p := ⟨w.heap.size, k * 5 + 1, none⟩) hlw).trans d1
        have e2 := (hb.cell (p := ⟨w.heap.size, k * 5 + 2, none⟩) hlw).trans d2
        have e3 := (hb.cell (p := ⟨w.heap.size, k * 5 + 3, none⟩) hlw).trans d3
        have e4 := (hb.cell (p := ⟨w.heap.size, k * 5 + 4, none⟩) hlw).trans d4
        have f0 := (hb.frozen (p := ⟨w.heap.size, k * 5, none⟩) hlw).trans (HF.out _)
        have f1 := (hb.frozen (p := ⟨w.heap.size, k * 5 + 1, none⟩) hlw).trans (HF.out _)
        have f2 := (hb.frozen (p := ⟨w.heap.size, k * 5 + 2, none⟩) hlw).trans (HF.out _)
        have f3 := (hb.frozen (p := ⟨w.heap.size, k * 5 + 3, none⟩) hlw).trans (HF.out _)
        have f4 := (hb.frozen (p := ⟨w.heap.size, k * 5 + 4, none⟩) hlw).trans (HF.out _)
        clear hb d0 d1 d2 d3 d4 c0 c1 c2 c3 c4
        go_wp2_with fail
        go_roundw
        case rel => exact ⟨k + 1, by omega, by go_num, HR.out w1 hblk, (((((hB1.setCell (Nat.le_refl _) _).setCell (Nat.le_refl _) _).setCell (Nat.le_refl _) _).setCell (Nat.le_refl _) _).setCell (Nat.le_refl _) _)⟩
        case measure => simp [intOf]; omega
      · have HR := Lib.hid hrow
        have HB := Lib.hid hB
        clear hrow hB
        go_wp2
        go_ret
        have hl := flatNd_len xs
        exact ⟨_, rfl, Nat.le_refl _, Flat.row HR.out (by omega) (fun j hj => by rw [if_pos (by omega)]), HB.out⟩

theorem keepNd {w w' : World} {p0 p1 p2 p3 p4 p5 p6 p7 p8 p9 : Addr} {u0 u1 u2 u3 u4 u5 u6 u7 u8 u9 : Value} (hb : Below w.heap.size w w') (h : w.cell? p0 = some u0 ∧ w.cell? p1 = some u1 ∧ w.cell? p2 = some u2 ∧ w.cell? p3 = some u3 ∧ w.cell? p4 = some u4 ∧ w.cell? p5 = some u5 ∧ w.cell? p6 = some u6 ∧ w.cell? p7 = some u7 ∧ w.cell? p8 = some u8 ∧ w.cell? p9 = some u9) : w'.cell? p0 = some u0 ∧ w'.cell? p1 = some u1 ∧ w'.cell? p2 = some u2 ∧ w'.cell? p3 = some u3 ∧ w'.cell? p4 = some u4 ∧ w'.cell? p5 = some u5 ∧ w'.cell? p6 = some u6 ∧ w'.cell? p7 = some u7 ∧ w'.cell? p8 = some u8 ∧ w'.cell? p9 = some u9 := by
  have n : ∀ {p : Addr} {v : Value}, w.cell? p = some v → w'.cell? p = some v := fun h => (hb.cell (World.block_lt_of_cell? w _ h)).trans h
  obtain ⟨h0, h1, h2, h3, h4, h5, h6, h7, h8, h9⟩ := h
  exact ⟨n h0, n h1, n h2, n h3, n h4, n h5, n h6, n h7, n h8, n h9⟩

set_option maxHeartbeats 2000000 in
/-- the comparison of two readings of the same -/
theorem leqNd (a b : Option Addr) (ca cb : Nat) (xs : List Nd) (w : World) (ha : IsNd w a xs) (hb : IsNd w b xs) (hn : xs.length ≤ 1048576) :
    Calls Try.prog 58 #[.slice a xs.length ca, .slice b xs.length cb] w fun e w' => e = .returned (.bool true) ∧ Below w.heap.size w w' := by
  rcases ha with rfl | ⟨g, o, rfl, hc⟩
  · go_enter Try.func58, Try.ntmps58
    go_wp2
    go_rounds 1
    go_ret
    exact ⟨rfl, by go_grown⟩
  · rcases hb with rfl | ⟨g2, o2, rfl, hc2⟩
    · go_enter Try.func58, Try.ntmps58
      go_wp2
      go_rounds 1
      go_ret
      exact ⟨rfl, by go_grown⟩
    · have HC := Lib.hid hc
      have HD := Lib.hid hc2
      clear hc hc2
      go_enter Try.func58, Try.ntmps58
      go_wp2
      go_loopw [5] (fun i wr => ∃ k : Nat, k ≤ xs.length ∧ i = .int .i64 k ∧ Below w.heap.size w wr) (fun i _ => xs.length - (intOf i).toNat)
      case atStart => exact ⟨0, Nat.zero_le _, rfl, by go_grown⟩
      case round =>
        obtain ⟨k, hk, rfl, hB⟩ := hrel
        by_cases hlt : k < xs.length
        · obtain ⟨c0, c1, c2, c3, c4⟩ := nd_at HC.out hB hlt
          obtain ⟨d0, d1, d2, d3, d4⟩ := nd_at HD.out hB hlt
          generalize xs.getD k nd0 = hh at c0 c1 c2 c3 c4 d0 d1 d2 d3 d4
          obtain ⟨x0, x1, x2, x3, x4⟩ := hh
          dsimp only at c0 c1 c2 c3 c4 d0 d1 d2 d3 d4
          have HB := Lib.hid hB
          clear hB
          have i0 : (0 : Int) ≤ (k : Int) := by omega
          have i1 : (k : Int) < (xs.length : Int) := by omega
          go_wp2_with fail
          go_region_held3 (fun w' => w'.cell? ⟨g, o + k * 5, none⟩ = some (.int .i64 x0) ∧ w'.cell? ⟨g, o + k * 5 + 1, none⟩ = some (.int .i64 x1) ∧ w'.cell? ⟨g, o + k * 5 + 2, none⟩ = some (.int .i64 x2) ∧ w'.cell? ⟨g, o + k * 5 + 3, none⟩ = some (.int .i64 x3) ∧ w'.cell? ⟨g, o + k * 5 + 4, none⟩ = some (.int .i64 x4) ∧ w'.cell? ⟨g2, o2 + k * 5, none⟩ = some (.int .i64 x0) ∧ w'.cell? ⟨g2, o2 + k * 5 + 1, none⟩ = some (.int .i64 x1) ∧ w'.cell? ⟨g2, o2 + k * 5 + 2, none⟩ = some (.int .i64 x2) ∧ w'.cell? ⟨g2, o2 + k * 5 + 3, none⟩ = some (.int .i64 x3) ∧ w'.cell? ⟨g2, o2 + k * 5 + 4, none⟩ = some (.int .i64 x4)) (first | (exact keepNd (by assumption) (by assumption)) | (refine ⟨?_, ?_, ?_, ?_, ?_, ?_, ?_, ?_, ?_, ?_⟩ <;> (go_keep; done))) (first | (go_at_call 105; refine (leqNd1 x0 x1 x2 x3 x4 _).mono ?_; rintro e w3 ⟨rfl, hb⟩))
          go_wp2_with fail
          go_roundw
          case rel => exact ⟨k + 1, by omega, by go_num, bel_tr HB.out.drew hb⟩
          case measure => simp [intOf]; omega
        · go_wp2
          go_ret
          exact ⟨rfl, hB⟩

/-- what the marking leaves -/
def MarkedNd (w : World) (g n : Nat) (e : Ending) (w' : World) : Prop := e = .returned (.int .i64 (1 + ((n * 5 : Nat) : Int))) ∧ Flat w' g 101 (marksF (n * 5)) ∧ w.grownBy w' (some g)
set_option maxHeartbeats 2000000 in
theorem lmarkNd (g cap n : Nat) (zs : List Int) (w : World) (h : Flat w g 101 zs) (hl : zs.length = n * 5) (hn : n ≤ 1048576) :
    Calls Try.prog 66 #[.slice (some ⟨g, 0, none⟩) n cap, .int .i64 1] w (MarkedNd w g n) := by
  have H := Lib.hid h
  have HL := Lib.hid hl
  clear h hl
  go_enter Try.func66, Try.ntmps66
  go_wp2
  go_loopw [1, 5] (fun q i wr => ∃ k : Nat, k ≤ n ∧ i = .int .i64 k ∧ q = .int .i64 (1 + ((k * 5 : Nat) : Int)) ∧ Flat wr g 101 (markTo zs (k * 5)) ∧ w.grownBy wr (some g)) (fun _ i _ => n - (intOf i).toNat)
  case atStart => exact ⟨0, Nat.zero_le _, rfl, rfl, by rw [Nat.zero_mul, markTo_zero]; exact H.out, g_of (Below.refl _ _) _⟩
  case round =>
    obtain ⟨k, hk, rfl, rfl, hF, hG⟩ := hrel
    by_cases hlt : k < n
    · have hzl := HL.out
      have l0 := markTo_len (zs := zs) (j := k * 5) (by omega)
      have c0 := hF.cell (j := k * 5) (by omega)
      have c1 := hF.cell (j := k * 5 + 1) (by omega)
      have c2 := hF.cell (j := k * 5 + 2) (by omega)
      have c3 := hF.cell (j := k * 5 + 3) (by omega)
      have c4 := hF.cell (j := k * 5 + 4) (by omega)
      have f0 := hF.frozen (k * 5)
      have f1 := hF.frozen (k * 5 + 1)
      have f2 := hF.frozen (k * 5 + 2)
      have f3 := hF.frozen (k * 5 + 3)
      have f4 := hF.frozen (k * 5 + 4)
      have n1 := (hF.set_ (i := k * 5) (by omega) (1 + ((k * 5 : Nat) : Int)))
      rw [markTo_succ (by omega)] at n1
      have l1 := markTo_len (zs := zs) (j := k * 5 + 1) (by omega)
      have n2 := (n1.set_ (i := k * 5 + 1) (by omega) (1 + ((k * 5 + 1 : Nat) : Int)))
      rw [markTo_succ (by omega)] at n2
      have l2 := markTo_len (zs := zs) (j := k * 5 + 1 + 1) (by omega)
      have n3 := (n2.set_ (i := k * 5 + 2) (by omega) (1 + ((k * 5 + 2 : Nat) : Int)))
      rw [markTo_succ (by omega)] at n3
      have l3 := markTo_len (zs := zs) (j := k * 5 + 1 + 1 + 1) (by omega)
      have n4 := (n3.set_ (i := k * 5 + 3) (by omega) (1 + ((k * 5 + 3 : Nat) : Int)))
      rw [markTo_succ (by omega)] at n4
      have l4 := markTo_len (zs := zs) (j := k * 5 + 1 + 1 + 1 + 1) (by omega)
      have n5 := (n4.set_ (i := k * 5 + 4) (by omega) (1 + ((k * 5 + 4 : Nat) : Int)))
      rw [markTo_succ (by omega), show k * 5 + 1 + 1 + 1 + 1 + 1 = (k + 1) * 5 from by omega] at n5
      have e1 : (1 + ((k * 5 + 1 : Nat) : Int)) = 1 + ((k * 5 : Nat) : Int) + 1 := by omega
      have e2 : (1 + ((k * 5 + 2 : Nat) : Int)) = 1 + ((k * 5 : Nat) : Int) + 1 + 1 := by omega
      have e3 : (1 + ((k * 5 + 3 : Nat) : Int)) = 1 + ((k * 5 : Nat) : Int) + 1 + 1 + 1 := by omega
      have e4 : (1 + ((k * 5 + 4 : Nat) : Int)) = 1 + ((k * 5 : Nat) : Int) + 1 + 1 + 1 + 1 := by omega
      have e5 : (1 + (((k + 1) * 5 : Nat) : Int)) = 1 + ((k * 5 : Nat) : Int) + 1 + 1 + 1 + 1 + 1 := by omega
      rw [e1, e2, e3, e4] at n5
      have hq : ((k * 5 : Nat) : Int) ≤ 5242880 := by omega
      have hq0 : 0 ≤ ((k * 5 : Nat) : Int) := by omega
      generalize ((k * 5 : Nat) : Int) = q at n5 e5 hq hq0
      generalize (markTo zs (k * 5)).getD (k * 5) 0 = z0 at c0
      generalize (markTo zs (k * 5)).getD (k * 5 + 1) 0 = z1 at c1
      generalize (markTo zs (k * 5)).getD (k * 5 + 2) 0 = z2 at c2
      generalize (markTo zs (k * 5)).getD (k * 5 + 3) 0 = z3 at c3
      generalize (markTo zs (k * 5)).getD (k * 5 + 4) 0 = z4 at c4
      have HN := Lib.hid n5
      have HG := Lib.hid hG
      have H3 := Lib.hid e5
      clear n1 n2 n3 n4 n5 e1 e2 e3 e4 e5 l0 l1 l2 l3 l4 hF hG hzl
      go_wp2_with fail
      go_roundw
      case rel => exact ⟨k + 1, by omega, by go_num, by rw [H3.out], HN.out, (g_set2 (g_set2 (g_set2 (g_set2 (g_set2 HG.out)))))⟩
      case measure => simp [intOf]; omega
    · obtain rfl : n = k := by omega
      have HF := Lib.hid hF
      have HG := Lib.hid hG
      clear hF hG
      go_wp2_with fail
      go_ret
      refine ⟨rfl, ?_, HG.out⟩
      have := HF.out
      rw [← HL.out, markTo_end, HL.out] at this
      exact this
theorem lmarkNd_nil (w : World) : Calls Try.prog 66 #[.slice none 0 0, .int .i64 1] w fun e w' => e = .returned (.int .i64 1) ∧ w = w' := by
  go_enter Try.func66, Try.ntmps66
  go_wp2
  go_rounds 1
  go_ret
  exact ⟨rfl, rfl⟩
theorem lheldNd_nil (w : World) : Calls Try.prog 69 #[.slice none 0 0, .int .i64 1] w fun e w' => e = .returned (.int .i64 1) ∧ w = w' := by
  go_enter Try.func69, Try.ntmps69
  go_wp2
  go_rounds 1
  go_ret
  exact ⟨rfl, rfl⟩
set_option maxHeartbeats 2000000 in
theorem lheldNd (g cap n : Nat) (w : World) (h : Flat w g 101 (marksF (n * 5))) (hn : n ≤ 1048576) :
    Calls Try.prog 69 #[.slice (some ⟨g, 0, none⟩) n cap, .int .i64 1] w fun e w' => e = .returned (.int .i64 (1 + ((n * 5 : Nat) : Int))) ∧ w = w' := by
  have H := Lib.hid h
  clear h
  go_enter Try.func69, Try.ntmps69
  go_wp2
  go_loop [1, 5] (fun q i => ∃ k : Nat, k ≤ n ∧ i = .int .i64 k ∧ q = .int .i64 (1 + ((k * 5 : Nat) : Int))) (fun _ i => n - (intOf i).toNat)
  case atStart => exact ⟨0, Nat.zero_le _, rfl, rfl⟩
  case round =>
    obtain ⟨k, hk, rfl, rfl⟩ := hrel
    by_cases hlt : k < n
    · have c0 := H.out.cell (j := k * 5) (by rw [marksF_len]; omega)
      have c1 := H.out.cell (j := k * 5 + 1) (by rw [marksF_len]; omega)
      have c2 := H.out.cell (j := k * 5 + 2) (by rw [marksF_len]; omega)
      have c3 := H.out.cell (j := k * 5 + 3) (by rw [marksF_len]; omega)
      have c4 := H.out.cell (j := k * 5 + 4) (by rw [marksF_len]; omega)
      rw [marksF_get _ (by omega)] at c0 c1 c2 c3 c4
      rw [show (1 + ((k * 5 + 1 : Nat) : Int)) = 1 + ((k * 5 : Nat) : Int) + 1 from by omega] at c1
      rw [show (1 + ((k * 5 + 2 : Nat) : Int)) = 1 + ((k * 5 : Nat) : Int) + 1 + 1 from by omega] at c2
      rw [show (1 + ((k * 5 + 3 : Nat) : Int)) = 1 + ((k * 5 : Nat) : Int) + 1 + 1 + 1 from by omega] at c3
      rw [show (1 + ((k * 5 + 4 : Nat) : Int)) = 1 + ((k * 5 : Nat) : Int) + 1 + 1 + 1 + 1 from by omega] at c4
      have e3 : (1 + (((k + 1) * 5 : Nat) : Int)) = 1 + ((k * 5 : Nat) : Int) + 1 + 1 + 1 + 1 + 1 := by omega
      have hq : ((k * 5 : Nat) : Int) ≤ 5242880 := by omega
      have hq0 : 0 ≤ ((k * 5 : Nat) : Int) := by omega
      generalize ((k * 5 : Nat) : Int) = q at c0 c1 c2 c3 c4 e3 hq hq0
      have H3 := Lib.hid e3
      clear e3
      go_wp2_with fail
      go_round
      case rel => exact ⟨k + 1, by omega, by go_num, by rw [H3.out]⟩
      case measure => simp [intOf]; omega
    · obtain rfl : n = k := by omega
      go_wp2_with fail
      go_ret
      exact ⟨rfl, rfl⟩
end Go.Proofs.Ytgmmdpdlekpmfaa
namespace Go.Proofs.Ytgmmdpdlekpmfaa
open Go.ChangeShapes Go.WideShapes Go.RowKit Go.Deep

abbrev Ac := Int × Int
abbrev ac0 : Ac := (0, 0)
/-- the numbers, one after the other -/
def flatAc : List Ac → List Int
  | [] => []
  | h :: t => h.1 :: h.2 :: flatAc t
theorem flatAc_len : ∀ xs : List Ac, (flatAc xs).length = xs.length * 2 := by
  intro xs
  induction xs with
  | nil => rfl
  | cons h t ih => show (flatAc t).length + 1 + 1 = (t.length + 1) * 2; rw [ih]; omega
theorem flatAc_append : ∀ a b : List Ac, flatAc (a ++ b) = flatAc a ++ flatAc b := by
  intro a b
  induction a with
  | nil => rfl
  | cons h t ih => show h.1 :: h.2 :: flatAc (t ++ b) = _; rw [ih]; rfl
theorem flatAc_get : ∀ (xs : List Ac) (k : Nat), k < xs.length → (flatAc xs).getD (k * 2) 0 = (xs.getD k ac0).1 ∧ (flatAc xs).getD (k * 2 + 1) 0 = (xs.getD k ac0).2 := by
  intro xs
  induction xs with
  | nil => intro k h; simp at h
  | cons h t ih =>
    intro k hk
    cases k with
    | zero => exact ⟨rfl, rfl⟩
    | succ k =>
      have := ih k (by simpa using hk)
      rw [show (k + 1) * 2 = k * 2 + 1 + 1 from by omega]
      exact this
theorem flatAc_take (xs : List Ac) (k : Nat) : (flatAc xs).take (k * 2) = flatAc (xs.take k) := by
  induction xs generalizing k with
  | nil => simp [flatAc]
  | cons h t ih =>
    cases k with
    | zero => rfl
    | succ k =>
      rw [show (k + 1) * 2 = k * 2 + 1 + 1 from by omega]
      show h.1 :: h.2 :: (flatAc t).take (k * 2) = _
      rw [ih]; rfl
theorem flatAc_drop (xs : List Ac) (k : Nat) : (flatAc xs).drop (k * 2) = flatAc (xs.drop k) := by
  induction xs generalizing k with
  | nil => simp [flatAc]
  | cons h t ih =>
    cases k with
    | zero => rfl
    | succ k =>
      rw [show (k + 1) * 2 = k * 2 + 1 + 1 from by omega]
      show (flatAc t).drop (k * 2) = _
      rw [ih]; rfl
/-- Accounts xs, read through a slice at address a -/
def IsAc (w : World) (a : Option Addr) (xs : List Ac) : Prop := xs = [] ∨ ∃ g o, a = some ⟨g, o, none⟩ ∧ ∀ i, i < xs.length → w.cell? ⟨g, o + i * 2, none⟩ = some (.int .i64 (xs.getD i ac0).1) ∧ w.cell? ⟨g, o + i * 2 + 1, none⟩ = some (.int .i64 (xs.getD i ac0).2)
theorem ac_below {w w' : World} {a : Option Addr} {xs : List Ac} (h : IsAc w a xs) (hB : Below w.heap.size w w') : IsAc w' a xs := by
  rcases h with h | ⟨g, o, ha, hc⟩
  · exact .inl h
  · refine .inr ⟨g, o, ha, fun i hi => ?_⟩
    obtain ⟨c0, c1⟩ := hc i hi
    have kp : ∀ p v, w.cell? ⟨g, p, none⟩ = some v → w'.cell? ⟨g, p, none⟩ = some v := fun p v c => (hB.cell (p := ⟨g, p, none⟩) (World.block_lt_of_cell? w _ c)).trans c
    exact ⟨kp _ _ c0, kp _ _ c1⟩
theorem ac_at {w wr : World} {g o : Nat} {xs : List Ac} (hc : ∀ i, i < xs.length → w.cell? ⟨g, o + i * 2, none⟩ = some (.int .i64 (xs.getD i ac0).1) ∧ w.cell? ⟨g, o + i * 2 + 1, none⟩ = some (.int .i64 (xs.getD i ac0).2)) (hB : Below w.heap.size w wr) {k : Nat} (hk : k < xs.length) :
    wr.cell? ⟨g, o + k * 2, none⟩ = some (.int .i64 (xs.getD k ac0).1) ∧ wr.cell? ⟨g, o + k * 2 + 1, none⟩ = some (.int .i64 (xs.getD k ac0).2) := by
  obtain ⟨c0, c1⟩ := hc k hk
  have kp : ∀ p v, w.cell? ⟨g, p, none⟩ = some v → wr.cell? ⟨g, p, none⟩ = some v := fun p v c => (hB.cell (p := ⟨g, p, none⟩) (World.block_lt_of_cell? w _ c)).trans c
  exact ⟨kp _ _ c0, kp _ _ c1⟩
theorem Flat.ac {w : World} {g : Nat} {t : TypeId} {xs : List Ac} (h : Flat w g t (flatAc xs)) : IsAc w (some ⟨g, 0, none⟩) xs := by
  refine .inr ⟨g, 0, rfl, fun i hi => ?_⟩
  obtain ⟨a0, a1⟩ := flatAc_get xs i hi
  have hl := flatAc_len xs
  rw [Nat.zero_add]
  exact ⟨by rw [h.cell (by omega), a0], by rw [h.cell (by omega), a1]⟩
theorem ac_take {w : World} {g o : Nat} {xs : List Ac} (hc : ∀ i, i < xs.length → w.cell? ⟨g, o + i * 2, none⟩ = some (.int .i64 (xs.getD i ac0).1) ∧ w.cell? ⟨g, o + i * 2 + 1, none⟩ = some (.int .i64 (xs.getD i ac0).2)) (k : Nat) : IsAc w (some ⟨g, o, none⟩) (xs.take k) := by
  refine .inr ⟨g, o, rfl, fun i hi => ?_⟩
  rw [List.length_take] at hi
  have e : (xs.take k).getD i ac0 = xs.getD i ac0 := by
    rw [List.getD_eq_getElem?_getD, List.getD_eq_getElem?_getD, List.getElem?_take_of_lt (by omega)]
  rw [e]; exact hc i (by omega)
/-- the cells -/
def valsAc (xs : List Ac) : List Value := (flatAc xs).map (Value.int .i64)
theorem valsAc_len (xs : List Ac) : (valsAc xs).length = xs.length * 2 := by unfold valsAc; rw [List.length_map, flatAc_len]
theorem valsAc_append (a b : List Ac) : valsAc (a ++ b) = valsAc a ++ valsAc b := by unfold valsAc; rw [flatAc_append, List.map_append]
theorem valsAc_one (xs : List Ac) : ∀ u ∈ valsAc xs, u.oneCell' = true := fun u hu => by
  unfold valsAc at hu
  obtain ⟨z, _, rfl⟩ := List.mem_map.1 hu
  rfl
theorem valsAc_get {xs : List Ac} {k : Nat} (h : k < xs.length) : (valsAc xs)[k * 2]? = some (.int .i64 (xs.getD k ac0).1) ∧ (valsAc xs)[k * 2 + 1]? = some (.int .i64 (xs.getD k ac0).2) := by
  obtain ⟨a0, a1⟩ := flatAc_get xs k h
  have hl := flatAc_len xs
  have get : ∀ j, j < (flatAc xs).length → (valsAc xs)[j]? = some (.int .i64 ((flatAc xs).getD j 0)) := fun j hj => by
    unfold valsAc
    rw [List.getElem?_map, List.getElem?_eq_getElem hj, List.getD_eq_getElem?_getD, List.getElem?_eq_getElem hj]; rfl
  rw [get _ (by omega), get _ (by omega), a0, a1]
  exact ⟨rfl, rfl⟩
theorem ac_reads {w : World} {a : Option Addr} {xs : List Ac} (h : IsAc w a xs) : Reads w w.heap.size 2 a xs.length (valsAc xs) := by
  refine ⟨valsAc_len xs, fun hn => ?_⟩
  rcases h with rfl | ⟨g, o, rfl, hc⟩
  · exact absurd hn (by simp)
  · refine ⟨⟨g, o, none⟩, rfl, ?_, fun j u hu => ?_⟩
    · exact World.block_lt_of_cell? w _ (hc 0 hn).1
    · have hl := valsAc_len xs
      have hj : j < (valsAc xs).length := by
        rcases Nat.lt_or_ge j (valsAc xs).length with h | h
        · exact h
        · rw [List.getElem?_eq_none h] at hu; cases hu
      have hk : j / 2 < xs.length := by omega
      obtain ⟨c0, c1⟩ := hc _ hk
      obtain ⟨v0, v1⟩ := valsAc_get hk
      have hm : j % 2 = 0 ∨ j % 2 = 1 := by omega
      rw [add_off]
      rcases hm with e | e
      · have ej : j = j / 2 * 2 := by omega
        rw [ej] at hu ⊢; rw [v0] at hu; rw [c0, ← hu]
      · have ej : j = j / 2 * 2 + 1 := by omega
        rw [ej] at hu ⊢; rw [v1] at hu; rw [← Nat.add_assoc, c1, ← hu]
theorem reads_ac {w : World} {B : Nat} {a : Option Addr} {xs : List Ac} (h : Reads w B 2 a xs.length (valsAc xs)) (hsp : ∀ ad, a = some ad → ad.spot = none) : IsAc w a xs := by
  by_cases hn : xs = []
  · exact .inl hn
  · obtain ⟨ad, rfl, _, hc⟩ := h.2 (by cases xs with | nil => exact absurd rfl hn | cons _ _ => simp)
    obtain ⟨g, o, sp⟩ := ad
    obtain rfl : sp = none := hsp _ rfl
    refine .inr ⟨g, o, rfl, fun i hi => ?_⟩
    obtain ⟨v0, v1⟩ := valsAc_get hi
    have e0 := hc _ _ v0
    have e1 := hc _ _ v1
    rw [add_off] at e0 e1
    rw [← Nat.add_assoc] at e1
    exact ⟨e0, e1⟩
theorem infoAc : (Try.prog.info? 45).map (fun i => (i.zero, i.size, i.bytes)) = some (some (.agg #[.int .i64 0, .int .i64 0]), 2, 16) := by kernel_rfl
/-- a row of the call's own that holds xs -/
def OwnAc (w : World) (base : Nat) (v : Value) (xs : List Ac) : Prop := w.ownsRow base 45 2 v xs.length (valsAc xs)
theorem own_ac {w : World} {base : Nat} {v : Value} {xs : List Ac} (h : OwnAc w base v xs) : ∃ (b : Option Addr) (cap : Nat), v = .slice b xs.length cap ∧ IsAc w b xs := by
  have h0 := h
  rcases h.2 with ⟨hv, hn⟩ | ⟨g, cap, cur, hv, _⟩
  · exact ⟨none, 0, by rw [hv, hn], .inl (List.eq_nil_of_length_eq_zero hn)⟩
  · subst hv
    exact ⟨some ⟨g, 0, none⟩, cap, rfl, reads_ac (Reads.of_own h0) (fun ad e => by injection e with e; rw [← e])⟩

/-- a slice of Accounts that came in -/
def AcIn (w : World) (a : Option Addr) (len cap : Nat) (xs : List Ac) : Prop := xs.length = len ∧ IsAc w a xs ∧ len ≤ cap ∧ cap ≤ maxLen
set_option maxRecDepth 100000 in
theorem open_ac {H : Type} {enc : TypeId × Value → H} {w : World} {base : Nat} {spare : Nat → Bool} {held : Bool} {fuel : Nat} {cs : List Value} {x : DataW H × List MemPlace} (h : DataW.trod enc Try.prog w base spare held fuel 133 cs = some x) : ∃ x0 x1 : Int, cs = [.int .i64 x0, .int .i64 x1] := by
  obtain ⟨y0, y1, n', _, hl, h0, h1⟩ := trod_struct2 Try.underlying133 h
  obtain ⟨x0, e0, _, _⟩ := DataW.trod_int Try.underlying3 h0
  obtain ⟨x1, e1, _, _⟩ := DataW.trod_int Try.underlying3 h1
  have hc : Try.prog.cellsOf 133 = 2 := by kernel_rfl
  have hi : Try.prog.cellsOf 3 = 1 := by kernel_rfl
  have hl := hl.trans hc
  dsimp only at e0 e1
  rw [hi] at e0 e1
  match cs, hl with
  | [a0, a1], _ =>
    refine ⟨x0, x1, ?_⟩
    simp at e0 e1
    rw [e0, e1]
set_option maxRecDepth 100000 in
theorem open_acs {H : Type} {enc : TypeId × Value → H} {w : World} {base : Nat} {spare : Nat → Bool} {held : Bool} {fuel : Nat} {a : Option Addr} {len cap : Nat} {x : DataW H × List MemPlace} (h : DataW.trod enc Try.prog w base spare held fuel 27 [.slice a len cap] = some x) : ∃ xs, AcIn w a len cap xs := by
  rcases open_slice Try.underlying27 h with ⟨hcs, _⟩ | ⟨ad, l, c, m, n', D, Pq, hcs, hb, hl, hm, hmm, hx, hi⟩
  · simp at hcs
    obtain ⟨rfl, rfl, rfl⟩ := hcs
    exact ⟨[], rfl, .inl rfl, Nat.le_refl _, Nat.zero_le _⟩
  · simp at hcs
    obtain ⟨rfl, rfl, rfl⟩ := hcs
    have hc : Try.prog.cellsOf 133 = 2 := by kernel_rfl
    have hmn : len ≤ m := by rw [hmm]; split <;> omega
    have each : ∀ i, i < len → ∃ z : Ac, w.cell? (ad.add (i * 2)) = some (.int .i64 z.1) ∧ w.cell? (ad.add (i * 2 + 1)) = some (.int .i64 z.2) := fun i hin => by
      obtain ⟨cs', h1, h2⟩ := hi i (by omega)
      obtain ⟨x0, x1, rfl⟩ := open_ac h2
      rw [hc] at h1
      obtain ⟨_, _, hat⟩ := World.cells?_some h1
      have a0 := hat 0 (by omega)
      have a1 := hat 1 (by omega)
      rw [add_add] at a0 a1
      exact ⟨(x0, x1), a0, a1⟩
    obtain ⟨f, hf⟩ : ∃ f : Nat → Ac, ∀ i, i < len → w.cell? (ad.add (i * 2)) = some (.int .i64 (f i).1) ∧ w.cell? (ad.add (i * 2 + 1)) = some (.int .i64 (f i).2) :=
      ⟨fun i => if hh : i < len then Classical.choose (each i hh) else ac0, fun i hh => by simp only [dif_pos hh]; exact Classical.choose_spec (each i hh)⟩
    refine ⟨(List.range len).map f, by simp, ?_, hl, hm⟩
    by_cases h0 : len = 0
    · subst h0; exact .inl rfl
    · obtain ⟨b, off, spot⟩ := ad
      have hsp := (hf 0 (by omega)).1
      have hspot : spot = none := by simpa [Addr.add] using World.cell?_spot hsp
      subst hspot
      refine .inr ⟨b, off, rfl, fun i hin => ?_⟩
      have hin' : i < len := by simpa using hin
      have e : ((List.range len).map f).getD i ac0 = f i := by
        rw [List.getD_eq_getElem?_getD, List.getElem?_map, List.getElem?_range hin']; rfl
      obtain ⟨q0, q1⟩ := hf i hin'
      rw [add_off] at q0 q1
      rw [e]
      exact ⟨q0, by rw [Nat.add_assoc]; exact q1⟩
end Go.Proofs.Ytgmmdpdlekpmfaa
namespace Go.Proofs.Ytgmmdpdlekpmfaa
open Go.RowKit

theorem lszAc (a : Option Addr) (n cap : Nat) (w : World) (hn : n ≤ 1048576) :
    Calls Try.prog 44 #[.slice a n cap, .int .i64 1048576] w fun e w' => e = .returned (.int .i64 (1048576 - (n : Int))) ∧ w = w' := by
  go_enter Try.func44, Try.ntmps44
  go_wp2
  go_ret
  exact ⟨rfl, rfl⟩
theorem lszAc_no (a : Option Addr) (n cap : Nat) (w : World) (h : 1048576 < n) (hn : n ≤ 9223372036854775807) :
    Calls Try.prog 44 #[.slice a n cap, .int .i64 1048576] w fun e w' => e = .returned (.int .i64 (-1)) ∧ w = w' := by
  go_enter Try.func44, Try.ntmps44
  go_wp2
  go_ret
  exact ⟨rfl, rfl⟩

theorem ltoAc1 (x0 x1 : Int) (w : World) :
    Calls Try.prog 100 #[.agg #[.int .i64 x0, .int .i64 x1]] w fun e w' => e = .returned (.agg #[.int .i64 x0, .int .i64 x1]) ∧ Below w.heap.size w w' := by
  go_enter Try.func100, Try.ntmps100
  go_wp2
  refine bodyPost_ret (v := .agg #[.int .i64 x0, .int .i64 x1]) (by simp [results, Try.results100, go_sem]) rfl ⟨rfl, by go_grown⟩

theorem leqAc1 (x0 x1 : Int) (w : World) :
    Calls Try.prog 106 #[.agg #[.int .i64 x0, .int .i64 x1], .agg #[.int .i64 x0, .int .i64 x1]] w fun e w' => e = .returned (.bool true) ∧ Below w.heap.size w w' := by
  go_enter Try.func106, Try.ntmps106
  go_wp2
  go_ret
  exact ⟨rfl, by go_grown⟩

/-- what the copy leaves -/
def CopiedAc (w : World) (xs : List Ac) (e : Ending) (w' : World) : Prop := ∃ g : Nat, e = .returned (.slice (some ⟨g, 0, none⟩) xs.length xs.length) ∧ w.heap.size ≤ g ∧ Flat w' g 45 (flatAc xs) ∧ Below w.heap.size w w'
theorem madeAc (w : World) (n : Nat) (t : TypeId) : (w.alloc (.cells (madeCells #[.int .i64 0, .int .i64 0] n) t)).rowIs w.heap.size t n (fun _ => .int .i64 0) := by
  have hs : (madeCells #[Value.int .i64 0, .int .i64 0] n).size = n := by unfold madeCells; simp
  refine ⟨_, heap_alloc_new w _, hs, fun i hi => ?_⟩
  have hm : i % 2 = 0 ∨ i % 2 = 1 := by omega
  unfold madeCells
  rw [Array.getElem?_map, Array.getElem?_range, if_pos hi]
  show some ((#[Value.int .i64 0, .int .i64 0] : Array Value)[i % 2]!) = _
  rcases hm with h | h <;> rw [h] <;> rfl
theorem run_makeAc (n : Nat) (hn : n ≤ 1048576) (w : World) : (Instr.makeSlice 36 (.int .i64 (n : Int)) (.int .i64 (n : Int))).run Try.prog w = .ok (.slice (some ⟨w.heap.size, 0, none⟩) n n) (w.alloc (.cells (madeCells #[.int .i64 0, .int .i64 0] (n * 2)) 45)) := by
  obtain ⟨i0, hi0, hz0, hz1, hz2⟩ := info_parts infoAc
  have := run_make (P := Try.prog) w 36 45 i0 _ Try.underlying36 hi0 hz0 .i64 .i64 (n : Int) (n : Int) (by omega) (by omega) (by rw [hz2]; omega) (by omega)
  simp only [Int.toNat_natCast, hz1] at this
  exact this

set_option maxHeartbeats 2000000 in
theorem ltoAc (a : Option Addr) (cap : Nat) (xs : List Ac) (w : World) (h : IsAc w a xs) (hn : xs.length ≤ 1048576) :
    Calls Try.prog 49 #[.slice a xs.length cap] w (CopiedAc w xs) := by
  rcases h with rfl | ⟨g, o, rfl, hc⟩
  · have hmk : ∀ W : World, (Instr.makeSlice 36 (.int .i64 0) (.int .i64 0)).run Try.prog W = .ok (.slice (some ⟨W.heap.size, 0, none⟩) 0 0) (W.alloc (.cells (madeCells #[.int .i64 0, .int .i64 0] 0) 45)) := fun W => run_makeAc 0 (by omega) W
    go_enter Try.func49, Try.ntmps49
    go_wp2
    go_rounds 1
    go_ret
    exact ⟨_, rfl, Nat.le_refl _, Flat.row (madeAc w 0 _) (by simp [flatAc]) (fun j hj => by simp [flatAc] at hj), by go_grown⟩
  · have hmk := run_makeAc xs.length hn
    have HC := Lib.hid hc
    clear hc
    go_enter Try.func49, Try.ntmps49
    go_wp2
    clear hmk
    go_loopw [4] (fun i wr => ∃ k : Nat, k ≤ xs.length ∧ i = .int .i64 k ∧ wr.rowIs w.heap.size 45 (xs.length * 2) (fun j => if j < k * 2 then .int .i64 ((flatAc xs).getD j 0) else .int .i64 0) ∧ Below w.heap.size w wr) (fun i _ => xs.length - (intOf i).toNat)
    case atStart => exact ⟨0, Nat.zero_le _, rfl, (madeAc w (xs.length * 2) _).congr (fun i hi => by simp), by go_grown⟩
    case round =>
      obtain ⟨k, hk, rfl, hrow, hB⟩ := hrel
      by_cases hlt : k < xs.length
      · obtain ⟨c0, c1⟩ := ac_at HC.out hB hlt
        obtain ⟨g0, g1⟩ := flatAc_get xs k hlt
        have hd : ∀ j, k * 2 ≤ j → j < xs.length * 2 → wr.cell? ⟨w.heap.size, j, none⟩ = some (.int .i64 0) := fun j h0 h1 => by rw [hrow.cell h1, if_neg (by omega)]
        have d0 := hd (k * 2) (by omega) (by omega)
        have d1 := hd (k * 2 + 1) (by omega) (by omega)
        have hcon : ∀ x0 x1 : Int, (flatAc xs).getD (k * 2) 0 = x0 → (flatAc xs).getD (k * 2 + 1) 0 = x1 → ∀ W : World, W.heap[w.heap.size]? = wr.heap[w.heap.size]? →
            ((W.setCell ⟨w.heap.size, k * 2, none⟩ (.int .i64 x0)).setCell ⟨w.heap.size, k * 2 + 1, none⟩ (.int .i64 x1)).rowIs w.heap.size 45 (xs.length * 2) (fun j => if j < (k + 1) * 2 then .int .i64 ((flatAc xs).getD j 0) else .int .i64 0) := fun x0 x1 e0 e1 W hW => by
          have hrow' := World.rowIs.of_block hrow hW
          refine ((hrow'.set (k * 2) (.int .i64 x0)).set (k * 2 + 1) (.int .i64 x1)).congr (fun j hj => ?_)
          show (if j = k * 2 + 1 then Value.int .i64 x1 else if j = k * 2 then .int .i64 x0 else if j < k * 2 then .int .i64 ((flatAc xs).getD j 0) else .int .i64 0) = _
          by_cases a1 : j = k * 2 + 1
          · rw [if_pos a1, if_pos (by omega), a1, e1]
          rw [if_neg a1]
          by_cases a0 : j = k * 2
          · rw [if_pos a0, if_pos (by omega), a0, e0]
          rw [if_neg a0]
          by_cases al : j < k * 2
          · rw [if_pos al, if_pos (by omega)]
          · rw [if_neg al, if_neg (by omega)]
        have hcon2 := hcon _ _ g0 g1
        have hfr := hrow.frozen
        have hlw := World.rowIs.lt hrow
        clear hcon hd g0 g1
        generalize xs.getD k ac0 = hh at c0 c1 hcon2
        obtain ⟨x0, x1⟩ := hh
        dsimp only at c0 c1 hcon2
        have HR := Lib.hid hcon2
        have HB := Lib.hid hB
        have HF := Lib.hid hfr
        clear hcon2 hrow hB hfr
        go_wp2_with fail
        refine (ltoAc1 x0 x1 _).mono ?_
        rintro e w1 ⟨rfl, hb⟩
        have hB1 := bel_tr HB.out hb
        have hblk := hb.block w.heap.size hlw
        have e0 := (hb.cell (p := ⟨w.heap.size, k * 2, none⟩) hlw).trans d0
        have e1 := (hb.cell (p := ⟨w.heap.size, k * 2 + 1, none⟩) hlw).trans d1
        have f0 := (hb.frozen (p := ⟨w.heap.size, k * 2, none⟩) hlw).trans (HF.out _)
        have f1 := (hb.frozen (p := ⟨w.heap.size, k * 2 + 1, none⟩) hlw).trans (HF.out _)
        clear hb d0 d1 c0 c1
        go_wp2_with fail
        go_roundw
        case rel => exact ⟨k + 1, by omega, by go_num, HR.out w1 hblk, ((hB1.setCell (Nat.le_refl _) _).setCell (Nat.le_refl _) _)⟩
        case measure => simp [intOf]; omega
      · have HR := Lib.hid hrow
        have HB := Lib.hid hB
        clear hrow hB
        go_wp2
        go_ret
        have hl := flatAc_len xs
        exact ⟨_, rfl, Nat.le_refl _, Flat.row HR.out (by omega) (fun j hj => by rw [if_pos (by omega)]), HB.out⟩

theorem keepAc {w w' : World} {p0 p1 p2 p3 : Addr} {u0 u1 u2 u3 : Value} (hb : Below w.heap.size w w') (h : w.cell? p0 = some u0 ∧ w.cell? p1 = some u1 ∧ w.cell? p2 = some u2 ∧ w.cell? p3 = some u3) : w'.cell? p0 = some u0 ∧ w'.cell? p1 = some u1 ∧ w'.cell? p2 = some u2 ∧ w'.cell? p3 = some u3 := by
  have n : ∀ {p : Addr} {v : Value}, w.cell? p = some v → w'.cell? p = some v := fun h => (hb.cell (World.block_lt_of_cell? w _ h)).trans h
  obtain ⟨h0, h1, h2, h3⟩ := h
  exact ⟨n h0, n h1, n h2, n h3⟩

set_option maxHeartbeats 2000000 in
/-- the comparison of two readings of the same -/
theorem leqAc (a b : Option Addr) (ca cb : Nat) (xs : List Ac) (w : World) (ha : IsAc w a xs) (hb : IsAc w b xs) (hn : xs.length ≤ 1048576) :
    Calls Try.prog 60 #[.slice a xs.length ca, .slice b xs.length cb] w fun e w' => e = .returned (.bool true) ∧ Below w.heap.size w w' := by
  rcases ha with rfl | ⟨g, o, rfl, hc⟩
  · go_enter Try.func60, Try.ntmps60
    go_wp2
    go_rounds 1
    go_ret
    exact ⟨rfl, by go_grown⟩
  · rcases hb with rfl | ⟨g2, o2, rfl, hc2⟩
    · go_enter Try.func60, Try.ntmps60
      go_wp2
      go_rounds 1
      go_ret
      exact ⟨rfl, by go_grown⟩
    · have HC := Lib.hid hc
      have HD := Lib.hid hc2
      clear hc hc2
      go_enter Try.func60, Try.ntmps60
      go_wp2
      go_loopw [5] (fun i wr => ∃ k : Nat, k ≤ xs.length ∧ i = .int .i64 k ∧ Below w.heap.size w wr) (fun i _ => xs.length - (intOf i).toNat)
      case atStart => exact ⟨0, Nat.zero_le _, rfl, by go_grown⟩
      case round =>
        obtain ⟨k, hk, rfl, hB⟩ := hrel
        by_cases hlt : k < xs.length
        · obtain ⟨c0, c1⟩ := ac_at HC.out hB hlt
          obtain ⟨d0, d1⟩ := ac_at HD.out hB hlt
          generalize xs.getD k ac0 = hh at c0 c1 d0 d1
          obtain ⟨x0, x1⟩ := hh
          dsimp only at c0 c1 d0 d1
          have HB := Lib.hid hB
          clear hB
          have i0 : (0 : Int) ≤ (k : Int) := by omega
          have i1 : (k : Int) < (xs.length : Int) := by omega
          go_wp2_with fail
          go_region_held3 (fun w' => w'.cell? ⟨g, o + k * 2, none⟩ = some (.int .i64 x0) ∧ w'.cell? ⟨g, o + k * 2 + 1, none⟩ = some (.int .i64 x1) ∧ w'.cell? ⟨g2, o2 + k * 2, none⟩ = some (.int .i64 x0) ∧ w'.cell? ⟨g2, o2 + k * 2 + 1, none⟩ = some (.int .i64 x1)) (first | (exact keepAc (by assumption) (by assumption)) | (refine ⟨?_, ?_, ?_, ?_⟩ <;> (go_keep; done))) (first | (go_at_call 106; refine (leqAc1 x0 x1 _).mono ?_; rintro e w3 ⟨rfl, hb⟩))
          go_wp2_with fail
          go_roundw
          case rel => exact ⟨k + 1, by omega, by go_num, bel_tr HB.out.drew hb⟩
          case measure => simp [intOf]; omega
        · go_wp2
          go_ret
          exact ⟨rfl, hB⟩

/-- what the marking leaves -/
def MarkedAc (w : World) (g n : Nat) (e : Ending) (w' : World) : Prop := e = .returned (.int .i64 (1 + ((n * 2 : Nat) : Int))) ∧ Flat w' g 45 (marksF (n * 2)) ∧ w.grownBy w' (some g)
set_option maxHeartbeats 2000000 in
theorem lmarkAc (g cap n : Nat) (zs : List Int) (w : World) (h : Flat w g 45 zs) (hl : zs.length = n * 2) (hn : n ≤ 1048576) :
    Calls Try.prog 67 #[.slice (some ⟨g, 0, none⟩) n cap, .int .i64 1] w (MarkedAc w g n) := by
  have H := Lib.hid h
  have HL := Lib.hid hl
  clear h hl
  go_enter Try.func67, Try.ntmps67
  go_wp2
  go_loopw [1, 5] (fun q i wr => ∃ k : Nat, k ≤ n ∧ i = .int .i64 k ∧ q = .int .i64 (1 + ((k * 2 : Nat) : Int)) ∧ Flat wr g 45 (markTo zs (k * 2)) ∧ w.grownBy wr (some g)) (fun _ i _ => n - (intOf i).toNat)
  case atStart => exact ⟨0, Nat.zero_le _, rfl, rfl, by rw [Nat.zero_mul, markTo_zero]; exact H.out, g_of (Below.refl _ _) _⟩
  case round =>
    obtain ⟨k, hk, rfl, rfl, hF, hG⟩ := hrel
    by_cases hlt : k < n
    · have hzl := HL.out
      have l0 := markTo_len (zs := zs) (j := k * 2) (by omega)
      have c0 := hF.cell (j := k * 2) (by omega)
      have c1 := hF.cell (j := k * 2 + 1) (by omega)
      have f0 := hF.frozen (k * 2)
      have f1 := hF.frozen (k * 2 + 1)
      have n1 := (hF.set_ (i := k * 2) (by omega) (1 + ((k * 2 : Nat) : Int)))
      rw [markTo_succ (by omega)] at n1
      have l1 := markTo_len (zs := zs) (j := k * 2 + 1) (by omega)
      have n2 := (n1.set_ (i := k * 2 + 1) (by omega) (1 + ((k * 2 + 1 : Nat) : Int)))
      rw [markTo_succ (by omega), show k * 2 + 1 + 1 = (k + 1) * 2 from by omega] at n2
      have e1 : (1 + ((k * 2 + 1 : Nat) : Int)) = 1 + ((k * 2 : Nat) : Int) + 1 := by omega
      have e2 : (1 + (((k + 1) * 2 : Nat) : Int)) = 1 + ((k * 2 : Nat) : Int) + 1 + 1 := by omega
      rw [e1] at n2
      have hq : ((k * 2 : Nat) : Int) ≤ 2097152 := by omega
      have hq0 : 0 ≤ ((k * 2 : Nat) : Int) := by omega
      generalize ((k * 2 : Nat) : Int) = q at n2 e2 hq hq0
      generalize (markTo zs (k * 2)).getD (k * 2) 0 = z0 at c0
      generalize (markTo zs (k * 2)).getD (k * 2 + 1) 0 = z1 at c1
      have HN := Lib.hid n2
      have HG := Lib.hid hG
      have H3 := Lib.hid e2
      clear n1 n2 e1 e2 l0 l1 hF hG hzl
      go_wp2_with fail
      go_roundw
      case rel => exact ⟨k + 1, by omega, by go_num, by rw [H3.out], HN.out, (g_set2 (g_set2 HG.out))⟩
      case measure => simp [intOf]; omega
    · obtain rfl : n = k := by omega
      have HF := Lib.hid hF
      have HG := Lib.hid hG
      clear hF hG
      go_wp2_with fail
      go_ret
      refine ⟨rfl, ?_, HG.out⟩
      have := HF.out
      rw [← HL.out, markTo_end, HL.out] at this
      exact this
theorem lmarkAc_nil (w : World) : Calls Try.prog 67 #[.slice none 0 0, .int .i64 1] w fun e w' => e = .returned (.int .i64 1) ∧ w = w' := by
  go_enter Try.func67, Try.ntmps67
  go_wp2
  go_rounds 1
  go_ret
  exact ⟨rfl, rfl⟩
theorem lheldAc_nil (w : World) : Calls Try.prog 70 #[.slice none 0 0, .int .i64 1] w fun e w' => e = .returned (.int .i64 1) ∧ w = w' := by
  go_enter Try.func70, Try.ntmps70
  go_wp2
  go_rounds 1
  go_ret
  exact ⟨rfl, rfl⟩
set_option maxHeartbeats 2000000 in
theorem lheldAc (g cap n : Nat) (w : World) (h : Flat w g 45 (marksF (n * 2))) (hn : n ≤ 1048576) :
    Calls Try.prog 70 #[.slice (some ⟨g, 0, none⟩) n cap, .int .i64 1] w fun e w' => e = .returned (.int .i64 (1 + ((n * 2 : Nat) : Int))) ∧ w = w' := by
  have H := Lib.hid h
  clear h
  go_enter Try.func70, Try.ntmps70
  go_wp2
  go_loop [1, 5] (fun q i => ∃ k : Nat, k ≤ n ∧ i = .int .i64 k ∧ q = .int .i64 (1 + ((k * 2 : Nat) : Int))) (fun _ i => n - (intOf i).toNat)
  case atStart => exact ⟨0, Nat.zero_le _, rfl, rfl⟩
  case round =>
    obtain ⟨k, hk, rfl, rfl⟩ := hrel
    by_cases hlt : k < n
    · have c0 := H.out.cell (j := k * 2) (by rw [marksF_len]; omega)
      have c1 := H.out.cell (j := k * 2 + 1) (by rw [marksF_len]; omega)
      rw [marksF_get _ (by omega)] at c0 c1
      rw [show (1 + ((k * 2 + 1 : Nat) : Int)) = 1 + ((k * 2 : Nat) : Int) + 1 from by omega] at c1
      have e3 : (1 + (((k + 1) * 2 : Nat) : Int)) = 1 + ((k * 2 : Nat) : Int) + 1 + 1 := by omega
      have hq : ((k * 2 : Nat) : Int) ≤ 2097152 := by omega
      have hq0 : 0 ≤ ((k * 2 : Nat) : Int) := by omega
      generalize ((k * 2 : Nat) : Int) = q at c0 c1 e3 hq hq0
      have H3 := Lib.hid e3
      clear e3
      go_wp2_with fail
      go_round
      case rel => exact ⟨k + 1, by omega, by go_num, by rw [H3.out]⟩
      case measure => simp [intOf]; omega
    · obtain rfl : n = k := by omega
      go_wp2_with fail
      go_ret
      exact ⟨rfl, rfl⟩
end Go.Proofs.Ytgmmdpdlekpmfaa
namespace Go.Proofs.Ytgmmdpdlekpmfaa
open Go.RowKit
set_option linter.unusedSimpArgs false
set_option linter.unusedVariables false
set_option maxHeartbeats 4000000 in
theorem mkH (b : Option Addr) (c n base : Nat) (zs : List Int) (s : Int) (w : World) (h : RowF w base 97 (.slice b n c) n zs) (hl : zs.length = n * 3) (hn : n ≤ 1048576) (s0 : 0 ≤ s) (s1 : s ≤ 1000000000000) :
    Calls Try.prog 36 #[.slice b n c, .int .i64 s] w fun e w' => e = .returned (.int .i64 (s + ((n * 3 : Nat) : Int))) ∧ RowF w' base 97 (.slice b n c) n (mkS s (n * 3)) ∧ w.grownBy w' (Value.slice b n c).ownBlock := by
  rcases h with ⟨e, h0⟩ | ⟨g, cap, e, hg, F, hc⟩
  · injection e with e1 e2 e3
    subst e1 e3 h0
    go_enter Try.func36, Try.ntmps36
    go_wp2
    go_rounds 1
    go_ret
    exact ⟨by simp, .inl ⟨rfl, rfl⟩, g_of (Below.refl _ _) _⟩
  · injection e with e1 e2 e3
    subst e1 e3
    have H := Lib.hid F
    have HL := Lib.hid hl
    clear F hl
    go_enter Try.func36, Try.ntmps36
    go_wp2
    go_loopw [1, 5] (fun q i wr => ∃ k : Nat, k ≤ n ∧ i = .int .i64 k ∧ q = .int .i64 (s + ((k * 3 : Nat) : Int)) ∧ Flat wr g 97 (mkTo s zs (k * 3)) ∧ w.grownBy wr (some g)) (fun _ i _ => n - (intOf i).toNat)
    case atStart => exact ⟨0, Nat.zero_le _, rfl, by simp, by rw [Nat.zero_mul, mkTo_zero]; exact H.out, g_of (Below.refl _ _) _⟩
    case round =>
      obtain ⟨k, hk, rfl, rfl, hF, hG⟩ := hrel
      by_cases hlt : k < n
      · have hzl := HL.out
        have l0 := mkTo_len s zs (k * 3)
        have c0 := hF.cell (j := k * 3) (by omega)
        have f0 := hF.frozen (k * 3)
        have c1 := hF.cell (j := k * 3 + 1) (by omega)
        have f1 := hF.frozen (k * 3 + 1)
        have c2 := hF.cell (j := k * 3 + 2) (by omega)
        have f2 := hF.frozen (k * 3 + 2)
        have n1 := (hF.set_ (i := k * 3) (by rw [mkTo_len]; omega) (s + ((k * 3 : Nat) : Int)))
        rw [mkTo_set s (by omega)] at n1
        have n2 := (n1.set_ (i := k * 3 + 1) (by rw [mkTo_len]; omega) (s + ((k * 3 + 1 : Nat) : Int)))
        rw [mkTo_set s (by omega)] at n2
        have n3 := (n2.set_ (i := k * 3 + 2) (by rw [mkTo_len]; omega) (s + ((k * 3 + 2 : Nat) : Int)))
        rw [mkTo_set s (by omega)] at n3
        rw [show k * 3 + 2 + 1 = (k + 1) * 3 from by omega] at n3
        have e1 : (s + ((k * 3 + 1 : Nat) : Int)) = s + ((k * 3 : Nat) : Int) + 1 := by omega
        have e2 : (s + ((k * 3 + 2 : Nat) : Int)) = s + ((k * 3 : Nat) : Int) + 1 + 1 := by omega
        have e3 : (s + (((k + 1) * 3 : Nat) : Int)) = s + ((k * 3 : Nat) : Int) + 1 + 1 + 1 := by omega
        rw [e1, e2] at n3
        have hq : ((k * 3 : Nat) : Int) ≤ 3145728 := by omega
        have hq0 : 0 ≤ ((k * 3 : Nat) : Int) := by omega
        generalize ((k * 3 : Nat) : Int) = q at n3 e3 hq hq0 ⊢
        generalize (mkTo s zs (k * 3)).getD (k * 3) 0 = z0 at c0
        generalize (mkTo s zs (k * 3)).getD (k * 3 + 1) 0 = z1 at c1
        generalize (mkTo s zs (k * 3)).getD (k * 3 + 2) 0 = z2 at c2
        have HN := Lib.hid n3
        have HG := Lib.hid hG
        have H3 := Lib.hid e3
        clear n1 n2 n3 e1 e2 e3 l0 hF hG hzl
        go_wp2_with fail
        go_roundw
        case rel => exact ⟨k + 1, by omega, by go_num, by rw [H3.out], HN.out, (g_set2 (g_set2 (g_set2 HG.out)))⟩
        case measure => simp [intOf]; omega
      · obtain rfl : n = k := by omega
        have HF := Lib.hid hF
        have HG := Lib.hid hG
        clear hF hG
        go_wp2_with fail
        go_ret
        refine ⟨rfl, .inr ⟨g, c, rfl, hg, ?_, hc⟩, HG.out⟩
        have := HF.out
        rw [← HL.out, mkTo_end, HL.out] at this
        exact this
set_option maxHeartbeats 4000000 in
theorem hkH (b : Option Addr) (c n base : Nat) (s : Int) (w : World) (h : RowF w base 97 (.slice b n c) n (mkS s (n * 3))) (hn : n ≤ 1048576) (s0 : 0 ≤ s) (s1 : s ≤ 1000000000000) :
    Calls Try.prog 38 #[.slice b n c, .int .i64 s] w fun e w' => e = .returned (.int .i64 (s + ((n * 3 : Nat) : Int))) ∧ w = w' := by
  rcases h with ⟨e, h0⟩ | ⟨g, cap, e, hg, F, hc⟩
  · injection e with e1 e2 e3
    subst e1 e3 h0
    go_enter Try.func38, Try.ntmps38
    go_wp2
    go_rounds 1
    go_ret
    exact ⟨by simp, rfl⟩
  · injection e with e1 e2 e3
    subst e1 e3
    have H := Lib.hid F
    clear F
    go_enter Try.func38, Try.ntmps38
    go_wp2
    go_loop [1, 5] (fun q i => ∃ k : Nat, k ≤ n ∧ i = .int .i64 k ∧ q = .int .i64 (s + ((k * 3 : Nat) : Int))) (fun _ i => n - (intOf i).toNat)
    case atStart => exact ⟨0, Nat.zero_le _, rfl, by simp⟩
    case round =>
      obtain ⟨k, hk, rfl, rfl⟩ := hrel
      by_cases hlt : k < n
      · have c0 := H.out.cell (j := k * 3) (by rw [mkS_len]; omega)
        have c1 := H.out.cell (j := k * 3 + 1) (by rw [mkS_len]; omega)
        have c2 := H.out.cell (j := k * 3 + 2) (by rw [mkS_len]; omega)
        rw [mkS_get _ _ (by omega)] at c0 c1 c2
        rw [show (s + ((k * 3 + 1 : Nat) : Int)) = s + ((k * 3 : Nat) : Int) + 1 from by omega] at c1
        rw [show (s + ((k * 3 + 2 : Nat) : Int)) = s + ((k * 3 : Nat) : Int) + 1 + 1 from by omega] at c2
        have e3 : (s + (((k + 1) * 3 : Nat) : Int)) = s + ((k * 3 : Nat) : Int) + 1 + 1 + 1 := by omega
        have hq : ((k * 3 : Nat) : Int) ≤ 3145728 := by omega
        have hq0 : 0 ≤ ((k * 3 : Nat) : Int) := by omega
        generalize ((k * 3 : Nat) : Int) = q at c0 c1 c2 e3 hq hq0 ⊢
        have H3 := Lib.hid e3
        clear e3
        go_wp2_with fail
        go_round
        case rel => exact ⟨k + 1, by omega, by go_num, by rw [H3.out]⟩
        case measure => simp [intOf]; omega
      · obtain rfl : n = k := by omega
        go_wp2_with fail
        go_ret
        exact ⟨rfl, rfl⟩
set_option maxHeartbeats 4000000 in
theorem mkTn (b : Option Addr) (c n base : Nat) (zs : List Int) (s : Int) (w : World) (h : RowF w base 99 (.slice b n c) n zs) (hl : zs.length = n * 2) (hn : n ≤ 1048576) (s0 : 0 ≤ s) (s1 : s ≤ 1000000000000) :
    Calls Try.prog 65 #[.slice b n c, .int .i64 s] w fun e w' => e = .returned (.int .i64 (s + ((n * 2 : Nat) : Int))) ∧ RowF w' base 99 (.slice b n c) n (mkS s (n * 2)) ∧ w.grownBy w' (Value.slice b n c).ownBlock := by
  rcases h with ⟨e, h0⟩ | ⟨g, cap, e, hg, F, hc⟩
  · injection e with e1 e2 e3
    subst e1 e3 h0
    go_enter Try.func65, Try.ntmps65
    go_wp2
    go_rounds 1
    go_ret
    exact ⟨by simp, .inl ⟨rfl, rfl⟩, g_of (Below.refl _ _) _⟩
  · injection e with e1 e2 e3
    subst e1 e3
    have H := Lib.hid F
    have HL := Lib.hid hl
    clear F hl
    go_enter Try.func65, Try.ntmps65
    go_wp2
    go_loopw [1, 5] (fun q i wr => ∃ k : Nat, k ≤ n ∧ i = .int .i64 k ∧ q = .int .i64 (s + ((k * 2 : Nat) : Int)) ∧ Flat wr g 99 (mkTo s zs (k * 2)) ∧ w.grownBy wr (some g)) (fun _ i _ => n - (intOf i).toNat)
    case atStart => exact ⟨0, Nat.zero_le _, rfl, by simp, by rw [Nat.zero_mul, mkTo_zero]; exact H.out, g_of (Below.refl _ _) _⟩
    case round =>
      obtain ⟨k, hk, rfl, rfl, hF, hG⟩ := hrel
      by_cases hlt : k < n
      · have hzl := HL.out
        have l0 := mkTo_len s zs (k * 2)
        have c0 := hF.cell (j := k * 2) (by omega)
        have f0 := hF.frozen (k * 2)
        have c1 := hF.cell (j := k * 2 + 1) (by omega)
        have f1 := hF.frozen (k * 2 + 1)
        have n1 := (hF.set_ (i := k * 2) (by rw [mkTo_len]; omega) (s + ((k * 2 : Nat) : Int)))
        rw [mkTo_set s (by omega)] at n1
        have n2 := (n1.set_ (i := k * 2 + 1) (by rw [mkTo_len]; omega) (s + ((k * 2 + 1 : Nat) : Int)))
        rw [mkTo_set s (by omega)] at n2
        rw [show k * 2 + 1 + 1 = (k + 1) * 2 from by omega] at n2
        have e1 : (s + ((k * 2 + 1 : Nat) : Int)) = s + ((k * 2 : Nat) : Int) + 1 := by omega
        have e2 : (s + (((k + 1) * 2 : Nat) : Int)) = s + ((k * 2 : Nat) : Int) + 1 + 1 := by omega
        rw [e1] at n2
        have hq : ((k * 2 : Nat) : Int) ≤ 2097152 := by omega
        have hq0 : 0 ≤ ((k * 2 : Nat) : Int) := by omega
        generalize ((k * 2 : Nat) : Int) = q at n2 e2 hq hq0 ⊢
        generalize (mkTo s zs (k * 2)).getD (k * 2) 0 = z0 at c0
        generalize (mkTo s zs (k * 2)).getD (k * 2 + 1) 0 = z1 at c1
        have HN := Lib.hid n2
        have HG := Lib.hid hG
        have H3 := Lib.hid e2
        clear n1 n2 e1 e2 l0 hF hG hzl
        go_wp2_with fail
        go_roundw
        case rel => exact ⟨k + 1, by omega, by go_num, by rw [H3.out], HN.out, (g_set2 (g_set2 HG.out))⟩
        case measure => simp [intOf]; omega
      · obtain rfl : n = k := by omega
        have HF := Lib.hid hF
        have HG := Lib.hid hG
        clear hF hG
        go_wp2_with fail
        go_ret
        refine ⟨rfl, .inr ⟨g, c, rfl, hg, ?_, hc⟩, HG.out⟩
        have := HF.out
        rw [← HL.out, mkTo_end, HL.out] at this
        exact this
set_option maxHeartbeats 4000000 in
theorem hkTn (b : Option Addr) (c n base : Nat) (s : Int) (w : World) (h : RowF w base 99 (.slice b n c) n (mkS s (n * 2))) (hn : n ≤ 1048576) (s0 : 0 ≤ s) (s1 : s ≤ 1000000000000) :
    Calls Try.prog 68 #[.slice b n c, .int .i64 s] w fun e w' => e = .returned (.int .i64 (s + ((n * 2 : Nat) : Int))) ∧ w = w' := by
  rcases h with ⟨e, h0⟩ | ⟨g, cap, e, hg, F, hc⟩
  · injection e with e1 e2 e3
    subst e1 e3 h0
    go_enter Try.func68, Try.ntmps68
    go_wp2
    go_rounds 1
    go_ret
    exact ⟨by simp, rfl⟩
  · injection e with e1 e2 e3
    subst e1 e3
    have H := Lib.hid F
    clear F
    go_enter Try.func68, Try.ntmps68
    go_wp2
    go_loop [1, 5] (fun q i => ∃ k : Nat, k ≤ n ∧ i = .int .i64 k ∧ q = .int .i64 (s + ((k * 2 : Nat) : Int))) (fun _ i => n - (intOf i).toNat)
    case atStart => exact ⟨0, Nat.zero_le _, rfl, by simp⟩
    case round =>
      obtain ⟨k, hk, rfl, rfl⟩ := hrel
      by_cases hlt : k < n
      · have c0 := H.out.cell (j := k * 2) (by rw [mkS_len]; omega)
        have c1 := H.out.cell (j := k * 2 + 1) (by rw [mkS_len]; omega)
        rw [mkS_get _ _ (by omega)] at c0 c1
        rw [show (s + ((k * 2 + 1 : Nat) : Int)) = s + ((k * 2 : Nat) : Int) + 1 from by omega] at c1
        have e3 : (s + (((k + 1) * 2 : Nat) : Int)) = s + ((k * 2 : Nat) : Int) + 1 + 1 := by omega
        have hq : ((k * 2 : Nat) : Int) ≤ 2097152 := by omega
        have hq0 : 0 ≤ ((k * 2 : Nat) : Int) := by omega
        generalize ((k * 2 : Nat) : Int) = q at c0 c1 e3 hq hq0 ⊢
        have H3 := Lib.hid e3
        clear e3
        go_wp2_with fail
        go_round
        case rel => exact ⟨k + 1, by omega, by go_num, by rw [H3.out]⟩
        case measure => simp [intOf]; omega
      · obtain rfl : n = k := by omega
        go_wp2_with fail
        go_ret
        exact ⟨rfl, rfl⟩
set_option maxHeartbeats 4000000 in
theorem mkNd (b : Option Addr) (c n base : Nat) (zs : List Int) (s : Int) (w : World) (h : RowF w base 101 (.slice b n c) n zs) (hl : zs.length = n * 5) (hn : n ≤ 1048576) (s0 : 0 ≤ s) (s1 : s ≤ 1000000000000) :
    Calls Try.prog 66 #[.slice b n c, .int .i64 s] w fun e w' => e = .returned (.int .i64 (s + ((n * 5 : Nat) : Int))) ∧ RowF w' base 101 (.slice b n c) n (mkS s (n * 5)) ∧ w.grownBy w' (Value.slice b n c).ownBlock := by
  rcases h with ⟨e, h0⟩ | ⟨g, cap, e, hg, F, hc⟩
  · injection e with e1 e2 e3
    subst e1 e3 h0
    go_enter Try.func66, Try.ntmps66
    go_wp2
    go_rounds 1
    go_ret
    exact ⟨by simp, .inl ⟨rfl, rfl⟩, g_of (Below.refl _ _) _⟩
  · injection e with e1 e2 e3
    subst e1 e3
    have H := Lib.hid F
    have HL := Lib.hid hl
    clear F hl
    go_enter Try.func66, Try.ntmps66
    go_wp2
    go_loopw [1, 5] (fun q i wr => ∃ k : Nat, k ≤ n ∧ i = .int .i64 k ∧ q = .int .i64 (s + ((k * 5 : Nat) : Int)) ∧ Flat wr g 101 (mkTo s zs (k * 5)) ∧ w.grownBy wr (some g)) (fun _ i _ => n - (intOf i).toNat)
    case atStart => exact ⟨0, Nat.zero_le _, rfl, by simp, by rw [Nat.zero_mul, mkTo_zero]; exact H.out, g_of (Below.refl _ _) _⟩
    case round =>
      obtain ⟨k, hk, rfl, rfl, hF, hG⟩ := hrel
      by_cases hlt : k < n
      · have hzl := HL.out
        have l0 := mkTo_len s zs (k * 5)
        have c0 := hF.cell (j := k * 5) (by omega)
        have f0 := hF.frozen (k * 5)
        have c1 := hF.cell (j := k * 5 + 1) (by omega)
        have f1 := hF.frozen (k * 5 + 1)
        have c2 := hF.cell (j := k * 5 + 2) (by omega)
        have f2 := hF.frozen (k * 5 + 2)
        have c3 := hF.cell (j := k * 5 + 3) (by omega)
        have f3 := hF.frozen (k * 5 + 3)
        have c4 := hF.cell (j := k * 5 + 4) (by omega)
        have f4 := hF.frozen (k * 5 + 4)
        have n1 := (hF.set_ (i := k * 5) (by rw [mkTo_len]; omega) (s + ((k * 5 : Nat) : Int)))
        rw [mkTo_set s (by omega)] at n1
        have n2 := (n1.set_ (i := k * 5 + 1) (by rw [mkTo_len]; omega) (s + ((k * 5 + 1 : Nat) : Int)))
        rw [mkTo_set s (by omega)] at n2
        have n3 := (n2.set_ (i := k * 5 + 2) (by rw [mkTo_len]; omega) (s + ((k * 5 + 2 : Nat) : Int)))
        rw [mkTo_set s (by omega)] at n3
        have n4 := (n3.set_ (i := k * 5 + 3) (by rw [mkTo_len]; omega) (s + ((k * 5 + 3 : Nat) : Int)))
        rw [mkTo_set s (by omega)] at n4
        have n5 := (n4.set_ (i := k * 5 + 4) (by rw [mkTo_len]; omega) (s + ((k * 5 + 4 : Nat) : Int)))
        rw [mkTo_set s (by omega)] at n5
        rw [show k * 5 + 4 + 1 = (k + 1) * 5 from by omega] at n5
        have e1 : (s + ((k * 5 + 1 : Nat) : Int)) = s + ((k * 5 : Nat) : Int) + 1 := by omega
        have e2 : (s + ((k * 5 + 2 : Nat) : Int)) = s + ((k * 5 : Nat) : Int) + 1 + 1 := by omega
        have e3 : (s + ((k * 5 + 3 : Nat) : Int)) = s + ((k * 5 : Nat) : Int) + 1 + 1 + 1 := by omega
        have e4 : (s + ((k * 5 + 4 : Nat) : Int)) = s + ((k * 5 : Nat) : Int) + 1 + 1 + 1 + 1 := by omega
        have e5 : (s + (((k + 1) * 5 : Nat) : Int)) = s + ((k * 5 : Nat) : Int) + 1 + 1 + 1 + 1 + 1 := by omega
        rw [e1, e2, e3, e4] at n5
        have hq : ((k * 5 : Nat) : Int) ≤ 5242880 := by omega
        have hq0 : 0 ≤ ((k * 5 : Nat) : Int) := by omega
        generalize ((k * 5 : Nat) : Int) = q at n5 e5 hq hq0 ⊢
        generalize (mkTo s zs (k * 5)).getD (k * 5) 0 = z0 at c0
        generalize (mkTo s zs (k * 5)).getD (k * 5 + 1) 0 = z1 at c1
        generalize (mkTo s zs (k * 5)).getD (k * 5 + 2) 0 = z2 at c2
        generalize (mkTo s zs (k * 5)).getD (k * 5 + 3) 0 = z3 at c3
        generalize (mkTo s zs (k * 5)).getD (k * 5 + 4) 0 = z4 at c4
        have HN := Lib.hid n5
        have HG := Lib.hid hG
        have H3 := Lib.hid e5
        clear n1 n2 n3 n4 n5 e1 e2 e3 e4 e5 l0 hF hG hzl
        go_wp2_with fail
        go_roundw
        case rel => exact ⟨k + 1, by omega, by go_num, by rw [H3.out], HN.out, (g_set2 (g_set2 (g_set2 (g_set2 (g_set2 HG.out)))))⟩
        case measure => simp [intOf]; omega
      · obtain rfl : n = k := by omega
        have HF := Lib.hid hF
        have HG := Lib.hid hG
        clear hF hG
        go_wp2_with fail
        go_ret
        refine ⟨rfl, .inr ⟨g, c, rfl, hg, ?_, hc⟩, HG.out⟩
        have := HF.out
        rw [← HL.out, mkTo_end, HL.out] at this
        exact this
set_option maxHeartbeats 4000000 in
theorem hkNd (b : Option Addr) (c n base : Nat) (s : Int) (w : World) (h : RowF w base 101 (.slice b n c) n (mkS s (n * 5))) (hn : n ≤ 1048576) (s0 : 0 ≤ s) (s1 : s ≤ 1000000000000) :
    Calls Try.prog 69 #[.slice b n c, .int .i64 s] w fun e w' => e = .returned (.int .i64 (s + ((n * 5 : Nat) : Int))) ∧ w = w' := by
  rcases h with ⟨e, h0⟩ | ⟨g, cap, e, hg, F, hc⟩
  · injection e with e1 e2 e3
    subst e1 e3 h0
    go_enter Try.func69, Try.ntmps69
    go_wp2
    go_rounds 1
    go_ret
    exact ⟨by simp, rfl⟩
  · injection e with e1 e2 e3
    subst e1 e3
    have H := Lib.hid F
    clear F
    go_enter Try.func69, Try.ntmps69
    go_wp2
    go_loop [1, 5] (fun q i => ∃ k : Nat, k ≤ n ∧ i = .int .i64 k ∧ q = .int .i64 (s + ((k * 5 : Nat) : Int))) (fun _ i => n - (intOf i).toNat)
    case atStart => exact ⟨0, Nat.zero_le _, rfl, by simp⟩
    case round =>
      obtain ⟨k, hk, rfl, rfl⟩ := hrel
      by_cases hlt : k < n
      · have c0 := H.out.cell (j := k * 5) (by rw [mkS_len]; omega)
        have c1 := H.out.cell (j := k * 5 + 1) (by rw [mkS_len]; omega)
        have c2 := H.out.cell (j := k * 5 + 2) (by rw [mkS_len]; omega)
        have c3 := H.out.cell (j := k * 5 + 3) (by rw [mkS_len]; omega)
        have c4 := H.out.cell (j := k * 5 + 4) (by rw [mkS_len]; omega)
        rw [mkS_get _ _ (by omega)] at c0 c1 c2 c3 c4
        rw [show (s + ((k * 5 + 1 : Nat) : Int)) = s + ((k * 5 : Nat) : Int) + 1 from by omega] at c1
        rw [show (s + ((k * 5 + 2 : Nat) : Int)) = s + ((k * 5 : Nat) : Int) + 1 + 1 from by omega] at c2
        rw [show (s + ((k * 5 + 3 : Nat) : Int)) = s + ((k * 5 : Nat) : Int) + 1 + 1 + 1 from by omega] at c3
        rw [show (s + ((k * 5 + 4 : Nat) : Int)) = s + ((k * 5 : Nat) : Int) + 1 + 1 + 1 + 1 from by omega] at c4
        have e3 : (s + (((k + 1) * 5 : Nat) : Int)) = s + ((k * 5 : Nat) : Int) + 1 + 1 + 1 + 1 + 1 := by omega
        have hq : ((k * 5 : Nat) : Int) ≤ 5242880 := by omega
        have hq0 : 0 ≤ ((k * 5 : Nat) : Int) := by omega
        generalize ((k * 5 : Nat) : Int) = q at c0 c1 c2 c3 c4 e3 hq hq0 ⊢
        have H3 := Lib.hid e3
        clear e3
        go_wp2_with fail
        go_round
        case rel => exact ⟨k + 1, by omega, by go_num, by rw [H3.out]⟩
        case measure => simp [intOf]; omega
      · obtain rfl : n = k := by omega
        go_wp2_with fail
        go_ret
        exact ⟨rfl, rfl⟩
set_option maxHeartbeats 4000000 in
theorem mkAc (b : Option Addr) (c n base : Nat) (zs : List Int) (s : Int) (w : World) (h : RowF w base 45 (.slice b n c) n zs) (hl : zs.length = n * 2) (hn : n ≤ 1048576) (s0 : 0 ≤ s) (s1 : s ≤ 1000000000000) :
    Calls Try.prog 67 #[.slice b n c, .int .i64 s] w fun e w' => e = .returned (.int .i64 (s + ((n * 2 : Nat) : Int))) ∧ RowF w' base 45 (.slice b n c) n (mkS s (n * 2)) ∧ w.grownBy w' (Value.slice b n c).ownBlock := by
  rcases h with ⟨e, h0⟩ | ⟨g, cap, e, hg, F, hc⟩
  · injection e with e1 e2 e3
    subst e1 e3 h0
    go_enter Try.func67, Try.ntmps67
    go_wp2
    go_rounds 1
    go_ret
    exact ⟨by simp, .inl ⟨rfl, rfl⟩, g_of (Below.refl _ _) _⟩
  · injection e with e1 e2 e3
    subst e1 e3
    have H := Lib.hid F
    have HL := Lib.hid hl
    clear F hl
    go_enter Try.func67, Try.ntmps67
    go_wp2
    go_loopw [1, 5] (fun q i wr => ∃ k : Nat, k ≤ n ∧ i = .int .i64 k ∧ q = .int .i64 (s + ((k * 2 : Nat) : Int)) ∧ Flat wr g 45 (mkTo s zs (k * 2)) ∧ w.grownBy wr (some g)) (fun _ i _ => n - (intOf i).toNat)
    case atStart => exact ⟨0, Nat.zero_le _, rfl, by simp, by rw [Nat.zero_mul, mkTo_zero]; exact H.out, g_of (Below.refl _ _) _⟩
    case round =>
      obtain ⟨k, hk, rfl, rfl, hF, hG⟩ := hrel
      by_cases hlt : k < n
      · have hzl := HL.out
        have l0 := mkTo_len s zs (k * 2)
        have c0 := hF.cell (j := k * 2) (by omega)
        have f0 := hF.frozen (k * 2)
        have c1 := hF.cell (j := k * 2 + 1) (by omega)
        have f1 := hF.frozen (k * 2 + 1)
        have n1 := (hF.set_ (i := k * 2) (by rw [mkTo_len]; omega) (s + ((k * 2 : Nat) : Int)))
        rw [mkTo_set s (by omega)] at n1
        have n2 := (n1.set_ (i := k * 2 + 1) (by rw [mkTo_len]; omega) (s + ((k * 2 + 1 : Nat) : Int)))
        rw [mkTo_set s (by omega)] at n2
        rw [show k * 2 + 1 + 1 = (k + 1) * 2 from by omega] at n2
        have e1 : (s + ((k * 2 + 1 : Nat) : Int)) = s + ((k * 2 : Nat) : Int) + 1 := by omega
        have e2 : (s + (((k + 1) * 2 : Nat) : Int)) = s + ((k * 2 : Nat) : Int) + 1 + 1 := by omega
        rw [e1] at n2
        have hq : ((k * 2 : Nat) : Int) ≤ 2097152 := by omega
        have hq0 : 0 ≤ ((k * 2 : Nat) : Int) := by omega
        generalize ((k * 2 : Nat) : Int) = q at n2 e2 hq hq0 ⊢
        generalize (mkTo s zs (k * 2)).getD (k * 2) 0 = z0 at c0
        generalize (mkTo s zs (k * 2)).getD (k * 2 + 1) 0 = z1 at c1
        have HN := Lib.hid n2
        have HG := Lib.hid hG
        have H3 := Lib.hid e2
        clear n1 n2 e1 e2 l0 hF hG hzl
        go_wp2_with fail
        go_roundw
        case rel => exact ⟨k + 1, by omega, by go_num, by rw [H3.out], HN.out, (g_set2 (g_set2 HG.out))⟩
        case measure => simp [intOf]; omega
      · obtain rfl : n = k := by omega
        have HF := Lib.hid hF
        have HG := Lib.hid hG
        clear hF hG
        go_wp2_with fail
        go_ret
        refine ⟨rfl, .inr ⟨g, c, rfl, hg, ?_, hc⟩, HG.out⟩
        have := HF.out
        rw [← HL.out, mkTo_end, HL.out] at this
        exact this
set_option maxHeartbeats 4000000 in
theorem hkAc (b : Option Addr) (c n base : Nat) (s : Int) (w : World) (h : RowF w base 45 (.slice b n c) n (mkS s (n * 2))) (hn : n ≤ 1048576) (s0 : 0 ≤ s) (s1 : s ≤ 1000000000000) :
    Calls Try.prog 70 #[.slice b n c, .int .i64 s] w fun e w' => e = .returned (.int .i64 (s + ((n * 2 : Nat) : Int))) ∧ w = w' := by
  rcases h with ⟨e, h0⟩ | ⟨g, cap, e, hg, F, hc⟩
  · injection e with e1 e2 e3
    subst e1 e3 h0
    go_enter Try.func70, Try.ntmps70
    go_wp2
    go_rounds 1
    go_ret
    exact ⟨by simp, rfl⟩
  · injection e with e1 e2 e3
    subst e1 e3
    have H := Lib.hid F
    clear F
    go_enter Try.func70, Try.ntmps70
    go_wp2
    go_loop [1, 5] (fun q i => ∃ k : Nat, k ≤ n ∧ i = .int .i64 k ∧ q = .int .i64 (s + ((k * 2 : Nat) : Int))) (fun _ i => n - (intOf i).toNat)
    case atStart => exact ⟨0, Nat.zero_le _, rfl, by simp⟩
    case round =>
      obtain ⟨k, hk, rfl, rfl⟩ := hrel
      by_cases hlt : k < n
      · have c0 := H.out.cell (j := k * 2) (by rw [mkS_len]; omega)
        have c1 := H.out.cell (j := k * 2 + 1) (by rw [mkS_len]; omega)
        rw [mkS_get _ _ (by omega)] at c0 c1
        rw [show (s + ((k * 2 + 1 : Nat) : Int)) = s + ((k * 2 : Nat) : Int) + 1 from by omega] at c1
        have e3 : (s + (((k + 1) * 2 : Nat) : Int)) = s + ((k * 2 : Nat) : Int) + 1 + 1 := by omega
        have hq : ((k * 2 : Nat) : Int) ≤ 2097152 := by omega
        have hq0 : 0 ≤ ((k * 2 : Nat) : Int) := by omega
        generalize ((k * 2 : Nat) : Int) = q at c0 c1 e3 hq hq0 ⊢
        have H3 := Lib.hid e3
        clear e3
        go_wp2_with fail
        go_round
        case rel => exact ⟨k + 1, by omega, by go_num, by rw [H3.out]⟩
        case measure => simp [intOf]; omega
      · obtain rfl : n = k := by omega
        go_wp2_with fail
        go_ret
        exact ⟨rfl, rfl⟩
end Go.Proofs.Ytgmmdpdlekpmfaa
namespace Go.Proofs.Ytgmmdpdlekpmfaa
open Go.RowKit
set_option linter.unusedSimpArgs false
set_option linter.unusedVariables false

/-- what marks on deeds in the blocks lo to hi leave -/
def MarkedDs (lo hi : Nat) (w : World) (e : Ending) (w' : World) : Prop := ∃ s : Int, e = .returned (.int .i64 s) ∧ 0 ≤ s ∧ (∀ g t zs, Flat w g t zs → hi ≤ g → Flat w' g t zs) ∧ ∀ W0 : World, W0.heap.size ≤ lo → Below W0.heap.size W0 w → Below W0.heap.size W0 w'
theorem sum_zss (ds : List Dd) {k : Nat} (hk : k < ds.length) : sumLn ((zss ds).drop k) = ((ds.getD k dd0).zs.length : Int) + sumLn ((zss ds).drop (k + 1)) := by
  rw [sumLn_at (by rw [zss_len]; exact hk), zss_get]
/-- the row while it is marked: the lists are where they were -/
def MkRow (w : World) (g : Nat) (G : Nat → Nat) (ds : List Dd) : Prop := ∃ f : Nat → Value, w.rowIs g 113 (ds.length * 6) f ∧ (∀ j, j < ds.length → f (j * 6 + 5) = .slice (some ⟨G j, 0, none⟩) (ds.getD j dd0).zs.length (ds.getD j dd0).zs.length) ∧ ∀ j q, j < ds.length → q < 5 → ∃ z : Int, f (j * 6 + q) = .int .i64 z
theorem RowDs.mk {w : World} {g : Nat} {G : Nat → Nat} {ds : List Dd} (h : RowDs w g G ds.length ds) : MkRow w g G ds := by
  refine ⟨_, h.1, fun j hj => ?_, fun j q hj hq => ?_⟩
  · try dsimp only
    rw [if_pos (by omega), show (j * 6 + 5) / 6 = j from by omega, show (j * 6 + 5) % 6 = 5 from by omega]; rfl
  · try dsimp only
    rw [if_pos (by omega), show (j * 6 + q) / 6 = j from by omega, show (j * 6 + q) % 6 = q from by omega]
    have hm : q = 0 ∨ q = 1 ∨ q = 2 ∨ q = 3 ∨ q = 4 := by omega
    rcases hm with e | e | e | e | e <;> subst e <;> exact ⟨_, rfl⟩
theorem MkRow.lt {w : World} {g : Nat} {G : Nat → Nat} {ds : List Dd} (h : MkRow w g G ds) : g < w.heap.size := by
  obtain ⟨f, h, _⟩ := h; exact h.lt
theorem MkRow.cells {w : World} {g : Nat} {G : Nat → Nat} {ds : List Dd} (h : MkRow w g G ds) {k : Nat} (hk : k < ds.length) : ∃ z0 z1 z2 z3 z4 : Int, w.cell? ⟨g, k * 6, none⟩ = some (.int .i64 z0) ∧ w.cell? ⟨g, k * 6 + 1, none⟩ = some (.int .i64 z1) ∧ w.cell? ⟨g, k * 6 + 2, none⟩ = some (.int .i64 z2) ∧ w.cell? ⟨g, k * 6 + 3, none⟩ = some (.int .i64 z3) ∧ w.cell? ⟨g, k * 6 + 4, none⟩ = some (.int .i64 z4) ∧ w.cell? ⟨g, k * 6 + 5, none⟩ = some (.slice (some ⟨G k, 0, none⟩) (ds.getD k dd0).zs.length (ds.getD k dd0).zs.length) ∧ ∀ j, w.frozen? ⟨g, j, none⟩ = false := by
  obtain ⟨f, hr, h5, hz⟩ := h
  obtain ⟨z0, e0⟩ := hz k 0 hk (by omega)
  obtain ⟨z1, e1⟩ := hz k 1 hk (by omega)
  obtain ⟨z2, e2⟩ := hz k 2 hk (by omega)
  obtain ⟨z3, e3⟩ := hz k 3 hk (by omega)
  obtain ⟨z4, e4⟩ := hz k 4 hk (by omega)
  have c0 := hr.cell (i := k * 6 + 0) (by omega)
  have c1 := hr.cell (i := k * 6 + 1) (by omega)
  have c2 := hr.cell (i := k * 6 + 2) (by omega)
  have c3 := hr.cell (i := k * 6 + 3) (by omega)
  have c4 := hr.cell (i := k * 6 + 4) (by omega)
  have c5 := hr.cell (i := k * 6 + 5) (by omega)
  rw [e0] at c0
  rw [e1] at c1
  rw [e2] at c2
  rw [e3] at c3
  rw [e4] at c4
  rw [h5 k hk] at c5
  exact ⟨z0, z1, z2, z3, z4, c0, c1, c2, c3, c4, c5, hr.frozen⟩
theorem MkRow.set {w : World} {g : Nat} {G : Nat → Nat} {ds : List Dd} (h : MkRow w g G ds) {k i : Nat} (hi : i < 5) (z : Int) : MkRow (w.setCell ⟨g, k * 6 + i, none⟩ (.int .i64 z)) g G ds := by
  obtain ⟨f, hr, h5, hz⟩ := h
  refine ⟨_, hr.set (k * 6 + i) _, fun j hj => ?_, fun j q hj hq => ?_⟩
  · try dsimp only
    rw [if_neg (by omega)]; exact h5 j hj
  · try dsimp only
    by_cases e : j * 6 + q = k * 6 + i
    · exact ⟨z, if_pos e⟩
    · rw [if_neg e]; exact hz j q hj hq
theorem MkRow.grown {w w' : World} {g q : Nat} {G : Nat → Nat} {ds : List Dd} (h : MkRow w g G ds) (hG : w.grownBy w' (some q)) (hne : g ≠ q) : MkRow w' g G ds := by
  obtain ⟨f, hr, h5, hz⟩ := h
  exact ⟨f, World.rowIs.of_block hr (hG.block g hr.lt (fun e => by injection e with e; exact hne e)), h5, hz⟩
theorem set5_heap {w : World} {g q : Nat} {v0 v1 v2 v3 v4 : Value} {k : Nat} (hq : q ≠ g) : (World.setCell (World.setCell (World.setCell (World.setCell (World.setCell w ⟨g, k * 6, none⟩ v0) ⟨g, k * 6 + 1, none⟩ v1) ⟨g, k * 6 + 2, none⟩ v2) ⟨g, k * 6 + 3, none⟩ v3) ⟨g, k * 6 + 4, none⟩ v4).heap[q]? = w.heap[q]? := by
  rw [Below.heap_setCell _ _ _ q hq, Below.heap_setCell _ _ _ q hq, Below.heap_setCell _ _ _ q hq, Below.heap_setCell _ _ _ q hq, Below.heap_setCell _ _ _ q hq]
set_option maxRecDepth 100000 in
set_option maxHeartbeats 6000000 in
/-- laws.markDeedS -/
theorem lmarkDs (g cap lo hi : Nat) (G : Nat → Nat) (ds : List Dd) (s : Int) (w : World) (h : RowDs w g G ds.length ds) (hn : ds.length ≤ 1048576) (hr : ∀ i, i < ds.length → (ds.getD i dd0).zs.length ≤ 1048576) (hs : sumLn (zss ds) ≤ 1048576) (h0 : 0 ≤ s) (h1 : s ≤ 100000000) (hg : lo ≤ g ∧ g < hi) (hb : ∀ j, j < ds.length → lo ≤ G j ∧ G j < hi) :
    Calls Try.prog 37 #[.slice (some ⟨g, 0, none⟩) ds.length cap, .int .i64 s] w (MarkedDs lo hi w) := by
  have HM := Lib.hid h.mk
  have HRW := Lib.hid (fun j (hj : j < ds.length) => h.2.1 j hj)
  have HOR := Lib.hid h.2.2
  have HR := Lib.hid hr
  have HBB := Lib.hid hb
  have HS := Lib.hid hs
  have HG := Lib.hid hg
  clear h hr hb hs hg
  go_enter Try.func37, Try.ntmps37
  go_wp2_with fail
  go_loopw [1, 5] (fun q i wr => ∃ (k : Nat) (s0 : Int), k ≤ ds.length ∧ i = .int .i64 k ∧ q = .int .i64 s0 ∧ 0 ≤ s0 ∧ Hid (s0 + sumLn ((zss ds).drop k) = s + 5 * (k : Int) + sumLn (zss ds) ∧ MkRow wr g G ds ∧ (∀ j, k ≤ j → j < ds.length → Row wr (G j) (ds.getD j dd0).zs) ∧ (∀ g t zs, Flat w g t zs → hi ≤ g → Flat wr g t zs) ∧ ∀ W0 : World, W0.heap.size ≤ lo → Below W0.heap.size W0 w → Below W0.heap.size W0 wr)) (fun _ i _ => ds.length - (intOf i).toNat)
  case atStart => exact ⟨0, s, Nat.zero_le _, rfl, rfl, h0, ⟨by simp, HM.out, fun j _ hj => (HRW.out j hj).2, fun _ _ _ a _ => a, fun _ _ a => a⟩⟩
  case round =>
    obtain ⟨k, s0, hk, rfl, rfl, hs0, HI⟩ := hrel
    by_cases hlt : k < ds.length
    · obtain ⟨z0, z1, z2, z3, z4, c0, c1, c2, c3, c4, c5, hf⟩ := HI.out.2.1.cells hlt
      have hsum := HI.out.1
      rw [sum_zss ds hlt] at hsum
      have p0 := sumLn_pos ((zss ds).drop (k + 1))
      have p1 := HS.out
      have hl := HR.out k hlt
      have hs1 : s0 ≤ 900000000 := by omega
      have f0 := hf (k * 6)
      have f1 := hf (k * 6 + 1)
      have f2 := hf (k * 6 + 2)
      have f3 := hf (k * 6 + 3)
      have f4 := hf (k * 6 + 4)
      have hk0 : (0 : Int) ≤ (k : Int) := by omega
      have hk1 : (k : Int) < (ds.length : Int) := by omega
      have HSM := Lib.hid hsum
      have HN1 : Hid (MkRow (World.setCell (World.setCell (World.setCell (World.setCell (World.setCell (wr) ⟨g, k * 6, none⟩ (.int .i64 (s0))) ⟨g, k * 6 + 1, none⟩ (.int .i64 (s0 + 1))) ⟨g, k * 6 + 2, none⟩ (.int .i64 (s0 + 1 + 1))) ⟨g, k * 6 + 3, none⟩ (.int .i64 (s0 + 1 + 1 + 1))) ⟨g, k * 6 + 4, none⟩ (.int .i64 (s0 + 1 + 1 + 1 + 1))) g G ds) := ((((HI.out.2.1.set (k := k) (i := 0) (by omega) _).set (k := k) (i := 1) (by omega) _).set (k := k) (i := 2) (by omega) _).set (k := k) (i := 3) (by omega) _).set (k := k) (i := 4) (by omega) _
      have HN2 : Hid (∀ q, q ≠ g → (World.setCell (World.setCell (World.setCell (World.setCell (World.setCell (wr) ⟨g, k * 6, none⟩ (.int .i64 (s0))) ⟨g, k * 6 + 1, none⟩ (.int .i64 (s0 + 1))) ⟨g, k * 6 + 2, none⟩ (.int .i64 (s0 + 1 + 1))) ⟨g, k * 6 + 3, none⟩ (.int .i64 (s0 + 1 + 1 + 1))) ⟨g, k * 6 + 4, none⟩ (.int .i64 (s0 + 1 + 1 + 1 + 1))).heap[q]? = wr.heap[q]?) := fun q hq => set5_heap hq
      have HN3 : Hid (∀ W0 : World, W0.heap.size ≤ lo → Below W0.heap.size W0 w → Below W0.heap.size W0 (World.setCell (World.setCell (World.setCell (World.setCell (World.setCell (wr) ⟨g, k * 6, none⟩ (.int .i64 (s0))) ⟨g, k * 6 + 1, none⟩ (.int .i64 (s0 + 1))) ⟨g, k * 6 + 2, none⟩ (.int .i64 (s0 + 1 + 1))) ⟨g, k * 6 + 3, none⟩ (.int .i64 (s0 + 1 + 1 + 1))) ⟨g, k * 6 + 4, none⟩ (.int .i64 (s0 + 1 + 1 + 1 + 1)))) := fun W0 h0 hB => by
        have b := HI.out.2.2.2.2 W0 h0 hB
        have l := Nat.le_trans h0 HG.out.1
        exact ((((b.setCell (p := ⟨g, _, none⟩) l _).setCell (p := ⟨g, _, none⟩) l _).setCell (p := ⟨g, _, none⟩) l _).setCell (p := ⟨g, _, none⟩) l _).setCell (p := ⟨g, _, none⟩) l _
      obtain ⟨len, hlen⟩ : ∃ len, (ds.getD k dd0).zs.length = len := ⟨_, rfl⟩
      rw [hlen] at c5 HSM
      have HLE := Lib.hid hlen
      clear hsum p0 p1 hl hf hlen
      go_wp2_with fail
      generalize World.setCell (World.setCell (World.setCell (World.setCell (World.setCell (wr) ⟨g, k * 6, none⟩ (.int .i64 (s0))) ⟨g, k * 6 + 1, none⟩ (.int .i64 (s0 + 1))) ⟨g, k * 6 + 2, none⟩ (.int .i64 (s0 + 1 + 1))) ⟨g, k * 6 + 3, none⟩ (.int .i64 (s0 + 1 + 1 + 1))) ⟨g, k * 6 + 4, none⟩ (.int .i64 (s0 + 1 + 1 + 1 + 1)) = u1 at HN1 HN2 HN3 ⊢
      have hrow : Row u1 (G k) (ds.getD k dd0).zs := World.rowIs.of_block (HI.out.2.2.1 k (Nat.le_refl _) hlt) (HN2.out _ (by have := (HRW.out k hlt).1; omega))
      have CM := lmarkS (G k) len (ds.getD k dd0).zs u1 (s0 + 1 + 1 + 1 + 1 + 1) hrow (HR.out k hlt) (by omega) (by omega)
      rw [HLE.out] at CM
      refine CM.mono ?_
      rintro e w1 ⟨rfl, hG⟩
      have HN : Hid (s0 + 1 + 1 + 1 + 1 + 1 + (len : Int) + sumLn ((zss ds).drop (k + 1)) = s + 5 * ((k + 1 : Nat) : Int) + sumLn (zss ds) ∧ MkRow w1 g G ds ∧ (∀ j, k + 1 ≤ j → j < ds.length → Row w1 (G j) (ds.getD j dd0).zs) ∧ (∀ g t zs, Flat w g t zs → hi ≤ g → Flat w1 g t zs) ∧ ∀ W0 : World, W0.heap.size ≤ lo → Below W0.heap.size W0 w → Below W0.heap.size W0 w1) := by
        refine ⟨by have := HSM.out; push_cast; omega, HN1.out.grown hG (by have := (HRW.out k hlt).1; omega), fun j h1 h2 => ?_, fun q t zs F hq => ?_, fun W0 h0 hB => below_g (HN3.out W0 h0 hB) hG (by have := (HBB.out k hlt).1; omega)⟩
        · have r1 : Row u1 (G j) (ds.getD j dd0).zs := World.rowIs.of_block (HI.out.2.2.1 j (by omega) h2) (HN2.out _ (by have := (HRW.out j h2).1; omega))
          exact row_apart r1 hG (by have := HOR.out k j (by omega) h2; omega)
        · have F1 := HI.out.2.2.2.1 q t zs F hq
          have hqg : q ≠ g := by have := HG.out.2; omega
          have F2 : Flat u1 q t zs := F1.of_block (HN2.out q hqg)
          exact F2.of_block (hG.block q F2.lt (fun c => by injection c with c; have := (HBB.out k hlt).2; omega))
      clear hG HN1 HN2 HN3 CM hrow HSM HI
      go_wp2_with fail
      go_roundw
      case rel => exact ⟨k + 1, s0 + 1 + 1 + 1 + 1 + 1 + (len : Int), by omega, by go_num, rfl, by omega, HN⟩
      case measure => simp [intOf]; omega
    · go_wp2_with fail
      go_ret
      exact ⟨s0, rfl, hs0, HI.out.2.2.2.1, HI.out.2.2.2.2⟩
end Go.Proofs.Ytgmmdpdlekpmfaa
namespace Go.Proofs.Ytgmmdpdlekpmfaa
open Go.RowKit
set_option linter.unusedSimpArgs false
set_option linter.unusedVariables false

set_option maxRecDepth 100000 in
set_option maxHeartbeats 6000000 in
/-- laws.eqDeed -/
theorem leqDd (A1 A2 : Option Addr) (p1 p2 : Nat) (x : Dd) (w : World) (h1 : IsInts w A1 x.zs) (h2 : IsInts w A2 x.zs) (hn : x.zs.length ≤ 1048576) :
    Calls Try.prog 85 #[.agg #[.int .i64 x.k, .int .i64 x.o, .int .i64 x.t, .int .i64 x.n, .int .i64 x.d, .slice A1 x.zs.length p1], .agg #[.int .i64 x.k, .int .i64 x.o, .int .i64 x.t, .int .i64 x.n, .int .i64 x.d, .slice A2 x.zs.length p2]] w fun e w' => e = .returned (.bool true) ∧ Below w.heap.size w w' := by
  obtain ⟨k, o, t, n, d, zs⟩ := x
  dsimp only at h1 h2 hn ⊢
  have H1 := Lib.hid (fun W (hW : Below w.heap.size w W) => ints_below h1 hW)
  have H2 := Lib.hid (fun W (hW : Below w.heap.size w W) => ints_below h2 hW)
  clear h1 h2
  have K1 := (Blk.new w 113 #[.int .i64 k, .int .i64 o, .int .i64 t, .int .i64 n, .int .i64 d, .slice A1 zs.length p1]).alloc (.cells #[.int .i64 k, .int .i64 o, .int .i64 t, .int .i64 n, .int .i64 d, .slice A2 zs.length p2] 113)
  have K2 := Blk.new (w.alloc (.cells #[.int .i64 k, .int .i64 o, .int .i64 t, .int .i64 n, .int .i64 d, .slice A1 zs.length p1] 113)) 113 #[.int .i64 k, .int .i64 o, .int .i64 t, .int .i64 n, .int .i64 d, .slice A2 zs.length p2]
  rw [World.size_alloc] at K2
  have B : Below w.heap.size w ((w.alloc (.cells #[.int .i64 k, .int .i64 o, .int .i64 t, .int .i64 n, .int .i64 d, .slice A1 zs.length p1] 113)).alloc (.cells #[.int .i64 k, .int .i64 o, .int .i64 t, .int .i64 n, .int .i64 d, .slice A2 zs.length p2] 113)) := by go_grown
  obtain ⟨q0, q1, q2, q3, q4, q5⟩ := cells6 K1
  obtain ⟨r0, r1, r2, r3, r4, r5⟩ := cells6 K2
  have b0 : (k != k) = false := by simp
  have b1 : (o != o) = false := by simp
  have b2 : (t != t) = false := by simp
  go_enter Try.func85, Try.ntmps85
  go_wp2_with fail
  refine (leqFrac n d _).mono ?_
  rintro e u1 ⟨rfl, C⟩
  clear q0 q1 q2 q3 q4 q5 r0 r1 r2 r3 r4 r5
  replace B := bel_tr B C
  replace K1 := K1.next C
  replace K2 := K2.next C
  clear C
  obtain ⟨q0, q1, q2, q3, q4, q5⟩ := cells6 K1
  obtain ⟨r0, r1, r2, r3, r4, r5⟩ := cells6 K2
  go_wp2_with fail
  refine (leqIntS A1 A2 p1 p2 zs _ (H1.out _ B) (H2.out _ B) hn).mono ?_
  rintro e u2 ⟨rfl, C⟩
  clear q0 q1 q2 q3 q4 q5 r0 r1 r2 r3 r4 r5 K1 K2
  replace B := bel_tr B C
  go_wp2_with fail
  go_ret
  exact ⟨rfl, B⟩
set_option maxRecDepth 100000 in
set_option maxHeartbeats 6000000 in
/-- laws.eqDeedS of two readings of the same deeds -/
theorem leqDs (a b : Option Addr) (ca cb : Nat) (ds : List Dd) (w : World) (ha : IsDds w a ds) (hb : IsDds w b ds) (hn : ds.length ≤ 1048576) :
    Calls Try.prog 35 #[.slice a ds.length ca, .slice b ds.length cb] w fun e w' => e = .returned (.bool true) ∧ Below w.heap.size w w' := by
  have HA := Lib.hid ha
  have HB := Lib.hid hb
  clear ha hb
  have B := Below.refl w.heap.size w
  go_enter Try.func35, Try.ntmps35
  go_wp2_with fail
  go_loopw [5] (fun i wr => ∃ k : Nat, k ≤ ds.length ∧ i = .int .i64 k ∧ Below w.heap.size w wr) (fun i _ => ds.length - (intOf i).toNat)
  case atStart => exact ⟨0, Nat.zero_le _, rfl, B⟩
  case round =>
    clear B
    obtain ⟨k, hk, rfl, B⟩ := hrel
    by_cases hlt : k < ds.length
    · rcases HA.out with hd0 | ⟨g1, o1, rfl, hg1⟩
      · rw [hd0] at hlt; exact absurd hlt (Nat.not_lt_zero _)
      rcases HB.out with hd0 | ⟨g2, o2, rfl, hg2⟩
      · rw [hd0] at hlt; exact absurd hlt (Nat.not_lt_zero _)
      obtain ⟨A1, p1, c0, c1, c2, c3, c4, c5, i1, hl, _⟩ := dd_below (hg1 k hlt) B
      obtain ⟨A2, p2, e0, e1, e2, e3, e4, e5, i2, _, _⟩ := dd_below (hg2 k hlt) B
      generalize ds.getD k dd0 = x at c0 c1 c2 c3 c4 c5 e0 e1 e2 e3 e4 e5 i1 i2 hl
      have lt1 := World.block_lt_of_cell? wr _ c0
      have lt2 := World.block_lt_of_cell? wr _ e0
      have HI1 := Lib.hid i1
      have HI2 := Lib.hid i2
      clear i1 i2
      have k0 : (0 : Int) ≤ (k : Int) := by omega
      have k1 : (k : Int) < (ds.length : Int) := by omega
      go_wp2_with fail
      have HMK1 := Lib.hid (fun (W : World) (hW : Below wr.heap.size wr W) => (⟨⟨(hW.cell (p := ⟨g1, o1 + k * 6, none⟩) (lt1)).trans c0, (hW.cell (p := ⟨g1, o1 + k * 6 + 1, none⟩) (lt1)).trans c1, (hW.cell (p := ⟨g1, o1 + k * 6 + 2, none⟩) (lt1)).trans c2, (hW.cell (p := ⟨g1, o1 + k * 6 + 3, none⟩) (lt1)).trans c3, (hW.cell (p := ⟨g1, o1 + k * 6 + 4, none⟩) (lt1)).trans c4, (hW.cell (p := ⟨g1, o1 + k * 6 + 5, none⟩) (lt1)).trans c5, (hW.cell (p := ⟨g2, o2 + k * 6, none⟩) (lt2)).trans e0, (hW.cell (p := ⟨g2, o2 + k * 6 + 1, none⟩) (lt2)).trans e1, (hW.cell (p := ⟨g2, o2 + k * 6 + 2, none⟩) (lt2)).trans e2, (hW.cell (p := ⟨g2, o2 + k * 6 + 3, none⟩) (lt2)).trans e3, (hW.cell (p := ⟨g2, o2 + k * 6 + 4, none⟩) (lt2)).trans e4, (hW.cell (p := ⟨g2, o2 + k * 6 + 5, none⟩) (lt2)).trans e5⟩, hW⟩ : (W.cell? ⟨g1, o1 + k * 6, none⟩ = some (.int .i64 x.k) ∧ W.cell? ⟨g1, o1 + k * 6 + 1, none⟩ = some (.int .i64 x.o) ∧ W.cell? ⟨g1, o1 + k * 6 + 2, none⟩ = some (.int .i64 x.t) ∧ W.cell? ⟨g1, o1 + k * 6 + 3, none⟩ = some (.int .i64 x.n) ∧ W.cell? ⟨g1, o1 + k * 6 + 4, none⟩ = some (.int .i64 x.d) ∧ W.cell? ⟨g1, o1 + k * 6 + 5, none⟩ = some (.slice A1 x.zs.length p1) ∧ W.cell? ⟨g2, o2 + k * 6, none⟩ = some (.int .i64 x.k) ∧ W.cell? ⟨g2, o2 + k * 6 + 1, none⟩ = some (.int .i64 x.o) ∧ W.cell? ⟨g2, o2 + k * 6 + 2, none⟩ = some (.int .i64 x.t) ∧ W.cell? ⟨g2, o2 + k * 6 + 3, none⟩ = some (.int .i64 x.n) ∧ W.cell? ⟨g2, o2 + k * 6 + 4, none⟩ = some (.int .i64 x.d) ∧ W.cell? ⟨g2, o2 + k * 6 + 5, none⟩ = some (.slice A2 x.zs.length p2)) ∧ Below wr.heap.size wr W))
      refine wp_region_held_drew (S := (fun w' => (w'.cell? ⟨g1, o1 + k * 6, none⟩ = some (.int .i64 x.k) ∧ w'.cell? ⟨g1, o1 + k * 6 + 1, none⟩ = some (.int .i64 x.o) ∧ w'.cell? ⟨g1, o1 + k * 6 + 2, none⟩ = some (.int .i64 x.t) ∧ w'.cell? ⟨g1, o1 + k * 6 + 3, none⟩ = some (.int .i64 x.n) ∧ w'.cell? ⟨g1, o1 + k * 6 + 4, none⟩ = some (.int .i64 x.d) ∧ w'.cell? ⟨g1, o1 + k * 6 + 5, none⟩ = some (.slice A1 x.zs.length p1) ∧ w'.cell? ⟨g2, o2 + k * 6, none⟩ = some (.int .i64 x.k) ∧ w'.cell? ⟨g2, o2 + k * 6 + 1, none⟩ = some (.int .i64 x.o) ∧ w'.cell? ⟨g2, o2 + k * 6 + 2, none⟩ = some (.int .i64 x.t) ∧ w'.cell? ⟨g2, o2 + k * 6 + 3, none⟩ = some (.int .i64 x.n) ∧ w'.cell? ⟨g2, o2 + k * 6 + 4, none⟩ = some (.int .i64 x.d) ∧ w'.cell? ⟨g2, o2 + k * 6 + 5, none⟩ = some (.slice A2 x.zs.length p2)) ∧ Below wr.heap.size wr w')) (by kernel_rfl) ?_ (fun hHeld => ?_)
      · exact ⟨⟨c0, c1, c2, c3, c4, c5, e0, e1, e2, e3, e4, e5⟩, (Below.refl _ _).drew⟩
      refine wpAnyH_take (i := 0) (oi := ?ooa2_) (v := ?vva2_) ?hia2_ (by kernel_rfl) ?h3a2_ ?h4a2_ ?h5a2_ ?h6a2_ (by assumption) ?h8a2_
      case hia2_ => (simp only [List.getElem?_toArray, List.getElem?_cons_succ, List.getElem?_cons_zero]; rfl)
      case h3a2_ => kernel_rfl
      case h4a2_ => kernel_rfl
      case h6a2_ => (refine Or.inl ⟨by rfl, ?_⟩; intro w hSw; (try dsimp only at hSw); (go_simp <;> with_reducible rfl))
      case h5a2_ => exact fun _ _ _ h => h
      try simp only [Act.put, List.setIfInBounds_toArray, List.set_cons_zero, List.set_cons_succ]
      refine wpAnyH_take (i := 1) (oi := ?ooa3_) (v := ?vva3_) ?hia3_ (by kernel_rfl) ?h3a3_ ?h4a3_ ?h5a3_ ?h6a3_ (by assumption) ?h8a3_
      case hia3_ => (simp only [List.getElem?_toArray, List.getElem?_cons_succ, List.getElem?_cons_zero]; rfl)
      case h3a3_ => kernel_rfl
      case h4a3_ => kernel_rfl
      case h6a3_ => (refine Or.inl ⟨by rfl, ?_⟩; intro w hSw; (try dsimp only at hSw); (go_simp <;> with_reducible rfl))
      case h5a3_ => exact fun _ _ _ h => h
      try simp only [Act.put, List.setIfInBounds_toArray, List.set_cons_zero, List.set_cons_succ]
      refine wpAnyH_take (i := 2) (oi := ?ooa4_) (v := ?vva4_) ?hia4_ (by kernel_rfl) ?h3a4_ ?h4a4_ ?h5a4_ ?h6a4_ (by assumption) ?h8a4_
      case hia4_ => (simp only [List.getElem?_toArray, List.getElem?_cons_succ, List.getElem?_cons_zero]; rfl)
      case h3a4_ => kernel_rfl
      case h4a4_ => kernel_rfl
      case h6a4_ => (refine Or.inl ⟨by rfl, ?_⟩; intro w hSw; (try dsimp only at hSw); (go_simp <;> with_reducible rfl))
      case h5a4_ => exact fun _ _ _ h => h
      try simp only [Act.put, List.setIfInBounds_toArray, List.set_cons_zero, List.set_cons_succ]
      refine wpAnyH_take (i := 3) (oi := ?ooa5_) (v := ?vva5_) ?hia5_ (by kernel_rfl) ?h3a5_ ?h4a5_ ?h5a5_ ?h6a5_ (by assumption) ?h8a5_
      case hia5_ => (simp only [List.getElem?_toArray, List.getElem?_cons_succ, List.getElem?_cons_zero]; rfl)
      case h3a5_ => kernel_rfl
      case h4a5_ => kernel_rfl
      case h6a5_ => (refine Or.inl ⟨by rfl, ?_⟩; intro w hSw; (try dsimp only at hSw); (go_simp <;> with_reducible rfl))
      case h5a5_ => exact fun _ _ _ h => h
      try simp only [Act.put, List.setIfInBounds_toArray, List.set_cons_zero, List.set_cons_succ]
      refine wpAnyH_take (i := 4) (oi := ?ooa6_) (v := ?vva6_) ?hia6_ (by kernel_rfl) ?h3a6_ ?h4a6_ ?h5a6_ ?h6a6_ (by assumption) ?h8a6_
      case hia6_ => (simp only [List.getElem?_toArray, List.getElem?_cons_succ, List.getElem?_cons_zero]; rfl)
      case h3a6_ => kernel_rfl
      case h4a6_ => kernel_rfl
      case h6a6_ => (refine Or.inl ⟨by rfl, ?_⟩; intro w hSw; (try dsimp only at hSw); (go_simp <;> with_reducible rfl))
      case h5a6_ => exact fun _ _ _ h => h
      try simp only [Act.put, List.setIfInBounds_toArray, List.set_cons_zero, List.set_cons_succ]
      refine wpAnyH_take (i := 5) (oi := ?ooa7_) (v := ?vva7_) ?hia7_ (by kernel_rfl) ?h3a7_ ?h4a7_ ?h5a7_ ?h6a7_ (by assumption) ?h8a7_
      case hia7_ => (simp only [List.getElem?_toArray, List.getElem?_cons_succ, List.getElem?_cons_zero]; rfl)
      case h3a7_ => kernel_rfl
      case h4a7_ => kernel_rfl
      case h6a7_ => (refine Or.inl ⟨by rfl, ?_⟩; intro w hSw; (try dsimp only at hSw); (go_simp <;> with_reducible rfl))
      case h5a7_ => exact fun _ _ _ h => h
      try simp only [Act.put, List.setIfInBounds_toArray, List.set_cons_zero, List.set_cons_succ]
      refine wpAnyH_take (i := 6) (oi := ?ooa8_) (v := ?vva8_) ?hia8_ (by kernel_rfl) ?h3a8_ ?h4a8_ ?h5a8_ ?h6a8_ (by assumption) ?h8a8_
      case hia8_ => (simp only [List.getElem?_toArray, List.getElem?_cons_succ, List.getElem?_cons_zero]; rfl)
      case h3a8_ => kernel_rfl
      case h4a8_ => kernel_rfl
      case h6a8_ => (refine Or.inl ⟨by rfl, ?_⟩; intro w hSw; (try dsimp only at hSw); (go_simp <;> with_reducible rfl))
      case h5a8_ => exact fun _ _ _ h => h
      try simp only [Act.put, List.setIfInBounds_toArray, List.set_cons_zero, List.set_cons_succ]
      refine wpAnyH_take (i := 7) (oi := ?ooa9_) (v := ?vva9_) ?hia9_ (by kernel_rfl) ?h3a9_ ?h4a9_ ?h5a9_ ?h6a9_ (by assumption) ?h8a9_
      case hia9_ => (simp only [List.getElem?_toArray, List.getElem?_cons_succ, List.getElem?_cons_zero]; rfl)
      case h3a9_ => kernel_rfl
      case h4a9_ => kernel_rfl
      case h6a9_ => (refine Or.inl ⟨by rfl, ?_⟩; intro w hSw; (try dsimp only at hSw); (go_simp <;> with_reducible rfl))
      case h5a9_ => exact fun _ _ _ h => h
      try simp only [Act.put, List.setIfInBounds_toArray, List.set_cons_zero, List.set_cons_succ]
      refine wpAnyH_ready (rs := [8]) (by kernel_rfl) (by simp) (AllReadyH.cons (o := ?ooa10_q0) ?hia10_q0 (fun K hK => ?hka10_q0) AllReadyH.nil)
      case hia10_q0 => (simp only [List.getElem?_toArray, List.getElem?_cons_succ, List.getElem?_cons_zero]; rfl)
      case hka10_q0 =>
        (rw [if_pos (by rfl)]; go_simp; refine (leqDd A1 A2 p1 p2 x _ (ints_below HI1.out hHeld.2) (ints_below HI2.out hHeld.2) hl).mono ?_; rintro e q_ ⟨rfl, hb⟩; go_wp2_with fail; refine hK.out _ _ (HMK1.out _ (bel_tr hHeld.2 hb)) (fun hHeld => ?_); clear hK K)
        try simp only [Act.put, List.setIfInBounds_toArray, List.set_cons_zero, List.set_cons_succ]
        refine wpAnyH_take (i := 9) (oi := ?ooa11_) (v := ?vva11_) ?hia11_ (by kernel_rfl) ?h3a11_ ?h4a11_ ?h5a11_ ?h6a11_ (by assumption) ?h8a11_
        case hia11_ => (simp only [List.getElem?_toArray, List.getElem?_cons_succ, List.getElem?_cons_zero]; rfl)
        case h3a11_ => kernel_rfl
        case h4a11_ => kernel_rfl
        case h6a11_ => (refine Or.inl ⟨by rfl, ?_⟩; intro w hSw; (try dsimp only at hSw); (go_simp <;> with_reducible rfl))
        case h5a11_ => exact fun _ _ _ h => h
        try simp only [Act.put, List.setIfInBounds_toArray, List.set_cons_zero, List.set_cons_succ]
        refine wpAnyH_done (by kernel_rfl) ?_ _
        clear HMK1
        have B2 := bel_tr B hHeld.2
        clear hHeld
        go_wp2_with fail
        go_roundw
        case rel => exact ⟨k + 1, by omega, by go_num, B2⟩
        case measure => simp [intOf]; omega
    · go_wp2_with fail
      go_ret
      exact ⟨rfl, B⟩
end Go.Proofs.Ytgmmdpdlekpmfaa
