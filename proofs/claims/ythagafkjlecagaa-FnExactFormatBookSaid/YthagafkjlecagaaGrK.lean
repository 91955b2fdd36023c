/- Contracts and facts of functions of this program, in build order. Conditions: those stated in each. -/
import Derived.Test.YthagafkjlecagaaGrC
import Derived.Test.YthagafkjlecagaaGrD
import Derived.Test.YthagafkjlecagaaGrA
import Derived.Deep.RegionHeld3
import Derived.Deep.RegionWith
import Derived.Deep.QuietTactic
import Derived.BigQuiet
import Derived.RegionTactic
import Derived.Deep.Slices
import Derived.Deep.Matrix
import Derived.ChangeSame
import Derived.ChangeArms
import Derived.ChangeSlices
namespace Go.Proofs.Ythagafkjlecagaa
open Go.RowKit
set_option linter.unusedSimpArgs false
set_option linter.unusedVariables false

/-- an event in memory -/
def IsEv (w : World) (g p : Nat) (x : Ev) : Prop := ∃ (A : Option Addr) (cz : Nat), w.cell? ⟨g, p, none⟩ = some (.int .i64 x.k) ∧ w.cell? ⟨g, p + 1, none⟩ = some (.int .i64 x.dd.k) ∧ w.cell? ⟨g, p + 2, none⟩ = some (.int .i64 x.dd.o) ∧ w.cell? ⟨g, p + 3, none⟩ = some (.int .i64 x.dd.t) ∧ w.cell? ⟨g, p + 4, none⟩ = some (.int .i64 x.dd.n) ∧ w.cell? ⟨g, p + 5, none⟩ = some (.int .i64 x.dd.d) ∧ w.cell? ⟨g, p + 6, none⟩ = some (.slice A x.dd.zs.length cz) ∧ w.cell? ⟨g, p + 7, none⟩ = some (.int .i64 x.at_) ∧ w.cell? ⟨g, p + 8, none⟩ = some (.int .i64 x.nu) ∧ IsInts w A x.dd.zs ∧ x.dd.zs.length ≤ 1048576 ∧ x.dd.zs.length ≤ cz
theorem ev_below {w w' : World} {g p : Nat} {x : Ev} (h : IsEv w g p x) (hB : Below w.heap.size w w') : IsEv w' g p x := by
  obtain ⟨A, cz, c0, c1, c2, c3, c4, c5, c6, c7, c8, hi, hn, hc⟩ := h
  have kp : ∀ q v, w.cell? ⟨g, q, none⟩ = some v → w'.cell? ⟨g, q, none⟩ = some v := fun q v c => (hB.cell (p := ⟨g, q, none⟩) (World.block_lt_of_cell? w _ c)).trans c
  exact ⟨A, cz, kp _ _ c0, kp _ _ c1, kp _ _ c2, kp _ _ c3, kp _ _ c4, kp _ _ c5, kp _ _ c6, kp _ _ c7, kp _ _ c8, ints_below hi hB, hn, hc⟩
/-- events, read through a slice at address a -/
def IsEvs (w : World) (a : Option Addr) (es : List Ev) : Prop := es = [] ∨ ∃ g o, a = some ⟨g, o, none⟩ ∧ ∀ i, i < es.length → IsEv w g (o + i * 9) (es.getD i ev0)
theorem evs_below {w w' : World} {a : Option Addr} {es : List Ev} (h : IsEvs w a es) (hB : Below w.heap.size w w') : IsEvs w' a es := by
  rcases h with h | ⟨g, o, ha, hc⟩
  · exact .inl h
  · exact .inr ⟨g, o, ha, fun i hi => ev_below (hc i hi) hB⟩
def zse (es : List Ev) : List (List Int) := es.map fun x => x.dd.zs
theorem zse_len (es : List Ev) : (zse es).length = es.length := by unfold zse; simp
theorem zse_get (es : List Ev) (k : Nat) : (zse es).getD k [] = (es.getD k ev0).dd.zs := by
  unfold zse
  rw [List.getD_eq_getElem?_getD, List.getD_eq_getElem?_getD, List.getElem?_map]
  cases es[k]? <;> rfl
/-- events that came in -/
def EsRaw (w : World) (a : Option Addr) (es : List Ev) : Prop := es = [] ∨ ∃ g o, a = some ⟨g, o, none⟩ ∧ ∀ i, i < es.length → ∃ (A : Option Addr) (cz : Nat), (w.cell? ⟨g, o + i * 9, none⟩ = some (.int .i64 (es.getD i ev0).k) ∧ w.cell? ⟨g, o + i * 9 + 1, none⟩ = some (.int .i64 (es.getD i ev0).dd.k) ∧ w.cell? ⟨g, o + i * 9 + 2, none⟩ = some (.int .i64 (es.getD i ev0).dd.o) ∧ w.cell? ⟨g, o + i * 9 + 3, none⟩ = some (.int .i64 (es.getD i ev0).dd.t) ∧ w.cell? ⟨g, o + i * 9 + 4, none⟩ = some (.int .i64 (es.getD i ev0).dd.n) ∧ w.cell? ⟨g, o + i * 9 + 5, none⟩ = some (.int .i64 (es.getD i ev0).dd.d) ∧ w.cell? ⟨g, o + i * 9 + 6, none⟩ = some (.slice A (es.getD i ev0).dd.zs.length cz) ∧ w.cell? ⟨g, o + i * 9 + 7, none⟩ = some (.int .i64 (es.getD i ev0).at_) ∧ w.cell? ⟨g, o + i * 9 + 8, none⟩ = some (.int .i64 (es.getD i ev0).nu)) ∧ IsInts w A (es.getD i ev0).dd.zs ∧ (es.getD i ev0).dd.zs.length ≤ cz
theorem esRaw_is {w : World} {a : Option Addr} {es : List Ev} (h : EsRaw w a es) (hn : ∀ i, i < es.length → (es.getD i ev0).dd.zs.length ≤ 1048576) : IsEvs w a es := by
  rcases h with h | ⟨g, o, ha, hc⟩
  · exact .inl h
  · refine .inr ⟨g, o, ha, fun i hi => ?_⟩
    obtain ⟨A, cz, ⟨c0, c1, c2, c3, c4, c5, c6, c7, c8⟩, hI, hz⟩ := hc i hi
    exact ⟨A, cz, c0, c1, c2, c3, c4, c5, c6, c7, c8, hI, hn i hi, hz⟩
set_option maxRecDepth 100000 in
set_option maxHeartbeats 4000000 in
/-- laws.szEventS -/
theorem lszEs (a : Option Addr) (cap : Nat) (es : List Ev) (left : Int) (w : World) (h : EsRaw w a es) (h0 : 0 ≤ left) (h1 : left ≤ 1048576) (hn : es.length ≤ 9223372036854775807) (hr : ∀ i, i < es.length → (es.getD i ev0).dd.zs.length ≤ 9223372036854775807) :
    Calls Try.prog 22 #[.slice a es.length cap, .int .i64 left] w fun e w' => e = .returned (.int .i64 (szSS left (zse es))) ∧ Below w.heap.size w w' := by
  have wz : IntKind.i64.wrap (left - (es.length : Int)) = left - (es.length : Int) := by rw [IntKind.wrap_i64]; omega
  have B := Below.refl w.heap.size w
  by_cases c : left - (es.length : Int) < 0
  · have e0 : decide (left - (es.length : Int) < 0) = true := decide_eq_true c
    have H : Hid (szSS left (zse es) = -1) := by show szSS left (zse es) = -1; unfold szSS; rw [zse_len, if_pos c]
    clear c h hr
    go_enter Try.func22, Try.ntmps22
    go_wp2_with fail
    go_ret
    exact ⟨ret_z H.out.symm, B⟩
  · have e0 : decide (left - (es.length : Int) < 0) = false := decide_eq_false c
    have H : Hid (szSS left (zse es) = szL (left - (es.length : Int)) (zse es)) := by show szSS left (zse es) = _; unfold szSS; rw [zse_len, if_neg c]
    have b0 : 0 ≤ left - (es.length : Int) := by omega
    have b1 : left - (es.length : Int) ≤ 1048576 := by omega
    have HC := Lib.hid h
    have HR := Lib.hid hr
    clear c h hr
    go_enter Try.func22, Try.ntmps22
    go_wp2_with fail
    clear wz e0
    generalize left - (es.length : Int) = L0 at *
    go_loopw [1, 5] (fun l i wr => ∃ (k : Nat) (L : Int), k ≤ es.length ∧ i = .int .i64 k ∧ l = .int .i64 L ∧ 0 ≤ L ∧ L ≤ 1048576 ∧ Hid (szL L ((zse es).drop k) = szL L0 (zse es)) ∧ Below w.heap.size w wr) (fun _ i _ => es.length - (intOf i).toNat)
    case atStart => exact ⟨0, L0, Nat.zero_le _, rfl, rfl, b0, b1, (by show szL L0 ((zse es).drop 0) = _; rfl), B⟩
    case round =>
      clear b0 b1 B
      obtain ⟨k, L, hk, rfl, rfl, b0, b1, HS, B⟩ := hrel
      by_cases hlt : k < es.length
      · rcases HC.out with hd0 | ⟨g, o, rfl, hg⟩
        · rw [hd0] at hlt; exact absurd hlt (Nat.not_lt_zero _)
        obtain ⟨A, cz, hcs, _, _⟩ := hg k hlt
        have kp : ∀ q v, w.cell? ⟨g, q, none⟩ = some v → wr.cell? ⟨g, q, none⟩ = some v := fun q v c => (B.cell (p := ⟨g, q, none⟩) (World.block_lt_of_cell? w _ c)).trans c
        obtain ⟨c0, c1, c2, c3, c4, c5, c6, c7, c8⟩ := hcs
        replace c0 := kp _ _ c0
        replace c1 := kp _ _ c1
        replace c2 := kp _ _ c2
        replace c3 := kp _ _ c3
        replace c4 := kp _ _ c4
        replace c5 := kp _ _ c5
        replace c6 := kp _ _ c6
        replace c7 := kp _ _ c7
        replace c8 := kp _ _ c8
        have hl := HR.out k hlt
        have ha := szL_at (rs := zse es) (k := k) (by rw [zse_len]; exact hlt) L
        rw [zse_get] at ha
        have hk0 : (0 : Int) ≤ (k : Int) := by omega
        have hk1 : (k : Int) < (es.length : Int) := by omega
        clear kp
        generalize es.getD k ev0 = x at c0 c1 c2 c3 c4 c5 c6 c7 c8 hl ha
        have CC := lszEv A cz x L wr b0 b1 hl
        by_cases c : L - (x.dd.zs.length : Int) < 0
        · rw [if_pos c] at CC ha
          have HA : Hid (szSS left (zse es) = -1) := by show szSS left (zse es) = -1; rw [H.out, ← HS.out, ha]
          clear ha c
          have HCC := Lib.hid CC
          clear CC
          go_wp2_with fail
          refine HCC.out.mono ?_
          rintro e w1 ⟨rfl, C⟩
          replace B := bel_tr B C
          clear C
          go_wp2_with fail
          go_ret
          exact ⟨ret_z HA.out.symm, B⟩
        · rw [if_neg c] at CC ha
          have HA : Hid (szL (L - (x.dd.zs.length : Int)) ((zse es).drop (k + 1)) = szL L0 (zse es)) := by show szL (L - (x.dd.zs.length : Int)) ((zse es).drop (k + 1)) = szL L0 (zse es); rw [← HS.out, ha]
          have q0 : 0 ≤ L - (x.dd.zs.length : Int) := by omega
          have q1 : L - (x.dd.zs.length : Int) ≤ 1048576 := by omega
          have e0 : decide (L - (x.dd.zs.length : Int) < 0) = false := decide_eq_false c
          have HCC := Lib.hid CC
          clear ha c HS CC
          generalize L - (x.dd.zs.length : Int) = L' at *
          go_wp2_with fail
          refine HCC.out.mono ?_
          rintro e w1 ⟨rfl, C⟩
          replace B := bel_tr B C
          clear C
          go_wp2_with fail
          go_roundw
          case rel => exact ⟨k + 1, L', by omega, by go_num, rfl, q0, q1, HA, B⟩
          case measure => simp [intOf]; omega
      · obtain rfl : k = es.length := by omega
        have HA : Hid (szSS left (zse es) = L) := by
          show szSS left (zse es) = L
          rw [H.out, ← HS.out, ← zse_len, List.drop_length]; rfl
        go_wp2_with fail
        go_ret
        exact ⟨ret_z HA.out.symm, B⟩
def evv (G : Nat) (x : Ev) : Nat → Value
  | 0 => .int .i64 x.k
  | 1 => .int .i64 x.dd.k
  | 2 => .int .i64 x.dd.o
  | 3 => .int .i64 x.dd.t
  | 4 => .int .i64 x.dd.n
  | 5 => .int .i64 x.dd.d
  | 6 => .slice (some ⟨G, 0, none⟩) x.dd.zs.length x.dd.zs.length
  | 7 => .int .i64 x.at_
  | _ => .int .i64 x.nu
def evz : Nat → Value
  | 0 => .int .i64 0
  | 1 => .int .i64 0
  | 2 => .int .i64 0
  | 3 => .int .i64 0
  | 4 => .int .i64 0
  | 5 => .int .i64 0
  | 6 => .slice none 0 0
  | 7 => .int .i64 0
  | _ => .int .i64 0
/-- events in a row of the call's own, the heirs of each in a block of their own -/
def RowEs (w : World) (g : Nat) (G : Nat → Nat) (n : Nat) (es : List Ev) : Prop := (w.rowIs g 35 (es.length * 9) fun j => if j < n * 9 then evv (G (j / 9)) (es.getD (j / 9) ev0) (j % 9) else evz (j % 9)) ∧ (∀ j, j < n → g < G j ∧ Row w (G j) (es.getD j ev0).dd.zs) ∧ ∀ i j, i < j → j < n → G i < G j
theorem RowEs.cells {w : World} {g : Nat} {G : Nat → Nat} {es : List Ev} (h : RowEs w g G es.length es) {i : Nat} (hi : i < es.length) : w.cell? ⟨g, i * 9, none⟩ = some (.int .i64 (es.getD i ev0).k) ∧ w.cell? ⟨g, i * 9 + 1, none⟩ = some (.int .i64 (es.getD i ev0).dd.k) ∧ w.cell? ⟨g, i * 9 + 2, none⟩ = some (.int .i64 (es.getD i ev0).dd.o) ∧ w.cell? ⟨g, i * 9 + 3, none⟩ = some (.int .i64 (es.getD i ev0).dd.t) ∧ w.cell? ⟨g, i * 9 + 4, none⟩ = some (.int .i64 (es.getD i ev0).dd.n) ∧ w.cell? ⟨g, i * 9 + 5, none⟩ = some (.int .i64 (es.getD i ev0).dd.d) ∧ w.cell? ⟨g, i * 9 + 6, none⟩ = some (.slice (some ⟨G i, 0, none⟩) (es.getD i ev0).dd.zs.length (es.getD i ev0).dd.zs.length) ∧ w.cell? ⟨g, i * 9 + 7, none⟩ = some (.int .i64 (es.getD i ev0).at_) ∧ w.cell? ⟨g, i * 9 + 8, none⟩ = some (.int .i64 (es.getD i ev0).nu) := by
  have key : ∀ q, q < 9 → w.cell? ⟨g, i * 9 + q, none⟩ = some (evv (G i) (es.getD i ev0) q) := fun q hq => by
    have := h.1.cell (i := i * 9 + q) (by omega)
    rw [if_pos (by omega), show (i * 9 + q) / 9 = i from by omega, show (i * 9 + q) % 9 = q from by omega] at this
    exact this
  exact ⟨key 0 (by omega), key 1 (by omega), key 2 (by omega), key 3 (by omega), key 4 (by omega), key 5 (by omega), key 6 (by omega), key 7 (by omega), key 8 (by omega)⟩
theorem RowEs.is {w : World} {g : Nat} {G : Nat → Nat} {es : List Ev} (h : RowEs w g G es.length es) (hn : ∀ i, i < es.length → (es.getD i ev0).dd.zs.length ≤ 1048576) : IsEvs w (some ⟨g, 0, none⟩) es := by
  refine .inr ⟨g, 0, rfl, fun i hi => ?_⟩
  obtain ⟨c0, c1, c2, c3, c4, c5, c6, c7, c8⟩ := h.cells hi
  rw [Nat.zero_add]
  exact ⟨_, _, c0, c1, c2, c3, c4, c5, c6, c7, c8, row_ints (h.2.1 i hi).2, hn i hi, Nat.le_refl _⟩
theorem RowEs.next {w w' : World} {g : Nat} {G : Nat → Nat} {es : List Ev} (h : RowEs w g G es.length es) (hb : Below w.heap.size w w') : RowEs w' g G es.length es :=
  ⟨World.rowIs.of_block h.1 (hb.block g h.1.lt), fun j hj => ⟨(h.2.1 j hj).1, row_keep (h.2.1 j hj).2 hb⟩, h.2.2⟩
/-- what toEventS leaves -/
def CopiedEs (w : World) (es : List Ev) (e : Ending) (w' : World) : Prop := ∃ (g : Nat) (G : Nat → Nat), e = .returned (.slice (some ⟨g, 0, none⟩) es.length es.length) ∧ w.heap.size ≤ g ∧ RowEs w' g G es.length es ∧ Below w.heap.size w w'
theorem infoEv : (Try.prog.info? 35).map (fun i => (i.zero, i.size, i.bytes)) = some (some (.agg #[.int .i64 0, .int .i64 0, .int .i64 0, .int .i64 0, .int .i64 0, .int .i64 0, .slice none 0 0, .int .i64 0, .int .i64 0]), 9, 88) := by kernel_rfl
theorem madeEv (w : World) (n : Nat) (t : TypeId) : (w.alloc (.cells (madeCells #[.int .i64 0, .int .i64 0, .int .i64 0, .int .i64 0, .int .i64 0, .int .i64 0, .slice none 0 0, .int .i64 0, .int .i64 0] n) t)).rowIs w.heap.size t n (fun j => evz (j % 9)) := by
  have hs : (madeCells #[Value.int .i64 0, .int .i64 0, .int .i64 0, .int .i64 0, .int .i64 0, .int .i64 0, .slice none 0 0, .int .i64 0, .int .i64 0] n).size = n := by unfold madeCells; simp
  refine ⟨_, heap_alloc_new w _, hs, fun i hi => ?_⟩
  have hm : i % 9 = 0 ∨ i % 9 = 1 ∨ i % 9 = 2 ∨ i % 9 = 3 ∨ i % 9 = 4 ∨ i % 9 = 5 ∨ i % 9 = 6 ∨ i % 9 = 7 ∨ i % 9 = 8 := by omega
  unfold madeCells
  rw [Array.getElem?_map, Array.getElem?_range, if_pos hi]
  show some ((#[Value.int .i64 0, .int .i64 0, .int .i64 0, .int .i64 0, .int .i64 0, .int .i64 0, .slice none 0 0, .int .i64 0, .int .i64 0] : Array Value)[i % 9]!) = some (evz (i % 9))
  rcases hm with h | h | h | h | h | h | h | h | h <;> rw [h] <;> rfl
theorem run_makeEv (n : Nat) (hn : n ≤ 1048576) (w : World) : (Instr.makeSlice 50 (.int .i64 (n : Int)) (.int .i64 (n : Int))).run Try.prog w = .ok (.slice (some ⟨w.heap.size, 0, none⟩) n n) (w.alloc (.cells (madeCells #[.int .i64 0, .int .i64 0, .int .i64 0, .int .i64 0, .int .i64 0, .int .i64 0, .slice none 0 0, .int .i64 0, .int .i64 0] (n * 9)) 35)) := by
  obtain ⟨i0, hi0, hz0, hz1, hz2⟩ := info_parts infoEv
  have := run_make (P := Try.prog) w 50 35 i0 _ Try.underlying50 hi0 hz0 .i64 .i64 (n : Int) (n : Int) (by omega) (by omega) (by rw [hz2]; omega) (by omega)
  simp only [Int.toNat_natCast, hz1] at this
  exact this
/-- one more event in the row -/
theorem rowEs_step {w : World} {g : Nat} {G : Nat → Nat} {k : Nat} {es : List Ev} {gz : Nat} (h : RowEs w g G k es) (hk : k < es.length) (hlt : ∀ j, j < k → G j < gz) (hg : g < gz) (hR : Row w gz (es.getD k ev0).dd.zs) :
    RowEs ((((((((((w).setCell ⟨g, k * 9, none⟩ (.int .i64 (es.getD k ev0).k)).setCell ⟨g, k * 9 + 1, none⟩ (.int .i64 (es.getD k ev0).dd.k)).setCell ⟨g, k * 9 + 2, none⟩ (.int .i64 (es.getD k ev0).dd.o)).setCell ⟨g, k * 9 + 3, none⟩ (.int .i64 (es.getD k ev0).dd.t)).setCell ⟨g, k * 9 + 4, none⟩ (.int .i64 (es.getD k ev0).dd.n)).setCell ⟨g, k * 9 + 5, none⟩ (.int .i64 (es.getD k ev0).dd.d)).setCell ⟨g, k * 9 + 6, none⟩ (.slice (some ⟨gz, 0, none⟩) (es.getD k ev0).dd.zs.length (es.getD k ev0).dd.zs.length)).setCell ⟨g, k * 9 + 7, none⟩ (.int .i64 (es.getD k ev0).at_)).setCell ⟨g, k * 9 + 8, none⟩ (.int .i64 (es.getD k ev0).nu)) g (fun j => if j = k then gz else G j) (k + 1) es := by
  have far : ∀ (q : Nat) (zs : List Int), q ≠ g → Row w q zs → Row ((((((((((w).setCell ⟨g, k * 9, none⟩ (.int .i64 (es.getD k ev0).k)).setCell ⟨g, k * 9 + 1, none⟩ (.int .i64 (es.getD k ev0).dd.k)).setCell ⟨g, k * 9 + 2, none⟩ (.int .i64 (es.getD k ev0).dd.o)).setCell ⟨g, k * 9 + 3, none⟩ (.int .i64 (es.getD k ev0).dd.t)).setCell ⟨g, k * 9 + 4, none⟩ (.int .i64 (es.getD k ev0).dd.n)).setCell ⟨g, k * 9 + 5, none⟩ (.int .i64 (es.getD k ev0).dd.d)).setCell ⟨g, k * 9 + 6, none⟩ (.slice (some ⟨gz, 0, none⟩) (es.getD k ev0).dd.zs.length (es.getD k ev0).dd.zs.length)).setCell ⟨g, k * 9 + 7, none⟩ (.int .i64 (es.getD k ev0).at_)).setCell ⟨g, k * 9 + 8, none⟩ (.int .i64 (es.getD k ev0).nu)) q zs := fun q zs hq hr =>
    World.rowIs.of_block hr (by rw [Below.heap_setCell _ _ _ q hq, Below.heap_setCell _ _ _ q hq, Below.heap_setCell _ _ _ q hq, Below.heap_setCell _ _ _ q hq, Below.heap_setCell _ _ _ q hq, Below.heap_setCell _ _ _ q hq, Below.heap_setCell _ _ _ q hq, Below.heap_setCell _ _ _ q hq, Below.heap_setCell _ _ _ q hq])
  refine ⟨(((((((((h.1.set (k * 9) _).set (k * 9 + 1) _).set (k * 9 + 2) _).set (k * 9 + 3) _).set (k * 9 + 4) _).set (k * 9 + 5) _).set (k * 9 + 6) _).set (k * 9 + 7) _).set (k * 9 + 8) _).congr (fun j hj => ?_), fun j hj => ?_, fun i j hij hj => ?_⟩
  · dsimp only
    by_cases hb : k * 9 ≤ j ∧ j < k * 9 + 9
    · rw [if_pos (show j < (k + 1) * 9 from by omega), show j / 9 = k from by omega, if_pos rfl]
      have hm : j = k * 9 ∨ j = k * 9 + 1 ∨ j = k * 9 + 2 ∨ j = k * 9 + 3 ∨ j = k * 9 + 4 ∨ j = k * 9 + 5 ∨ j = k * 9 + 6 ∨ j = k * 9 + 7 ∨ j = k * 9 + 8 := by omega
      rcases hm with e | e | e | e | e | e | e | e | e
      · rw [if_neg (by omega), if_neg (by omega), if_neg (by omega), if_neg (by omega), if_neg (by omega), if_neg (by omega), if_neg (by omega), if_neg (by omega), if_pos e, show j % 9 = 0 from by omega]; rfl
      · rw [if_neg (by omega), if_neg (by omega), if_neg (by omega), if_neg (by omega), if_neg (by omega), if_neg (by omega), if_neg (by omega), if_pos e, show j % 9 = 1 from by omega]; rfl
      · rw [if_neg (by omega), if_neg (by omega), if_neg (by omega), if_neg (by omega), if_neg (by omega), if_neg (by omega), if_pos e, show j % 9 = 2 from by omega]; rfl
      · rw [if_neg (by omega), if_neg (by omega), if_neg (by omega), if_neg (by omega), if_neg (by omega), if_pos e, show j % 9 = 3 from by omega]; rfl
      · rw [if_neg (by omega), if_neg (by omega), if_neg (by omega), if_neg (by omega), if_pos e, show j % 9 = 4 from by omega]; rfl
      · rw [if_neg (by omega), if_neg (by omega), if_neg (by omega), if_pos e, show j % 9 = 5 from by omega]; rfl
      · rw [if_neg (by omega), if_neg (by omega), if_pos e, show j % 9 = 6 from by omega]; rfl
      · rw [if_neg (by omega), if_pos e, show j % 9 = 7 from by omega]; rfl
      · rw [if_pos e, show j % 9 = 8 from by omega]; rfl
    · rw [if_neg (by omega), if_neg (by omega), if_neg (by omega), if_neg (by omega), if_neg (by omega), if_neg (by omega), if_neg (by omega), if_neg (by omega), if_neg (by omega), if_neg (show ¬ j / 9 = k from by omega)]
      by_cases hl : j < k * 9
      · rw [if_pos hl, if_pos (by omega)]
      · rw [if_neg hl, if_neg (by omega)]
  · dsimp only
    by_cases hjk : j = k
    · rw [if_pos hjk, hjk]; exact ⟨hg, far _ _ (by omega) hR⟩
    · rw [if_neg hjk]
      obtain ⟨p1, p2⟩ := h.2.1 j (by omega)
      exact ⟨p1, far _ _ (by omega) p2⟩
  · dsimp only
    rw [if_neg (by omega : ¬ i = k)]
    by_cases hjk : j = k
    · rw [if_pos hjk]; exact hlt i (by omega)
    · rw [if_neg hjk]; exact h.2.2 i j hij (by omega)
set_option maxRecDepth 100000 in
set_option maxHeartbeats 6000000 in
/-- laws.toEventS -/
theorem ltoEs (a : Option Addr) (cap : Nat) (es : List Ev) (w : World) (h : IsEvs w a es) (hn : es.length ≤ 1048576) :
    Calls Try.prog 24 #[.slice a es.length cap] w (CopiedEs w es) := by
  have hmk := run_makeEv es.length hn
  have HC := Lib.hid h
  clear h
  go_enter Try.func24, Try.ntmps24
  go_wp2
  clear hmk
  go_loopw [4] (fun i wr => ∃ (k : Nat) (G : Nat → Nat), k ≤ es.length ∧ i = .int .i64 k ∧ Hid (RowEs wr w.heap.size G k es ∧ Below w.heap.size w wr)) (fun i _ => es.length - (intOf i).toNat)
  case atStart => exact ⟨0, fun _ => 0, Nat.zero_le _, rfl, ⟨⟨(madeEv w (es.length * 9) _).congr (fun i hi => by simp), fun j hj => absurd hj (Nat.not_lt_zero _), fun i j _ hj => absurd hj (Nat.not_lt_zero _)⟩, by go_grown⟩⟩
  case round =>
    obtain ⟨k, G, hk, rfl, HS⟩ := hrel
    by_cases hlt : k < es.length
    · rcases HC.out with hd0 | ⟨g, o, rfl, hg⟩
      · rw [hd0] at hlt; exact absurd hlt (Nat.not_lt_zero _)
      obtain ⟨A, cz, c0, c1, c2, c3, c4, c5, c6, c7, c8, hI, hzn, hzc⟩ := ev_below (hg k hlt) HS.out.2
      have HST := Lib.hid (fun (W : World) (gz : Nat) (hW : RowEs W w.heap.size G k es) => rowEs_step (gz := gz) hW hlt)
      have hrow := HS.out.1.1
      have key : ∀ q, q < 9 → wr.cell? ⟨w.heap.size, k * 9 + q, none⟩ = some (evz q) := fun q hq => by
        have := hrow.cell (i := k * 9 + q) (by omega)
        rw [if_neg (by omega), show (k * 9 + q) % 9 = q from by omega] at this
        exact this
      have d0 := key 0 (by omega)
      have d1 := key 1 (by omega)
      have d2 := key 2 (by omega)
      have d3 := key 3 (by omega)
      have d4 := key 4 (by omega)
      have d5 := key 5 (by omega)
      have d6 := key 6 (by omega)
      have d7 := key 7 (by omega)
      have d8 := key 8 (by omega)
      have hf := hrow.frozen
      have hW := hrow.lt
      clear key hrow
      rw [Nat.add_zero] at d0
      unfold evz at d0 d1 d2 d3 d4 d5 d6 d7 d8
      have hk0 : (0 : Int) ≤ (k : Int) := by omega
      have hk1 : (k : Int) < (es.length : Int) := by omega
      generalize es.getD k ev0 = x at c0 c1 c2 c3 c4 c5 c6 c7 c8 hI hzn hzc HST
      have CC := Lib.hid (ltoEv A cz x wr hI hzn)
      have HF := Lib.hid hf
      clear hf hI hzn hzc
      go_wp2_with fail
      refine CC.out.mono ?_
      rintro e w1 ⟨gz, rfl, hgz, hrz, C⟩
      have HN := Lib.hid (HST.out w1 gz ⟨World.rowIs.of_block HS.out.1.1 (C.block _ hW), fun j hj => ⟨(HS.out.1.2.1 j hj).1, row_keep (HS.out.1.2.1 j hj).2 C⟩, HS.out.1.2.2⟩ (fun j hj => Nat.lt_of_lt_of_le (HS.out.1.2.1 j hj).2.lt hgz) (Nat.lt_of_lt_of_le hW hgz) hrz)
      have HB := Lib.hid (bel_tr HS.out.2 C)
      replace d0 := (C.cell (p := ⟨w.heap.size, k * 9, none⟩) hW).trans d0
      replace d1 := (C.cell (p := ⟨w.heap.size, k * 9 + 1, none⟩) hW).trans d1
      replace d2 := (C.cell (p := ⟨w.heap.size, k * 9 + 2, none⟩) hW).trans d2
      replace d3 := (C.cell (p := ⟨w.heap.size, k * 9 + 3, none⟩) hW).trans d3
      replace d4 := (C.cell (p := ⟨w.heap.size, k * 9 + 4, none⟩) hW).trans d4
      replace d5 := (C.cell (p := ⟨w.heap.size, k * 9 + 5, none⟩) hW).trans d5
      replace d6 := (C.cell (p := ⟨w.heap.size, k * 9 + 6, none⟩) hW).trans d6
      replace d7 := (C.cell (p := ⟨w.heap.size, k * 9 + 7, none⟩) hW).trans d7
      replace d8 := (C.cell (p := ⟨w.heap.size, k * 9 + 8, none⟩) hW).trans d8
      have f0 := (C.frozen (p := ⟨w.heap.size, k * 9, none⟩) hW).trans (HF.out _)
      have f1 := (C.frozen (p := ⟨w.heap.size, k * 9 + 1, none⟩) hW).trans (HF.out _)
      have f2 := (C.frozen (p := ⟨w.heap.size, k * 9 + 2, none⟩) hW).trans (HF.out _)
      have f3 := (C.frozen (p := ⟨w.heap.size, k * 9 + 3, none⟩) hW).trans (HF.out _)
      have f4 := (C.frozen (p := ⟨w.heap.size, k * 9 + 4, none⟩) hW).trans (HF.out _)
      have f5 := (C.frozen (p := ⟨w.heap.size, k * 9 + 5, none⟩) hW).trans (HF.out _)
      have f6 := (C.frozen (p := ⟨w.heap.size, k * 9 + 6, none⟩) hW).trans (HF.out _)
      have f7 := (C.frozen (p := ⟨w.heap.size, k * 9 + 7, none⟩) hW).trans (HF.out _)
      have f8 := (C.frozen (p := ⟨w.heap.size, k * 9 + 8, none⟩) hW).trans (HF.out _)
      clear C c0 c1 c2 c3 c4 c5 c6 c7 c8 hrz HST CC HS
      go_wp2_with fail
      go_roundw
      case rel => exact ⟨k + 1, _, by omega, by go_num, HN.out, (((((((((HB.out.setCell (p := ⟨w.heap.size, k * 9, none⟩) (Nat.le_refl _) _).setCell (p := ⟨w.heap.size, k * 9 + 1, none⟩) (Nat.le_refl _) _).setCell (p := ⟨w.heap.size, k * 9 + 2, none⟩) (Nat.le_refl _) _).setCell (p := ⟨w.heap.size, k * 9 + 3, none⟩) (Nat.le_refl _) _).setCell (p := ⟨w.heap.size, k * 9 + 4, none⟩) (Nat.le_refl _) _).setCell (p := ⟨w.heap.size, k * 9 + 5, none⟩) (Nat.le_refl _) _).setCell (p := ⟨w.heap.size, k * 9 + 6, none⟩) (Nat.le_refl _) _).setCell (p := ⟨w.heap.size, k * 9 + 7, none⟩) (Nat.le_refl _) _).setCell (p := ⟨w.heap.size, k * 9 + 8, none⟩) (Nat.le_refl _) _)⟩
      case measure => simp [intOf]; omega
    · obtain rfl : k = es.length := by omega
      go_wp2_with fail
      go_ret
      exact ⟨_, G, rfl, Nat.le_refl _, HS.out.1, HS.out.2⟩
end Go.Proofs.Ythagafkjlecagaa
namespace Go.Proofs.Ythagafkjlecagaa
open Go.RowKit
set_option linter.unusedSimpArgs false
set_option linter.unusedVariables false

set_option maxRecDepth 100000 in
set_option maxHeartbeats 6000000 in
/-- laws.eqEventS of two readings of the same events -/
theorem leqEs (a b : Option Addr) (ca cb : Nat) (es : List Ev) (w : World) (ha : IsEvs w a es) (hb : IsEvs w b es) (hn : es.length ≤ 1048576) :
    Calls Try.prog 26 #[.slice a es.length ca, .slice b es.length cb] w fun e w' => e = .returned (.bool true) ∧ Below w.heap.size w w' := by
  have HA := Lib.hid ha
  have HB := Lib.hid hb
  clear ha hb
  have B := Below.refl w.heap.size w
  go_enter Try.func26, Try.ntmps26
  go_wp2_with fail
  go_loopw [5] (fun i wr => ∃ k : Nat, k ≤ es.length ∧ i = .int .i64 k ∧ Below w.heap.size w wr) (fun i _ => es.length - (intOf i).toNat)
  case atStart => exact ⟨0, Nat.zero_le _, rfl, B⟩
  case round =>
    clear B
    obtain ⟨k, hk, rfl, B⟩ := hrel
    by_cases hlt : k < es.length
    · rcases HA.out with hd0 | ⟨g1, o1, rfl, hg1⟩
      · rw [hd0] at hlt; exact absurd hlt (Nat.not_lt_zero _)
      rcases HB.out with hd0 | ⟨g2, o2, rfl, hg2⟩
      · rw [hd0] at hlt; exact absurd hlt (Nat.not_lt_zero _)
      obtain ⟨A1, p1, c0, c1, c2, c3, c4, c5, c6, c7, c8, i1, hl, _⟩ := ev_below (hg1 k hlt) B
      obtain ⟨A2, p2, e0, e1, e2, e3, e4, e5, e6, e7, e8, i2, _, _⟩ := ev_below (hg2 k hlt) B
      generalize es.getD k ev0 = x at c0 c1 c2 c3 c4 c5 c6 c7 c8 e0 e1 e2 e3 e4 e5 e6 e7 e8 i1 i2 hl
      have lt1 := World.block_lt_of_cell? wr _ c0
      have lt2 := World.block_lt_of_cell? wr _ e0
      have HI1 := Lib.hid i1
      have HI2 := Lib.hid i2
      clear i1 i2
      have k0 : (0 : Int) ≤ (k : Int) := by omega
      have k1 : (k : Int) < (es.length : Int) := by omega
      go_wp2_with fail
      have HMK1 := Lib.hid (fun (W : World) (hW : Below wr.heap.size wr W) => (⟨⟨(hW.cell (p := ⟨g1, o1 + k * 9, none⟩) (lt1)).trans c0, (hW.cell (p := ⟨g1, o1 + k * 9 + 1, none⟩) (lt1)).trans c1, (hW.cell (p := ⟨g1, o1 + k * 9 + 2, none⟩) (lt1)).trans c2, (hW.cell (p := ⟨g1, o1 + k * 9 + 3, none⟩) (lt1)).trans c3, (hW.cell (p := ⟨g1, o1 + k * 9 + 4, none⟩) (lt1)).trans c4, (hW.cell (p := ⟨g1, o1 + k * 9 + 5, none⟩) (lt1)).trans c5, (hW.cell (p := ⟨g1, o1 + k * 9 + 6, none⟩) (lt1)).trans c6, (hW.cell (p := ⟨g1, o1 + k * 9 + 7, none⟩) (lt1)).trans c7, (hW.cell (p := ⟨g1, o1 + k * 9 + 8, none⟩) (lt1)).trans c8, (hW.cell (p := ⟨g2, o2 + k * 9, none⟩) (lt2)).trans e0, (hW.cell (p := ⟨g2, o2 + k * 9 + 1, none⟩) (lt2)).trans e1, (hW.cell (p := ⟨g2, o2 + k * 9 + 2, none⟩) (lt2)).trans e2, (hW.cell (p := ⟨g2, o2 + k * 9 + 3, none⟩) (lt2)).trans e3, (hW.cell (p := ⟨g2, o2 + k * 9 + 4, none⟩) (lt2)).trans e4, (hW.cell (p := ⟨g2, o2 + k * 9 + 5, none⟩) (lt2)).trans e5, (hW.cell (p := ⟨g2, o2 + k * 9 + 6, none⟩) (lt2)).trans e6, (hW.cell (p := ⟨g2, o2 + k * 9 + 7, none⟩) (lt2)).trans e7, (hW.cell (p := ⟨g2, o2 + k * 9 + 8, none⟩) (lt2)).trans e8⟩, hW⟩ : (W.cell? ⟨g1, o1 + k * 9, none⟩ = some (.int .i64 x.k) ∧ W.cell? ⟨g1, o1 + k * 9 + 1, none⟩ = some (.int .i64 x.dd.k) ∧ W.cell? ⟨g1, o1 + k * 9 + 2, none⟩ = some (.int .i64 x.dd.o) ∧ W.cell? ⟨g1, o1 + k * 9 + 3, none⟩ = some (.int .i64 x.dd.t) ∧ W.cell? ⟨g1, o1 + k * 9 + 4, none⟩ = some (.int .i64 x.dd.n) ∧ W.cell? ⟨g1, o1 + k * 9 + 5, none⟩ = some (.int .i64 x.dd.d) ∧ W.cell? ⟨g1, o1 + k * 9 + 6, none⟩ = some (.slice A1 x.dd.zs.length p1) ∧ W.cell? ⟨g1, o1 + k * 9 + 7, none⟩ = some (.int .i64 x.at_) ∧ W.cell? ⟨g1, o1 + k * 9 + 8, none⟩ = some (.int .i64 x.nu) ∧ W.cell? ⟨g2, o2 + k * 9, none⟩ = some (.int .i64 x.k) ∧ W.cell? ⟨g2, o2 + k * 9 + 1, none⟩ = some (.int .i64 x.dd.k) ∧ W.cell? ⟨g2, o2 + k * 9 + 2, none⟩ = some (.int .i64 x.dd.o) ∧ W.cell? ⟨g2, o2 + k * 9 + 3, none⟩ = some (.int .i64 x.dd.t) ∧ W.cell? ⟨g2, o2 + k * 9 + 4, none⟩ = some (.int .i64 x.dd.n) ∧ W.cell? ⟨g2, o2 + k * 9 + 5, none⟩ = some (.int .i64 x.dd.d) ∧ W.cell? ⟨g2, o2 + k * 9 + 6, none⟩ = some (.slice A2 x.dd.zs.length p2) ∧ W.cell? ⟨g2, o2 + k * 9 + 7, none⟩ = some (.int .i64 x.at_) ∧ W.cell? ⟨g2, o2 + k * 9 + 8, none⟩ = some (.int .i64 x.nu)) ∧ Below wr.heap.size wr W))
      refine wp_region_held_drew (S := (fun w' => (w'.cell? ⟨g1, o1 + k * 9, none⟩ = some (.int .i64 x.k) ∧ w'.cell? ⟨g1, o1 + k * 9 + 1, none⟩ = some (.int .i64 x.dd.k) ∧ w'.cell? ⟨g1, o1 + k * 9 + 2, none⟩ = some (.int .i64 x.dd.o) ∧ w'.cell? ⟨g1, o1 + k * 9 + 3, none⟩ = some (.int .i64 x.dd.t) ∧ w'.cell? ⟨g1, o1 + k * 9 + 4, none⟩ = some (.int .i64 x.dd.n) ∧ w'.cell? ⟨g1, o1 + k * 9 + 5, none⟩ = some (.int .i64 x.dd.d) ∧ w'.cell? ⟨g1, o1 + k * 9 + 6, none⟩ = some (.slice A1 x.dd.zs.length p1) ∧ w'.cell? ⟨g1, o1 + k * 9 + 7, none⟩ = some (.int .i64 x.at_) ∧ w'.cell? ⟨g1, o1 + k * 9 + 8, none⟩ = some (.int .i64 x.nu) ∧ w'.cell? ⟨g2, o2 + k * 9, none⟩ = some (.int .i64 x.k) ∧ w'.cell? ⟨g2, o2 + k * 9 + 1, none⟩ = some (.int .i64 x.dd.k) ∧ w'.cell? ⟨g2, o2 + k * 9 + 2, none⟩ = some (.int .i64 x.dd.o) ∧ w'.cell? ⟨g2, o2 + k * 9 + 3, none⟩ = some (.int .i64 x.dd.t) ∧ w'.cell? ⟨g2, o2 + k * 9 + 4, none⟩ = some (.int .i64 x.dd.n) ∧ w'.cell? ⟨g2, o2 + k * 9 + 5, none⟩ = some (.int .i64 x.dd.d) ∧ w'.cell? ⟨g2, o2 + k * 9 + 6, none⟩ = some (.slice A2 x.dd.zs.length p2) ∧ w'.cell? ⟨g2, o2 + k * 9 + 7, none⟩ = some (.int .i64 x.at_) ∧ w'.cell? ⟨g2, o2 + k * 9 + 8, none⟩ = some (.int .i64 x.nu)) ∧ Below wr.heap.size wr w')) (by kernel_rfl) ?_ (fun hHeld => ?_)
      · exact ⟨⟨c0, c1, c2, c3, c4, c5, c6, c7, c8, e0, e1, e2, e3, e4, e5, e6, e7, e8⟩, (Below.refl _ _).drew⟩
      refine wpAnyH_take (i := 0) (oi := ?ooa2_) (v := ?vva2_) ?hia2_ (by kernel_rfl) ?h3a2_ ?h4a2_ ?h5a2_ ?h6a2_ (by assumption) ?h8a2_
      case hia2_ => (simp only [List.getElem?_toArray, List.getElem?_cons_succ, List.getElem?_cons_zero]; rfl)
      case h3a2_ => kernel_rfl
      case h4a2_ => kernel_rfl
      case h6a2_ => (refine Or.inl ⟨by rfl, ?_⟩; intro w hSw; (try dsimp only at hSw); (go_simp <;> with_reducible rfl))
      case h5a2_ => exact fun _ _ _ h => h
      try simp only [Act.put, List.setIfInBounds_toArray, List.set_cons_zero, List.set_cons_succ]
      refine wpAnyH_take (i := 1) (oi := ?ooa3_) (v := ?vva3_) ?hia3_ (by kernel_rfl) ?h3a3_ ?h4a3_ ?h5a3_ ?h6a3_ (by assumption) ?h8a3_
      case hia3_ => (simp only [List.getElem?_toArray, List.getElem?_cons_succ, List.getElem?_cons_zero]; rfl)
      case h3a3_ => kernel_rfl
      case h4a3_ => kernel_rfl
      case h6a3_ => (refine Or.inl ⟨by rfl, ?_⟩; intro w hSw; (try dsimp only at hSw); (go_simp <;> with_reducible rfl))
      case h5a3_ => exact fun _ _ _ h => h
      try simp only [Act.put, List.setIfInBounds_toArray, List.set_cons_zero, List.set_cons_succ]
      refine wpAnyH_take (i := 2) (oi := ?ooa4_) (v := ?vva4_) ?hia4_ (by kernel_rfl) ?h3a4_ ?h4a4_ ?h5a4_ ?h6a4_ (by assumption) ?h8a4_
      case hia4_ => (simp only [List.getElem?_toArray, List.getElem?_cons_succ, List.getElem?_cons_zero]; rfl)
      case h3a4_ => kernel_rfl
      case h4a4_ => kernel_rfl
      case h6a4_ => (refine Or.inl ⟨by rfl, ?_⟩; intro w hSw; (try dsimp only at hSw); (go_simp <;> with_reducible rfl))
      case h5a4_ => exact fun _ _ _ h => h
      try simp only [Act.put, List.setIfInBounds_toArray, List.set_cons_zero, List.set_cons_succ]
      refine wpAnyH_take (i := 3) (oi := ?ooa5_) (v := ?vva5_) ?hia5_ (by kernel_rfl) ?h3a5_ ?h4a5_ ?h5a5_ ?h6a5_ (by assumption) ?h8a5_
      case hia5_ => (simp only [List.getElem?_toArray, List.getElem?_cons_succ, List.getElem?_cons_zero]; rfl)
      case h3a5_ => kernel_rfl
      case h4a5_ => kernel_rfl
      case h6a5_ => (refine Or.inl ⟨by rfl, ?_⟩; intro w hSw; (try dsimp only at hSw); (go_simp <;> with_reducible rfl))
      case h5a5_ => exact fun _ _ _ h => h
      try simp only [Act.put, List.setIfInBounds_toArray, List.set_cons_zero, List.set_cons_succ]
      refine wpAnyH_take (i := 4) (oi := ?ooa6_) (v := ?vva6_) ?hia6_ (by kernel_rfl) ?h3a6_ ?h4a6_ ?h5a6_ ?h6a6_ (by assumption) ?h8a6_
      case hia6_ => (simp only [List.getElem?_toArray, List.getElem?_cons_succ, List.getElem?_cons_zero]; rfl)
      case h3a6_ => kernel_rfl
      case h4a6_ => kernel_rfl
      case h6a6_ => (refine Or.inl ⟨by rfl, ?_⟩; intro w hSw; (try dsimp only at hSw); (go_simp <;> with_reducible rfl))
      case h5a6_ => exact fun _ _ _ h => h
      try simp only [Act.put, List.setIfInBounds_toArray, List.set_cons_zero, List.set_cons_succ]
      refine wpAnyH_take (i := 5) (oi := ?ooa7_) (v := ?vva7_) ?hia7_ (by kernel_rfl) ?h3a7_ ?h4a7_ ?h5a7_ ?h6a7_ (by assumption) ?h8a7_
      case hia7_ => (simp only [List.getElem?_toArray, List.getElem?_cons_succ, List.getElem?_cons_zero]; rfl)
      case h3a7_ => kernel_rfl
      case h4a7_ => kernel_rfl
      case h6a7_ => (refine Or.inl ⟨by rfl, ?_⟩; intro w hSw; (try dsimp only at hSw); (go_simp <;> with_reducible rfl))
      case h5a7_ => exact fun _ _ _ h => h
      try simp only [Act.put, List.setIfInBounds_toArray, List.set_cons_zero, List.set_cons_succ]
      refine wpAnyH_take (i := 6) (oi := ?ooa8_) (v := ?vva8_) ?hia8_ (by kernel_rfl) ?h3a8_ ?h4a8_ ?h5a8_ ?h6a8_ (by assumption) ?h8a8_
      case hia8_ => (simp only [List.getElem?_toArray, List.getElem?_cons_succ, List.getElem?_cons_zero]; rfl)
      case h3a8_ => kernel_rfl
      case h4a8_ => kernel_rfl
      case h6a8_ => (refine Or.inl ⟨by rfl, ?_⟩; intro w hSw; (try dsimp only at hSw); (go_simp <;> with_reducible rfl))
      case h5a8_ => exact fun _ _ _ h => h
      try simp only [Act.put, List.setIfInBounds_toArray, List.set_cons_zero, List.set_cons_succ]
      refine wpAnyH_take (i := 7) (oi := ?ooa9_) (v := ?vva9_) ?hia9_ (by kernel_rfl) ?h3a9_ ?h4a9_ ?h5a9_ ?h6a9_ (by assumption) ?h8a9_
      case hia9_ => (simp only [List.getElem?_toArray, List.getElem?_cons_succ, List.getElem?_cons_zero]; rfl)
      case h3a9_ => kernel_rfl
      case h4a9_ => kernel_rfl
      case h6a9_ => (refine Or.inl ⟨by rfl, ?_⟩; intro w hSw; (try dsimp only at hSw); (go_simp <;> with_reducible rfl))
      case h5a9_ => exact fun _ _ _ h => h
      try simp only [Act.put, List.setIfInBounds_toArray, List.set_cons_zero, List.set_cons_succ]
      refine wpAnyH_ready (rs := [8]) (by kernel_rfl) (by simp) (AllReadyH.cons (o := ?ooa10_q0) ?hia10_q0 (fun K hK => ?hka10_q0) AllReadyH.nil)
      case hia10_q0 => (simp only [List.getElem?_toArray, List.getElem?_cons_succ, List.getElem?_cons_zero]; rfl)
      case hka10_q0 =>
        (rw [if_pos (by rfl)]; go_simp; refine (leqEv A1 A2 p1 p2 x _ (ints_below HI1.out hHeld.2) (ints_below HI2.out hHeld.2) hl).mono ?_; rintro e q_ ⟨rfl, hb⟩; go_wp2_with fail; refine hK.out _ _ (HMK1.out _ (bel_tr hHeld.2 hb)) (fun hHeld => ?_); clear hK K)
        try simp only [Act.put, List.setIfInBounds_toArray, List.set_cons_zero, List.set_cons_succ]
        refine wpAnyH_take (i := 9) (oi := ?ooa11_) (v := ?vva11_) ?hia11_ (by kernel_rfl) ?h3a11_ ?h4a11_ ?h5a11_ ?h6a11_ (by assumption) ?h8a11_
        case hia11_ => (simp only [List.getElem?_toArray, List.getElem?_cons_succ, List.getElem?_cons_zero]; rfl)
        case h3a11_ => kernel_rfl
        case h4a11_ => kernel_rfl
        case h6a11_ => (refine Or.inl ⟨by rfl, ?_⟩; intro w hSw; (try dsimp only at hSw); (go_simp <;> with_reducible rfl))
        case h5a11_ => exact fun _ _ _ h => h
        try simp only [Act.put, List.setIfInBounds_toArray, List.set_cons_zero, List.set_cons_succ]
        refine wpAnyH_done (by kernel_rfl) ?_ _
        clear HMK1
        have B2 := bel_tr B hHeld.2
        clear hHeld
        go_wp2_with fail
        go_roundw
        case rel => exact ⟨k + 1, by omega, by go_num, B2⟩
        case measure => simp [intOf]; omega
    · go_wp2_with fail
      go_ret
      exact ⟨rfl, B⟩
end Go.Proofs.Ythagafkjlecagaa
namespace Go.Proofs.Ythagafkjlecagaa
open Go.ChangeShapes Go.WideShapes Go.RowKit Go.Deep
set_option linter.unusedSimpArgs false
set_option linter.unusedVariables false

set_option maxRecDepth 100000 in
theorem open_ev9 {H : Type} {enc : TypeId × Value → H} {w : World} {base : Nat} {spare : Nat → Bool} {held : Bool} {fuel : Nat} {cs : List Value} {x : DataW H × List MemPlace} (h : DataW.trod enc Try.prog w base spare held fuel 28 cs = some x) : ∃ (A : Option Addr) (cz : Nat) (y : Ev), cs = [.int .i64 y.k, .int .i64 y.dd.k, .int .i64 y.dd.o, .int .i64 y.dd.t, .int .i64 y.dd.n, .int .i64 y.dd.d, .slice A y.dd.zs.length cz, .int .i64 y.at_, .int .i64 y.nu] ∧ IsInts w A y.dd.zs ∧ y.dd.zs.length ≤ cz ∧ cz ≤ maxLen := by
  obtain ⟨xs, n, _, _, hcl, hxl, hfs⟩ := DataW.trod_struct Try.underlying28 h
  have hC : Try.prog.cellsOf 28 = 9 := by kernel_rfl
  have hcl := hcl.trans hC
  have hxl : xs.length = 4 := hxl
  match xs, hxl, cs, hcl with
  | [y0, y1, y2, y3], _, [c0, c1, c2, c3, c4, c5, c6, c7, c8], _ =>
  have s1 : Try.prog.cellsOf 3 = 1 := by kernel_rfl
  have s2 : Try.prog.cellsOf 26 = 6 := by kernel_rfl
  have g0 : DataW.trod enc Try.prog w base spare held n 3 (([c0, c1, c2, c3, c4, c5, c6, c7, c8].drop 0).take (Try.prog.cellsOf 3)) = some y0 := hfs 0 _ rfl
  rw [s1] at g0
  change DataW.trod enc Try.prog w base spare held n 3 [c0] = some y0 at g0
  have g1 : DataW.trod enc Try.prog w base spare held n 26 (([c0, c1, c2, c3, c4, c5, c6, c7, c8].drop 1).take (Try.prog.cellsOf 26)) = some y1 := hfs 1 _ rfl
  rw [s2] at g1
  change DataW.trod enc Try.prog w base spare held n 26 [c1, c2, c3, c4, c5, c6] = some y1 at g1
  have g2 : DataW.trod enc Try.prog w base spare held n 3 (([c0, c1, c2, c3, c4, c5, c6, c7, c8].drop 7).take (Try.prog.cellsOf 3)) = some y2 := hfs 2 _ rfl
  rw [s1] at g2
  change DataW.trod enc Try.prog w base spare held n 3 [c7] = some y2 at g2
  have g3 : DataW.trod enc Try.prog w base spare held n 3 (([c0, c1, c2, c3, c4, c5, c6, c7, c8].drop 8).take (Try.prog.cellsOf 3)) = some y3 := hfs 3 _ rfl
  rw [s1] at g3
  change DataW.trod enc Try.prog w base spare held n 3 [c8] = some y3 at g3
  obtain ⟨k, e0⟩ := trod_intD g0
  obtain ⟨A, cz, y, e1, i1, i2, i3⟩ := open_deed g1
  obtain ⟨at_, e2⟩ := trod_intD g2
  obtain ⟨nu, e3⟩ := trod_intD g3
  injection e1 with q1 e1
  injection e1 with q2 e1
  injection e1 with q3 e1
  injection e1 with q4 e1
  injection e1 with q5 e1
  injection e1 with q6 e1
  subst e0 q1 q2 q3 q4 q5 q6 e2 e3
  exact ⟨A, cz, ⟨k, y, at_, nu⟩, rfl, i1, i2, i3⟩
def EvsIn (w : World) (a : Option Addr) (len cap : Nat) (es : List Ev) : Prop := es.length = len ∧ EsRaw w a es ∧ len ≤ cap ∧ cap ≤ maxLen ∧ ∀ i, i < es.length → (es.getD i ev0).dd.zs.length ≤ maxLen
set_option maxRecDepth 100000 in
theorem open_evs {H : Type} {enc : TypeId × Value → H} {w : World} {base : Nat} {spare : Nat → Bool} {held : Bool} {fuel : Nat} {a : Option Addr} {len cap : Nat} {x : DataW H × List MemPlace} (h : DataW.trod enc Try.prog w base spare held fuel 47 [.slice a len cap] = some x) : ∃ es, EvsIn w a len cap es := by
  rcases open_slice Try.underlying47 h with ⟨hcs, _⟩ | ⟨ad, l, c, m, n', D, Pl, hcs, hb, hl, hm, hmm, hx, hi⟩
  · simp at hcs
    obtain ⟨rfl, rfl, rfl⟩ := hcs
    exact ⟨[], rfl, .inl rfl, Nat.le_refl _, Nat.zero_le _, fun i hi => absurd hi (Nat.not_lt_zero _)⟩
  · simp at hcs
    obtain ⟨rfl, rfl, rfl⟩ := hcs
    have hc : Try.prog.cellsOf 28 = 9 := by kernel_rfl
    have hmn : len ≤ m := by rw [hmm]; split <;> omega
    have each : ∀ i, i < len → ∃ y : Ev, ∃ (A : Option Addr) (cz : Nat), (w.cell? (ad.add (i * 9)) = some (.int .i64 y.k) ∧ w.cell? (ad.add (i * 9 + 1)) = some (.int .i64 y.dd.k) ∧ w.cell? (ad.add (i * 9 + 2)) = some (.int .i64 y.dd.o) ∧ w.cell? (ad.add (i * 9 + 3)) = some (.int .i64 y.dd.t) ∧ w.cell? (ad.add (i * 9 + 4)) = some (.int .i64 y.dd.n) ∧ w.cell? (ad.add (i * 9 + 5)) = some (.int .i64 y.dd.d) ∧ w.cell? (ad.add (i * 9 + 6)) = some (.slice A y.dd.zs.length cz) ∧ w.cell? (ad.add (i * 9 + 7)) = some (.int .i64 y.at_) ∧ w.cell? (ad.add (i * 9 + 8)) = some (.int .i64 y.nu)) ∧ IsInts w A y.dd.zs ∧ y.dd.zs.length ≤ cz ∧ cz ≤ maxLen := fun i hin => by
      obtain ⟨cs', h1, h2⟩ := hi i (by omega)
      obtain ⟨A, cz, y, rfl, j1, j2, j3⟩ := open_ev9 h2
      rw [hc] at h1
      obtain ⟨_, _, hat⟩ := World.cells?_some h1
      have a0 := hat 0 (by omega)
      have a1 := hat 1 (by omega)
      have a2 := hat 2 (by omega)
      have a3 := hat 3 (by omega)
      have a4 := hat 4 (by omega)
      have a5 := hat 5 (by omega)
      have a6 := hat 6 (by omega)
      have a7 := hat 7 (by omega)
      have a8 := hat 8 (by omega)
      rw [add_add] at a0 a1 a2 a3 a4 a5 a6 a7 a8
      exact ⟨y, A, cz, ⟨a0, a1, a2, a3, a4, a5, a6, a7, a8⟩, j1, j2, j3⟩
    obtain ⟨f, hf⟩ : ∃ f : Nat → Ev, ∀ i, i < len → ∃ (A : Option Addr) (cz : Nat), (w.cell? (ad.add (i * 9)) = some (.int .i64 (f i).k) ∧ w.cell? (ad.add (i * 9 + 1)) = some (.int .i64 (f i).dd.k) ∧ w.cell? (ad.add (i * 9 + 2)) = some (.int .i64 (f i).dd.o) ∧ w.cell? (ad.add (i * 9 + 3)) = some (.int .i64 (f i).dd.t) ∧ w.cell? (ad.add (i * 9 + 4)) = some (.int .i64 (f i).dd.n) ∧ w.cell? (ad.add (i * 9 + 5)) = some (.int .i64 (f i).dd.d) ∧ w.cell? (ad.add (i * 9 + 6)) = some (.slice A (f i).dd.zs.length cz) ∧ w.cell? (ad.add (i * 9 + 7)) = some (.int .i64 (f i).at_) ∧ w.cell? (ad.add (i * 9 + 8)) = some (.int .i64 (f i).nu)) ∧ IsInts w A (f i).dd.zs ∧ (f i).dd.zs.length ≤ cz ∧ cz ≤ maxLen :=
      ⟨fun i => if hh : i < len then Classical.choose (each i hh) else ev0, fun i hh => by simp only [dif_pos hh]; exact Classical.choose_spec (each i hh)⟩
    have e : ∀ i, i < len → ((List.range len).map f).getD i ev0 = f i := fun i hin => by
      rw [List.getD_eq_getElem?_getD, List.getElem?_map, List.getElem?_range hin]; rfl
    refine ⟨(List.range len).map f, by simp, ?_, hl, hm, fun i hin => ?_⟩
    · by_cases h0 : len = 0
      · subst h0; exact .inl rfl
      · obtain ⟨b, off, spot⟩ := ad
        obtain ⟨_, _, ⟨hsp, _⟩, _⟩ := hf 0 (by omega)
        have hspot : spot = none := by simpa [Addr.add] using World.cell?_spot hsp
        subst hspot
        refine .inr ⟨b, off, rfl, fun i hin => ?_⟩
        have hin' : i < len := by simpa using hin
        have ao : ∀ j, (⟨b, off, none⟩ : Addr).add j = ⟨b, off + j, none⟩ := fun j => by
          unfold Addr.add
          by_cases hj : j = 0
          · subst hj; simp
          · simp [hj]
        obtain ⟨A, cz, ⟨q0, q1, q2, q3, q4, q5, q6, q7, q8⟩, j1, j2, _⟩ := hf i hin'
        rw [ao] at q0 q1 q2 q3 q4 q5 q6 q7 q8
        rw [e i hin']
        exact ⟨A, cz, ⟨q0, by rw [Nat.add_assoc]; exact q1, by rw [Nat.add_assoc]; exact q2, by rw [Nat.add_assoc]; exact q3, by rw [Nat.add_assoc]; exact q4, by rw [Nat.add_assoc]; exact q5, by rw [Nat.add_assoc]; exact q6, by rw [Nat.add_assoc]; exact q7, by rw [Nat.add_assoc]; exact q8⟩, j1, j2⟩
    · have hin' : i < len := by simpa using hin
      rw [e i hin']
      obtain ⟨_, _, _, _, j2, j3⟩ := hf i hin'
      exact Nat.le_trans j2 j3
end Go.Proofs.Ythagafkjlecagaa
namespace Go.Proofs.Ythagafkjlecagaa
set_option linter.unusedSimpArgs false
set_option linter.unusedVariables false
/-- the text of a book -/
def bkL (es : List Ev) : List UInt8 := es.flatMap (fun e => evT e ++ [10])
def bkB (es : List Ev) : Bool := decide (es.length ≤ 60) && es.all (fun e => decide (evW e ≠ []))
def bkT (es : List Ev) : ByteArray := if bkB es then txt (bkL es) else tE
theorem bk_yes {es : List Ev} (h : bkB es = true) : bkT es = txt (bkL es) := by unfold bkT; rw [h]; rfl
theorem bk_no {es : List Ev} (h : bkB es = false) : bkT es = tE := by unfold bkT; rw [h]; rfl
theorem bkB_iff {es : List Ev} : bkB es = true ↔ es.length ≤ 60 ∧ ∀ e ∈ es, evW e ≠ [] := by unfold bkB; simp
theorem bkL_nil : bkL [] = [] := rfl
theorem bkL_cons (e : Ev) (es : List Ev) : bkL (e :: es) = evT e ++ 10 :: bkL es := by unfold bkL; simp
theorem bkL_app (a b : List Ev) : bkL (a ++ b) = bkL a ++ bkL b := by unfold bkL; rw [List.flatMap_append]
theorem bkL_snoc (a : List Ev) (e : Ev) : bkL (a ++ [e]) = bkL a ++ evT e ++ [10] := by rw [bkL_app]; unfold bkL; simp
theorem bkL_join (es : List Ev) : bkL es = joinL 10 (es.map evT ++ [[]]) := by
  induction es with
  | nil => rfl
  | cons e t ih =>
    rw [List.map_cons, List.cons_append, join_cons 10 _ (by simp), ← ih, bkL_cons]
theorem bkL_zero {es : List Ev} (h : bkL es = []) : es = [] := by
  cases es with
  | nil => rfl
  | cons e t => rw [bkL_cons] at h; simp at h
/-- the lines of a book's text, and of one that is followed by a torn line -/
theorem book_cut (es : List Ev) (r : List UInt8) (hr : (10 : UInt8) ∉ r) : cutS 10 (txt (bkL es ++ r)) = es.map fmE ++ [txt r] := by
  have hj : bkL es ++ r = joinL 10 (es.map evT ++ [r]) := by
    have := join_last 10 (es.map evT) [] r
    rw [List.nil_append] at this
    rw [this, ← bkL_join]
  have := cut_join (c := 10) (P := es.map evT ++ [r]) (by simp) (fun a ha => by
    rcases List.mem_append.1 ha with ha | ha
    · obtain ⟨e, _, rfl⟩ := List.mem_map.1 ha; exact evT_no e
    · simp only [List.mem_singleton] at ha; subst ha; exact hr)
  rw [← hj, show ((10 : UInt8).toNat : Int) = 10 from rfl] at this
  rw [this, List.map_append, List.map_map]; rfl
/-- the events of lines, up to the first that is none -/
def recL : List ByteArray → List Ev
  | [] => []
  | l :: ls => match parM l with
    | some e => e :: recL ls
    | none => []
theorem recL_some {l : ByteArray} {e : Ev} (ls : List ByteArray) (h : parM l = some e) : recL (l :: ls) = e :: recL ls := by rw [recL, h]
theorem recL_none {l : ByteArray} (ls : List ByteArray) (h : parM l = none) : recL (l :: ls) = [] := by rw [recL, h]
/-- what is recovered of a text -/
def recB (s : ByteArray) : List Ev := (recL (lnA s)).take 60
theorem recB_len (s : ByteArray) : (recB s).length ≤ 60 := by unfold recB; rw [List.length_take]; omega
theorem lnA_of {s : ByteArray} {A : List ByteArray} {r : ByteArray} (h : cutS 10 s = A ++ [r]) : lnA s = A := by
  have e : cutS 10 s = lnA s ++ [s.extract (cutTo 10 s s.size).2 s.size] := rfl
  rw [e] at h
  exact List.append_inj_left' h rfl
theorem recL_book {es : List Ev} (h : ∀ e ∈ es, evW e ≠ []) : recL (es.map fmE) = es.map canE := by
  induction es with
  | nil => rfl
  | cons e t ih =>
    rw [List.map_cons, recL_some _ (par_of (h e (by simp)) (L := cutS 32 (fmE e)) (fun _ => rfl)).2, ih (fun x hx => h x (by simp [hx]))]; rfl
/-- what was written is recovered, whatever line stands torn behind it -/
theorem rec_book {es : List Ev} (h : bkB es = true) {r : List UInt8} (hr : (10 : UInt8) ∉ r) : recB (txt (bkL es ++ r)) = es.map canE := by
  obtain ⟨hn, he⟩ := bkB_iff.1 h
  unfold recB
  rw [lnA_of (book_cut es r hr), recL_book he, List.take_of_length_le (by rw [List.length_map]; exact hn)]
theorem rec_text {es : List Ev} (h : bkB es = true) : recB (bkT es) = es.map canE := by
  have := rec_book h (r := []) (by simp)
  rw [List.append_nil] at this
  rw [bk_yes h, this]
/-- every recovered event has a text, and nothing that its text does not name -/
theorem recL_is : ∀ {ls : List ByteArray} {e : Ev}, e ∈ recL ls → evW e ≠ [] ∧ canE e = e := by
  intro ls
  induction ls with
  | nil => intro e h; cases h
  | cons l t ih =>
    intro e h
    cases c : parM l with
    | none => rw [recL_none t c] at h; cases h
    | some x =>
      rw [recL_some t c] at h
      rcases List.mem_cons.1 h with h | h
      · subst h; exact ⟨(par_is c).2.2.1, (par_is c).2.2.2⟩
      · exact ih h
theorem recL_pre (ls : List ByteArray) : ∃ n, n ≤ ls.length ∧ (recL ls).length = n ∧ (recL ls).map fmE = ls.take n := by
  induction ls with
  | nil => exact ⟨0, Nat.le_refl _, rfl, rfl⟩
  | cons l t ih =>
    cases c : parM l with
    | none => exact ⟨0, Nat.zero_le _, by rw [recL_none t c]; rfl, by rw [recL_none t c]; rfl⟩
    | some x =>
      obtain ⟨n, h1, h2, h3⟩ := ih
      refine ⟨n + 1, by simp; omega, by rw [recL_some t c]; simp [h2], ?_⟩
      rw [recL_some t c, List.map_cons, h3, (par_is c).2.1]; rfl
theorem bk_of (es : List Ev) : (es.map fmE).map (fun x => x.data.toList) = es.map evT := by rw [List.map_map]; rfl
/-- joined pieces: a first part, each piece followed by a newline, is the head of the whole -/
theorem join_head (c : UInt8) : ∀ (P : List (List UInt8)) (n : Nat), n < P.length → ∃ y, joinL c P = (P.take n).flatMap (fun a => a ++ [c]) ++ y := by
  intro P
  induction P with
  | nil => intro n h; exact absurd h (Nat.not_lt_zero _)
  | cons a t ih =>
    intro n h
    cases n with
    | zero => exact ⟨_, rfl⟩
    | succ n =>
      have ht : t ≠ [] := by intro e; rw [e] at h; simp at h
      obtain ⟨y, hy⟩ := ih n (by simpa using h)
      refine ⟨y, ?_⟩
      rw [join_cons c a ht, hy]
      simp
/-- what is recovered was written: its text is the head of the text -/
theorem rec_head (s : ByteArray) : bkB (recB s) = true ∧ ∃ y, s.data.toList = bkL (recB s) ++ y := by
  obtain ⟨n, h1, h2, h3⟩ := recL_pre (lnA s)
  have hm : ∀ e ∈ recB s, evW e ≠ [] := fun e he => (recL_is (List.mem_of_mem_take he)).1
  refine ⟨bkB_iff.2 ⟨recB_len s, hm⟩, ?_⟩
  have hf := (cutS_facts 10 s).1
  rw [show ((10 : UInt8).toNat : Int) = 10 from rfl] at hf
  have e : cutS 10 s = lnA s ++ [s.extract (cutTo 10 s s.size).2 s.size] := rfl
  have hl : (recB s).length ≤ (lnA s).length := by unfold recB; rw [List.length_take]; omega
  obtain ⟨y, hy⟩ := join_head 10 ((cutS 10 s).map (fun x => x.data.toList)) (recB s).length (by rw [List.length_map, e]; simp; omega)
  refine ⟨y, ?_⟩
  rw [← hf, hy]
  congr 1
  have ht : ((cutS 10 s).map (fun x => x.data.toList)).take (recB s).length = (recB s).map evT := by
    rw [← bk_of, ← List.map_take, e, List.take_append_of_le_length hl]
    congr 1
    have h4 : (recB s).map fmE = ((lnA s).take n).take 60 := by unfold recB; rw [List.map_take, h3]
    have h5 : (recB s).length = min 60 n := by unfold recB; rw [List.length_take, h2]
    rw [h4, h5, List.take_take]
  rw [ht]
  unfold bkL
  rw [List.flatMap_map]
/-- of a text that is cut short, the first of the same events are recovered -/
theorem recL_app (a b : List ByteArray) : ∃ n, recL a = (recL (a ++ b)).take n := by
  induction a with
  | nil => exact ⟨0, by rw [recL]; simp⟩
  | cons l t ih =>
    cases c : parM l with
    | none => exact ⟨0, by rw [recL_none t c]; simp⟩
    | some x =>
      obtain ⟨n, hn⟩ := ih
      exact ⟨n + 1, by rw [List.cons_append, recL_some t c, recL_some (t ++ b) c, hn]; rfl⟩
theorem lnA_ext (s : ByteArray) {n : Nat} (hn : n ≤ s.size) : lnA (s.extract 0 n) = (cutTo 10 s n).1 := by
  have hz : (s.extract 0 n).size = n := by simp; omega
  have key : ∀ k, k ≤ n → cutTo 10 (s.extract 0 n) k = cutTo 10 s k := by
    intro k
    induction k with
    | zero => intro _; rfl
    | succ k ih =>
      intro hk
      have hb : bt (s.extract 0 n) k = bt s k := by rw [bt_ext s 0 n k (by omega), Nat.zero_add]
      have i := ih (by omega)
      by_cases c : bt s k = 10
      · rw [cutTo_hit (hb.trans c), cutTo_hit c, i]
        have hb2 := (cutTo_bd 10 s k).1
        have he : (s.extract 0 n).extract (cutTo 10 s k).2 k = s.extract (cutTo 10 s k).2 k := by
          rw [ByteArray.extract_extract]; congr 1 <;> omega
        rw [he]
      · rw [cutTo_miss (fun q => c (hb.symm.trans q)), cutTo_miss c, i]
  unfold lnA
  rw [hz, key n (Nat.le_refl _)]
theorem take_take_le {α : Type} (l : List α) (a b : Nat) : ∃ m, (l.take a).take b = (l.take b).take m := ⟨a, by rw [List.take_take, List.take_take, Nat.min_comm]⟩
theorem rec_torn (s : ByteArray) {n : Nat} (hn : n ≤ s.size) : recB (s.extract 0 n) = (recB s).take (recB (s.extract 0 n)).length := by
  obtain ⟨Q, hQ⟩ := cut_pre_all (c := 10) (s := s) hn
  have e : lnA s = lnA (s.extract 0 n) ++ Q := by rw [lnA_ext s hn]; exact hQ
  obtain ⟨m, hm⟩ := recL_app (lnA (s.extract 0 n)) Q
  rw [← e] at hm
  have h : recB (s.extract 0 n) = (recB s).take m := by
    unfold recB
    rw [hm, List.take_take, List.take_take, Nat.min_comm]
  rw [h, List.length_take, List.take_eq_take_iff]
  omega
end Go.Proofs.Ythagafkjlecagaa
namespace Go.Proofs.Ythagafkjlecagaa
open Go.RowKit
set_option linter.unusedSimpArgs false
set_option linter.unusedVariables false

theorem nTo {n : Int} (h : ownB n = true) : (nT n).length ≤ 40 := by have := own_bd h; have := nT_len (n := n) this.1 (by omega); omega
theorem nTs {n : Int} (h : smlB n = true) : (nT n).length ≤ 40 := by have := sml_bd h; have := nT_len (n := n) this.1 (by omega); omega
theorem frT40 {n d : Int} (h : Wsh.vfB n d = true) : (frT n d).data.toList.length ≤ 40 := by
  obtain ⟨y1, y2, y3, y4, _⟩ := (Wsh.vfB_iff _ _).1 h
  rw [frT_list]
  have := dec_len 15 n.toNat (by omega)
  have := dec_len 15 d.toNat (by omega)
  simp; omega
theorem words_40 (e : Ev) : ∀ a ∈ evW e, a.length ≤ 40 := by
  intro a ha
  by_cases h : evW e = []
  · rw [h] at ha; cases ha
  obtain ⟨hk, s1, s2⟩ := ev_kinds e h
  have w1 : evW e = if e.k = 0 then deedW e.dd else evW e := by
    by_cases c : e.k = 0
    · rw [if_pos c]; unfold evW; rw [if_pos ⟨s1, s2⟩, if_pos c]
    · rw [if_neg c]
  by_cases c : e.k = 0
  · rw [if_pos c] at w1
    rw [w1] at ha h
    unfold deedW at ha
    by_cases q : ownB e.dd.o = true ∧ e.dd.zs.length ≤ 12
    · rw [if_pos q] at ha
      by_cases d1 : e.dd.k = 1
      · rw [if_pos d1] at ha
        by_cases z : e.dd.zs.all ownB = true
        · rw [if_pos z] at ha
          simp only [List.mem_cons, List.mem_map] at ha
          rcases ha with rfl | rfl | ⟨y, hy, rfl⟩
          · decide
          · exact nTo q.1
          · exact nTo (List.all_eq_true.1 z y hy)
        · rw [if_neg z] at ha; cases ha
      · rw [if_neg d1] at ha
        by_cases tt : ownB e.dd.t = true
        · rw [if_pos tt] at ha
          by_cases d2 : e.dd.k = 2
          · rw [if_pos d2] at ha
            simp only [List.mem_cons, List.not_mem_nil, or_false] at ha
            rcases ha with rfl | rfl | rfl
            · decide
            · exact nTo q.1
            · exact nTo tt
          · rw [if_neg d2] at ha
            by_cases d0 : e.dd.k = 0 ∧ Wsh.vfB e.dd.n e.dd.d = true
            · rw [if_pos d0] at ha
              simp only [List.mem_cons, List.not_mem_nil, or_false] at ha
              rcases ha with rfl | rfl | rfl | rfl
              · decide
              · exact nTo q.1
              · exact nTo tt
              · exact frT40 d0.2
            · rw [if_neg d0] at ha; cases ha
        · rw [if_neg tt] at ha; cases ha
    · rw [if_neg q] at ha; cases ha
  · clear w1
    unfold evW at ha
    rw [if_pos ⟨s1, s2⟩, if_neg c] at ha
    repeat' split at ha
    all_goals simp only [List.mem_cons, List.not_mem_nil, or_false] at ha
    all_goals first
      | (rcases ha with rfl | rfl | rfl <;> first | exact nTs s1 | exact nTs s2 | decide)
      | (rcases ha with rfl | rfl <;> first | exact nTs s1 | exact nTs s2 | decide)
theorem joinL_len (c : UInt8) (m : Nat) : ∀ P : List (List UInt8), (∀ a ∈ P, a.length ≤ m) → (joinL c P).length ≤ P.length * (m + 1) := by
  intro P
  induction P with
  | nil => intro _; simp [joinL]
  | cons x t ih =>
    intro h
    have hx := h x (by simp)
    have i := ih (fun a ha => h a (by simp [ha]))
    by_cases ht : t = []
    · subst ht; show x.length ≤ 1 * (m + 1); omega
    · rw [join_cons c x ht, List.length_append, List.length_cons, List.length_cons, Nat.add_mul]; omega
theorem evT_len (e : Ev) : (evT e).length ≤ 600 := by
  have a := joinL_len 32 40 (evW e) (words_40 e)
  have b := words_len e
  have c : (evW e).length * 41 ≤ 14 * 41 := Nat.mul_le_mul_right 41 b
  unfold evT
  omega
theorem bk_take {es : List Ev} {k : Nat} (h : k < es.length) : bkL (es.take (k + 1)) = bkL (es.take k) ++ evT (es.getD k ev0) ++ [10] := by
  rw [List.take_add_one, List.getD_eq_getElem?_getD, List.getElem?_eq_getElem h]
  exact bkL_snoc _ _
theorem bk_len (es : List Ev) : (bkL es).length ≤ es.length * 601 := by
  induction es with
  | nil => simp [bkL]
  | cons e t ih =>
    rw [bkL_cons]
    have := evT_len e
    simp only [List.length_append, List.length_cons]
    omega
theorem bkB_long {es : List Ev} (h : 60 < es.length) : bkB es = false := by unfold bkB; rw [decide_eq_false (by omega)]; rfl
theorem bkB_bad {es : List Ev} {k : Nat} (h : k < es.length) (hx : evW (es.getD k ev0) = []) : bkB es = false := by
  cases c : bkB es with
  | false => rfl
  | true =>
    have := (bkB_iff.1 c).2 _ (by rw [List.getD_eq_getElem?_getD, List.getElem?_eq_getElem h]; exact List.getElem_mem h : es.getD k ev0 ∈ es)
    exact absurd hx this
theorem bkB_good {es : List Ev} (hl : es.length ≤ 60) (h : ∀ j, j < es.length → evW (es.getD j ev0) ≠ []) : bkB es = true := by
  refine bkB_iff.2 ⟨hl, fun e he => ?_⟩
  obtain ⟨j, hj, rfl⟩ := List.mem_iff_getElem.1 he
  have := h j hj
  rwa [List.getD_eq_getElem?_getD, List.getElem?_eq_getElem hj] at this
theorem fm_empty {x : Ev} (h : evW x = []) : (fmE x).toList.isEmpty = true := by
  have : evT x = [] := (evT_nil x).2 h
  unfold fmE; rw [this, ByteArray.toList_eq]; rfl
theorem fm_full {x : Ev} (h : evW x ≠ []) : (fmE x).toList.isEmpty = false := by
  rw [ByteArray.toList_eq, List.isEmpty_eq_false_iff]
  intro c
  exact h ((evT_nil x).1 c)
set_option maxRecDepth 100000 in
set_option maxHeartbeats 6000000 in
/-- impl.FormatBook -/
theorem iFmtB (a : Option Addr) (cap : Nat) (es : List Ev) (w : World) (h : IsEvs w a es) (hn : es.length ≤ 1048576) :
    Calls Try.prog 25 #[.slice a es.length cap] w fun e w' => e = .returned (.string (bkT es)) ∧ Below w.heap.size w w' := by
  have B := Below.refl w.heap.size w
  have HI := Lib.hid h
  clear h
  by_cases hl : es.length ≤ 60
  case neg =>
    have HX := Lib.hid (bk_no (bkB_long (es := es) (by omega)))
    have z1 : (60 : Int) < (es.length : Int) := by omega
    clear hl
    go_enter Try.func25, Try.ntmps25
    go_wp2_with fail
    go_ret
    exact ⟨ret_str HX.out.symm, B⟩
  have z1 : ¬ (60 : Int) < (es.length : Int) := by omega
  have HL := Lib.hid hl
  go_enter Try.func25, Try.ntmps25
  go_wp2_with fail
  clear z1
  go_loopw [3, 12] (fun tx i wr => ∃ k : Nat, k ≤ es.length ∧ i = .int .i64 k ∧ tx = .string (txt (bkL (es.take k))) ∧ Hid (∀ j, j < k → evW (es.getD j ev0) ≠ []) ∧ Below w.heap.size w wr) (fun _ i _ => es.length - (intOf i).toNat)
  case atStart => exact ⟨0, Nat.zero_le _, rfl, rfl, fun j hj => absurd hj (Nat.not_lt_zero _), B⟩
  case round =>
    clear B hl
    obtain ⟨k, hk, rfl, rfl, HO, B⟩ := hrel
    by_cases hlt : k < es.length
    · rcases HI.out with hd0 | ⟨g, o, rfl, hg⟩
      · rw [hd0] at hlt; exact absurd hlt (Nat.not_lt_zero _)
      obtain ⟨A, cz, c0, c1, c2, c3, c4, c5, c6, c7, c8, hI, hzn, hzc⟩ := ev_below (hg k hlt) B
      have HN := Lib.hid (bk_take hlt)
      have hb1 := bk_len (es.take k)
      have hb2 := evT_len (es.getD k ev0)
      have hb3 : (es.take k).length ≤ 60 := by rw [List.length_take]; have := HL.out; omega
      have hbad := bkB_bad hlt
      have hgood : evW (es.getD k ev0) ≠ [] → ∀ j, j < k + 1 → evW (es.getD j ev0) ≠ [] := fun hx j hj => by
        by_cases e : j = k
        · subst e; exact hx
        · exact HO.out j (by omega)
      have hk0 : (0 : Int) ≤ (k : Int) := by omega
      have hk1 : (k : Int) < (es.length : Int) := by omega
      clear hg
      generalize es.getD k ev0 = x at c0 c1 c2 c3 c4 c5 c6 c7 c8 hI hzn hzc HN hb2 hbad hgood
      have lt0 := World.block_lt_of_cell? wr _ c0
      generalize bkL (es.take k) = T at *
      have hT : T.length ≤ 60 * 601 := Nat.le_trans hb1 (Nat.mul_le_mul_right 601 hb3)
      have HII := Lib.hid hI
      clear hI hzn hzc hb1 hb3
      have D : Below wr.heap.size wr (wr.alloc (.cells #[.int .i64 x.k, .int .i64 x.dd.k, .int .i64 x.dd.o, .int .i64 x.dd.t, .int .i64 x.dd.n, .int .i64 x.dd.d, .slice A x.dd.zs.length cz, .int .i64 x.at_, .int .i64 x.nu] 35)) := (Below.refl _ _).alloc (Nat.le_refl _) _
      have K := Blk.new wr 35 #[.int .i64 x.k, .int .i64 x.dd.k, .int .i64 x.dd.o, .int .i64 x.dd.t, .int .i64 x.dd.n, .int .i64 x.dd.d, .slice A x.dd.zs.length cz, .int .i64 x.at_, .int .i64 x.nu]
      have BA := B.alloc B.size (.cells #[.int .i64 x.k, .int .i64 x.dd.k, .int .i64 x.dd.o, .int .i64 x.dd.t, .int .i64 x.dd.n, .int .i64 x.dd.d, .slice A x.dd.zs.length cz, .int .i64 x.at_, .int .i64 x.nu] 35)
      have CF := iFmtE A cz x _ (ints_below HII.out D)
      obtain ⟨U, hU⟩ : ∃ U, U = wr.alloc (.cells #[.int .i64 x.k, .int .i64 x.dd.k, .int .i64 x.dd.o, .int .i64 x.dd.t, .int .i64 x.dd.n, .int .i64 x.dd.d, .slice A x.dd.zs.length cz, .int .i64 x.at_, .int .i64 x.nu] 35) := ⟨_, rfl⟩
      rw [← hU] at K BA CF D
      have HU := Lib.hid hU
      clear hU D
      obtain ⟨r0, r1, r2, r3, r4, r5, r6, r7, r8⟩ := cells9 K
      by_cases hx : evW x = []
      · have HX := Lib.hid (bk_no (hbad hx))
        have tt := fm_empty hx
        clear hbad hgood hx
        go_wp2_with (first | (show wpList _ _ _ ({ dst := some _, op := _, type := _, pos := _, after := _, guard := _ } :: _) _ (World.alloc _ _); rw [← HU.out]))
        refine CF.mono ?_
        rintro e u1 ⟨rfl, C⟩
        clear r0 r1 r2 r3 r4 r5 r6 r7 r8
        replace BA := bel_tr BA C
        clear C
        go_wp2_with fail
        go_ret
        exact ⟨ret_str HX.out.symm, BA⟩
      ·
        have tt := fm_full hx
        have HG := Lib.hid (hgood hx)
        have e1 : fmE x = txt (evT x) := rfl
        rw [e1] at CF tt
        generalize evT x = Y at *
        have a1 := fun w => add_txt T Y w (by omega)
        have a2 : ∀ w, (Op.stringOp .add (txt (T ++ Y)) ({ data := #[10] } : ByteArray)).run Try.prog w = .ok (.string (txt (T ++ Y ++ [10]))) w := fun w => add_txt (T ++ Y) [10] w (by simp; omega)
        generalize T ++ Y ++ [10] = T2 at *
        generalize T ++ Y = T1 at *
        clear hbad hgood hx
        go_wp2_with (first | (show wpList _ _ _ ({ dst := some _, op := _, type := _, pos := _, after := _, guard := _ } :: _) _ (World.alloc _ _); rw [← HU.out]))
        refine CF.mono ?_
        rintro e u1 ⟨rfl, C⟩
        clear r0 r1 r2 r3 r4 r5 r6 r7 r8
        replace BA := bel_tr BA C
        clear C
        go_wp2_with fail
        go_roundw
        case rel => exact ⟨k + 1, by omega, by go_num, by rw [HN.out], HG.out, BA⟩
        case measure => simp [intOf]; omega
    · obtain rfl : k = es.length := by omega
      have HX : Hid (bkT es = txt (bkL (es.take es.length))) := Lib.hid (by rw [bk_yes (bkB_good HL.out HO.out), List.take_length])
      go_wp2_with fail
      go_ret
      exact ⟨ret_str HX.out.symm, B⟩
set_option maxRecDepth 100000 in
set_option maxHeartbeats 6000000 in
/-- spec.FormatBook -/
theorem sFmtB (a : Option Addr) (cap : Nat) (es : List Ev) (w : World) (h : IsEvs w a es) (hn : es.length ≤ 1048576) :
    Calls Try.prog 23 #[.slice a es.length cap] w fun e w' => e = .returned (.string (bkT es)) ∧ Below w.heap.size w w' := by
  have B := Below.refl w.heap.size w
  have HI := Lib.hid h
  clear h
  by_cases hl : es.length ≤ 60
  case neg =>
    have HX := Lib.hid (bk_no (bkB_long (es := es) (by omega)))
    have z1 : (60 : Int) < (es.length : Int) := by omega
    clear hl
    go_enter Try.func23, Try.ntmps23
    go_wp2_with fail
    go_ret
    exact ⟨ret_str HX.out.symm, B⟩
  have z1 : ¬ (60 : Int) < (es.length : Int) := by omega
  have HL := Lib.hid hl
  go_enter Try.func23, Try.ntmps23
  go_wp2_with fail
  clear z1
  go_loopw [3, 4] (fun tx i wr => ∃ k : Nat, k ≤ es.length ∧ i = .int .i64 k ∧ tx = .string (txt (bkL (es.take k))) ∧ Hid (∀ j, j < k → evW (es.getD j ev0) ≠ []) ∧ Below w.heap.size w wr) (fun _ i _ => es.length - (intOf i).toNat)
  case atStart => exact ⟨0, Nat.zero_le _, rfl, rfl, fun j hj => absurd hj (Nat.not_lt_zero _), B⟩
  case round =>
    clear B hl
    obtain ⟨k, hk, rfl, rfl, HO, B⟩ := hrel
    by_cases hlt : k < es.length
    · rcases HI.out with hd0 | ⟨g, o, rfl, hg⟩
      · rw [hd0] at hlt; exact absurd hlt (Nat.not_lt_zero _)
      obtain ⟨A, cz, c0, c1, c2, c3, c4, c5, c6, c7, c8, hI, hzn, hzc⟩ := ev_below (hg k hlt) B
      have HN := Lib.hid (bk_take hlt)
      have hb1 := bk_len (es.take k)
      have hb2 := evT_len (es.getD k ev0)
      have hb3 : (es.take k).length ≤ 60 := by rw [List.length_take]; have := HL.out; omega
      have hbad := bkB_bad hlt
      have hgood : evW (es.getD k ev0) ≠ [] → ∀ j, j < k + 1 → evW (es.getD j ev0) ≠ [] := fun hx j hj => by
        by_cases e : j = k
        · subst e; exact hx
        · exact HO.out j (by omega)
      have hk0 : (0 : Int) ≤ (k : Int) := by omega
      have hk1 : (k : Int) < (es.length : Int) := by omega
      clear hg
      generalize es.getD k ev0 = x at c0 c1 c2 c3 c4 c5 c6 c7 c8 hI hzn hzc HN hb2 hbad hgood
      have lt0 := World.block_lt_of_cell? wr _ c0
      generalize bkL (es.take k) = T at *
      have hT : T.length ≤ 60 * 601 := Nat.le_trans hb1 (Nat.mul_le_mul_right 601 hb3)
      have HII := Lib.hid hI
      clear hI hzn hzc hb1 hb3
      by_cases hx : evW x = []
      · have HX := Lib.hid (bk_no (hbad hx))
        have tt := fm_empty hx
        have CF := fun W (hW : Below wr.heap.size wr W) => sshowE A cz x W (ints_below HII.out hW)
        have HCF := Lib.hid CF
        clear hbad hgood hx CF
        go_wp2_with fail
        refine (HCF.out _ (Below.refl _ _)).mono ?_
        rintro e u1 ⟨rfl, C⟩
        have BA := bel_tr B C
        clear C
        go_wp2_with fail
        go_ret
        exact ⟨ret_str HX.out.symm, BA⟩
      ·
        have tt := fm_full hx
        have CF := fun W (hW : Below wr.heap.size wr W) => sshowE A cz x W (ints_below HII.out hW)
        have HG := Lib.hid (hgood hx)
        have e1 : fmE x = txt (evT x) := rfl
        rw [e1] at CF tt
        generalize evT x = Y at *
        have a1 := fun w => add_txt T Y w (by omega)
        have a2 : ∀ w, (Op.stringOp .add (txt (T ++ Y)) ({ data := #[10] } : ByteArray)).run Try.prog w = .ok (.string (txt (T ++ Y ++ [10]))) w := fun w => add_txt (T ++ Y) [10] w (by simp; omega)
        generalize T ++ Y ++ [10] = T2 at *
        generalize T ++ Y = T1 at *
        have HCF := Lib.hid CF
        clear hbad hgood hx CF
        go_wp2_with fail
        refine (HCF.out _ (Below.refl _ _)).mono ?_
        rintro e u1 ⟨rfl, C⟩
        replace B := bel_tr B C
        replace c0 := (C.cell (p := ⟨g, o + k * 9, none⟩) lt0).trans c0
        replace c1 := (C.cell (p := ⟨g, o + k * 9 + 1, none⟩) lt0).trans c1
        replace c2 := (C.cell (p := ⟨g, o + k * 9 + 2, none⟩) lt0).trans c2
        replace c3 := (C.cell (p := ⟨g, o + k * 9 + 3, none⟩) lt0).trans c3
        replace c4 := (C.cell (p := ⟨g, o + k * 9 + 4, none⟩) lt0).trans c4
        replace c5 := (C.cell (p := ⟨g, o + k * 9 + 5, none⟩) lt0).trans c5
        replace c6 := (C.cell (p := ⟨g, o + k * 9 + 6, none⟩) lt0).trans c6
        replace c7 := (C.cell (p := ⟨g, o + k * 9 + 7, none⟩) lt0).trans c7
        replace c8 := (C.cell (p := ⟨g, o + k * 9 + 8, none⟩) lt0).trans c8
        go_wp2_with fail
        refine (HCF.out _ C).mono ?_
        rintro e u2 ⟨rfl, C2⟩
        have BA := bel_tr B C2
        clear C C2
        go_wp2_with fail
        go_roundw
        case rel => exact ⟨k + 1, by omega, by go_num, by rw [HN.out], HG.out, BA⟩
        case measure => simp [intOf]; omega
    · obtain rfl : k = es.length := by omega
      have HX : Hid (bkT es = txt (bkL (es.take es.length))) := Lib.hid (by rw [bk_yes (bkB_good HL.out HO.out), List.take_length])
      go_wp2_with fail
      go_ret
      exact ⟨ret_str HX.out.symm, B⟩
end Go.Proofs.Ythagafkjlecagaa
