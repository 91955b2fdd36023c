/- The reader that the laws draw their inputs with: newReader, pick and one. Conditions: the reader has read at most 100000 numbers before, and what is asked of pick is at most 1000000. -/
import Derived.Test.YthagafkjlecagabGrA
import Derived.Deep.QuietTactic
import Derived.BigQuiet
import Derived.Laws.AppendOwn
import Derived.OwnWalk
import Derived.Laws.BitsAllLaws
import Derived.Laws.BitsLemmas
import Derived.WalkLawsBesides
import Derived.OpenShut
namespace Go.Proofs.Ythagafkjlecagab
open Go.RowKit

/-- the reader in block b, which has read at most P numbers -/
def Rd (w : World) (b : Nat) (P : Int) : Prop := ∃ (a : Option Addr) (len cap k : Nat),
  w.cell? ⟨b, 0, none⟩ = some (.slice a len cap) ∧ w.cell? ⟨b, 1, none⟩ = some (.int .i64 (k : Int)) ∧ (k : Int) ≤ P ∧ w.frozen? ⟨b, 1, none⟩ = false ∧ len ≤ 2000 ∧
  (len = 0 ∨ ∃ ab off, a = some ⟨ab, off, none⟩ ∧ ab < b ∧ ∀ i, i < len → ∃ x : Int, w.cell? ⟨ab, off + i, none⟩ = some (.int .u8 x) ∧ 0 ≤ x ∧ x < 256)

theorem g_alloc {a w : World} {row : Option Nat} (h : a.grownBy w row) (o : Obj) : a.grownBy (w.alloc o) row :=
  ⟨h.os, h.tape, h.output, Nat.le_trans h.size (by simp), fun i hi hne => (Below.heap_alloc w o i (Nat.lt_of_lt_of_le hi h.size)).trans (h.block i hi hne)⟩
theorem g_set {a w : World} {g : Nat} (h : a.grownBy w (some g)) {p : Addr} (hp : p.block = g ∨ a.heap.size ≤ p.block) (u : Value) : a.grownBy (w.setCell p u) (some g) :=
  ⟨h.os, h.tape, h.output, by simpa [World.setCell] using h.size, fun i hi hne => (Below.heap_setCell w p u i (by
    rintro rfl
    rcases hp with hp | hp
    · exact hne (by rw [hp])
    · omega)).trans (h.block i hi hne)⟩
theorem g_below {a w : World} (h : Below a.heap.size a w) (row : Option Nat) : a.grownBy w row := ⟨h.os, h.tape, h.output, h.size, fun i hi _ => h.block i hi⟩
theorem g_drewN {a w : World} {row : Option Nat} (h : a.grownBy w row) (n : Nat) : a.grownBy (w.drewN n) row := ⟨h.os, h.tape, h.output, h.size, h.block⟩
theorem g_trans {a b c : World} {g : Nat} (h : a.grownBy b (some g)) (k : b.grownBy c (some g)) : a.grownBy c (some g) :=
  ⟨k.os.trans h.os, k.tape.trans h.tape, k.output.trans h.output, Nat.le_trans h.size k.size, fun i hi hne => (k.block i (Nat.lt_of_lt_of_le hi h.size) hne).trans (h.block i hi hne)⟩
theorem g_cell {a w : World} {g : Nat} (h : a.grownBy w (some g)) {b o : Nat} (hb : b < a.heap.size) (hne : b ≠ g) : w.cell? ⟨b, o, none⟩ = a.cell? ⟨b, o, none⟩ :=
  World.cell?_of_block (h.block b hb (fun e => hne (by injection e)))
theorem g_frozen {a w : World} {g : Nat} (h : a.grownBy w (some g)) {b o : Nat} (hb : b < a.heap.size) (hne : b ≠ g) : w.frozen? ⟨b, o, none⟩ = a.frozen? ⟨b, o, none⟩ :=
  World.frozen?_of_block (h.block b hb (fun e => hne (by injection e)))

theorem so {w : World} {a c : Addr} {v u : Value} (h : a ≠ c) (hu : w.cell? c = some u) : (w.setCell a v).cell? c = some u := by
  rw [World.cell?_setCell_other]
  · exact hu
  · exact h
theorem ofInt_i64 (a : Nat) (ha : a < 9223372036854775808) : (BitVec.ofInt 64 (a : Int)).toNat = a := by
  rw [BitVec.ofInt_natCast, BitVec.toNat_ofNat]; exact Nat.mod_eq_of_lt (by omega)
theorem i64_xor_nat (a b : Nat) (ha : a < 9223372036854775808) (hb : b < 9223372036854775808) : bits .xor .i64 (a : Int) (b : Int) = ((a ^^^ b : Nat) : Int) := by
  have hx : a ^^^ b < 2 ^ 63 := Nat.xor_lt_two_pow (by omega) (by omega)
  show IntKind.i64.wrap ((BitVec.ofInt 64 (a : Int) ^^^ BitVec.ofInt 64 (b : Int)).toNat : Int) = _
  rw [BitVec.toNat_xor, ofInt_i64 a ha, ofInt_i64 b hb, IntKind.wrap_i64]
  omega
theorem mixv (X n : Int) (h0 : 0 ≤ X) (h1 : X ≤ 1000000000) (hn : 1 ≤ n) : 0 ≤ (bits .xor .i64 X (X / 64)).tmod n ∧ (bits .xor .i64 X (X / 64)).tmod n < n := by
  obtain ⟨a, rfl⟩ := Int.eq_ofNat_of_zero_le h0
  have e : ((a : Int) / 64) = ((a / 64 : Nat) : Int) := by omega
  rw [e, i64_xor_nat a (a / 64) (by omega) (by omega)]
  rw [Int.tmod_eq_emod_of_nonneg (by omega)]
  exact ⟨Int.emod_nonneg _ (by omega), Int.emod_lt_of_pos _ (by omega)⟩
theorem pick_low (b len cap k : Nat) (a : Option Addr) (n : Int) (w : World) (_h0 : w.cell? ⟨b, 0, none⟩ = some (.slice a len cap)) (h1 : w.cell? ⟨b, 1, none⟩ = some (.int .i64 (k : Int))) (hf : w.frozen? ⟨b, 1, none⟩ = false) (hk : (k : Int) ≤ 100000) (hn : n < 1) :
    Calls Try.prog 56 #[.pointer (some ⟨b, 0, none⟩), .int .i64 n] w fun e w' => e = .returned (.int .i64 0) ∧ w.setCell ⟨b, 1, none⟩ (.int .i64 ((k : Int) + 1)) = w' := by
  go_enter Try.func56, Try.ntmps56
  go_wp2
  go_ret
  exact ⟨rfl, rfl⟩
theorem pick_none (b cap k : Nat) (a : Option Addr) (n : Int) (w : World) (h0 : w.cell? ⟨b, 0, none⟩ = some (.slice a 0 cap)) (h1 : w.cell? ⟨b, 1, none⟩ = some (.int .i64 (k : Int))) (hf : w.frozen? ⟨b, 1, none⟩ = false) (hk : (k : Int) ≤ 100000) (hn : 1 ≤ n) :
    Calls Try.prog 56 #[.pointer (some ⟨b, 0, none⟩), .int .i64 n] w fun e w' => e = .returned (.int .i64 0) ∧ w.setCell ⟨b, 1, none⟩ (.int .i64 ((k : Int) + 1)) = w' := by
  have e1 : (⟨b, 1, none⟩ : Addr) ≠ ⟨b, 0, none⟩ := by simp
  have c0 := so (v := .int .i64 ((k : Int) + 1)) e1 h0
  go_enter Try.func56, Try.ntmps56
  go_wp2
  go_ret
  exact ⟨rfl, rfl⟩
theorem pick_byte (b len cap k ab off : Nat) (x n : Int) (w : World) (h0 : w.cell? ⟨b, 0, none⟩ = some (.slice (some ⟨ab, off, none⟩) len cap)) (h1 : w.cell? ⟨b, 1, none⟩ = some (.int .i64 (k : Int))) (hf : w.frozen? ⟨b, 1, none⟩ = false) (hl : len ≤ 2000) (hn : 1 ≤ n) (hlt : k < len)
    (hne : ab ≠ b) (hx : w.cell? ⟨ab, off + k, none⟩ = some (.int .u8 x)) (hx0 : 0 ≤ x) (hx1 : x < 256) :
    Calls Try.prog 56 #[.pointer (some ⟨b, 0, none⟩), .int .i64 n] w fun e w' => e = .returned (.int .i64 (x % n)) ∧ w.setCell ⟨b, 1, none⟩ (.int .i64 ((k : Int) + 1)) = w' := by
  have e1 : (⟨b, 1, none⟩ : Addr) ≠ ⟨b, 0, none⟩ := by simp
  have e2 : (⟨b, 1, none⟩ : Addr) ≠ ⟨ab, off + k, none⟩ := by intro h; injection h with h; exact hne h.symm
  have c0 := so (v := .int .i64 ((k : Int) + 1)) e1 h0
  have c2 := so (v := .int .i64 ((k : Int) + 1)) e2 hx
  have hl0 : ((len : Int) == 0) = false := by simp; omega
  clear e2
  go_enter Try.func56, Try.ntmps56
  go_wp2
  go_ret
  exact ⟨rfl, rfl⟩
theorem pick_mix (b len cap k ab off : Nat) (x y n : Int) (w : World) (h0 : w.cell? ⟨b, 0, none⟩ = some (.slice (some ⟨ab, off, none⟩) len cap)) (h1 : w.cell? ⟨b, 1, none⟩ = some (.int .i64 (k : Int))) (hf : w.frozen? ⟨b, 1, none⟩ = false) (hl : len ≤ 2000) (hl1 : 1 ≤ len) (hk : k ≤ 100000) (hn : 1 ≤ n) (hlt : ¬ k < len)
    (hne : ab ≠ b) (hx : w.cell? ⟨ab, off + k % len, none⟩ = some (.int .u8 x)) (hx0 : 0 ≤ x) (hx1 : x < 256) (hy : w.cell? ⟨ab, off + (k * 7 + 3) % len, none⟩ = some (.int .u8 y)) (hy0 : 0 ≤ y) (hy1 : y < 256) :
    Calls Try.prog 56 #[.pointer (some ⟨b, 0, none⟩), .int .i64 n] w fun e w' => (∃ v : Int, e = .returned (.int .i64 v) ∧ 0 ≤ v ∧ v < n) ∧ ∃ m, (w.setCell ⟨b, 1, none⟩ (.int .i64 ((k : Int) + 1))).drewN m = w' := by
  have e1 : (⟨b, 1, none⟩ : Addr) ≠ ⟨b, 0, none⟩ := by simp
  have e2 : (⟨b, 1, none⟩ : Addr) ≠ ⟨ab, off + k % len, none⟩ := by intro h; injection h with h; exact hne h.symm
  have e3 : (⟨b, 1, none⟩ : Addr) ≠ ⟨ab, off + (k * 7 + 3) % len, none⟩ := by intro h; injection h with h; exact hne h.symm
  have c0 := so (v := .int .i64 ((k : Int) + 1)) e1 h0
  have c2 := so (v := .int .i64 ((k : Int) + 1)) e2 hx
  have c3 := so (v := .int .i64 ((k : Int) + 1)) e3 hy
  have hl0 : ((len : Int) == 0) = false := by simp; omega
  have hk' : ¬ (k : Int) < (len : Int) := by omega
  have m1 : (k : Int) % (len : Int) < (len : Int) := Int.emod_lt_of_pos _ (by omega)
  have m2 : 0 ≤ (k : Int) % (len : Int) := Int.emod_nonneg _ (by omega)
  have m3 : ((k : Int) * 7 + 3) % (len : Int) < (len : Int) := Int.emod_lt_of_pos _ (by omega)
  have m4 : 0 ≤ ((k : Int) * 7 + 3) % (len : Int) := Int.emod_nonneg _ (by omega)
  have q1 : 0 ≤ (k : Int) / (len : Int) := Int.ediv_nonneg (by omega) (by omega)
  have q2 : (k : Int) / (len : Int) ≤ 100000 := Int.le_trans (Int.ediv_le_self _ (by omega)) (by omega)
  clear e2 e3
  go_enter Try.func56, Try.ntmps56
  go_wp2_with fail
  go_quiet (fail)
  go_wp2
  go_ret
  exact ⟨⟨_, rfl, mixv _ n (by omega) (by omega) hn⟩, _, rfl⟩

/-- what pick leaves -/
def Picked (w : World) (b : Nat) (P n : Int) (e : Ending) (w' : World) : Prop := ∃ v : Nat, e = .returned (.int .i64 (v : Int)) ∧ ((v : Int) < n ∨ v = 0) ∧ Rd w' b P ∧ w.grownBy w' (some b)
theorem picked {w : World} {b : Nat} {P n v : Int} {w' : World} (h0 : 0 ≤ v) (h1 : v < n ∨ v = 0) (h2 : Rd w' b P) (h3 : w.grownBy w' (some b)) : Picked w b P n (.returned (.int .i64 v)) w' :=
  ⟨v.toNat, by rw [Int.toNat_of_nonneg h0], by omega, h2, h3⟩

theorem rd_step {w : World} {b : Nat} {P : Int} {a : Option Addr} {len cap k : Nat} (m : Nat) (h0 : w.cell? ⟨b, 0, none⟩ = some (.slice a len cap)) (h1 : w.cell? ⟨b, 1, none⟩ = some (.int .i64 (k : Int))) (hk : (k : Int) ≤ P) (hf : w.frozen? ⟨b, 1, none⟩ = false) (hl : len ≤ 2000)
    (hr : len = 0 ∨ ∃ ab off, a = some ⟨ab, off, none⟩ ∧ ab < b ∧ ∀ i, i < len → ∃ x : Int, w.cell? ⟨ab, off + i, none⟩ = some (.int .u8 x) ∧ 0 ≤ x ∧ x < 256) :
    Rd ((w.setCell ⟨b, 1, none⟩ (.int .i64 ((k : Int) + 1))).drewN m) b (P + 1) ∧ w.grownBy ((w.setCell ⟨b, 1, none⟩ (.int .i64 ((k : Int) + 1))).drewN m) (some b) := by
  have hg : w.grownBy ((w.setCell ⟨b, 1, none⟩ (.int .i64 ((k : Int) + 1))).drewN m) (some b) := g_drewN (g_set (g_below (Below.refl _ _) _) (.inl rfl) _) m
  refine ⟨⟨a, len, cap, k + 1, ?_, ?_, by omega, ?_, hl, ?_⟩, hg⟩
  · show (w.setCell ⟨b, 1, none⟩ (.int .i64 ((k : Int) + 1))).cell? _ = _
    exact so (by simp) h0
  · show (w.setCell ⟨b, 1, none⟩ (.int .i64 ((k : Int) + 1))).cell? _ = _
    rw [World.cell?_setCell_same' _ _ _ (by rw [h1]; rfl)]; simp
  · show (w.setCell ⟨b, 1, none⟩ (.int .i64 ((k : Int) + 1))).frozen? _ = _
    simp [go_sem, hf]
  · rcases hr with hr | ⟨ab, off, ha, hlt, hx⟩
    · exact .inl hr
    · refine .inr ⟨ab, off, ha, hlt, fun i hi => ?_⟩
      obtain ⟨x, hc, h2⟩ := hx i hi
      refine ⟨x, ?_, h2⟩
      show (w.setCell ⟨b, 1, none⟩ (.int .i64 ((k : Int) + 1))).cell? _ = _
      exact so (by intro h; injection h with h; omega) hc
theorem pick_any (b : Nat) (P n : Int) (w : World) (h : Rd w b P) (hP : P ≤ 100000) :
    Calls Try.prog 56 #[.pointer (some ⟨b, 0, none⟩), .int .i64 n] w (Picked w b (P + 1) n) := by
  obtain ⟨a, len, cap, k, h0, h1, hk, hf, hl, hr⟩ := h
  by_cases hn : n < 1
  · refine (pick_low b len cap k a n w h0 h1 hf (by omega) hn).mono ?_
    rintro e w' ⟨rfl, rfl⟩
    exact picked (by omega) (.inr rfl) (rd_step 0 h0 h1 hk hf hl hr).1 (rd_step 0 h0 h1 hk hf hl hr).2
  · by_cases hz : len = 0
    · subst hz
      refine (pick_none b cap k a n w h0 h1 hf (by omega) (by omega)).mono ?_
      rintro e w' ⟨rfl, rfl⟩
      exact picked (by omega) (.inr rfl) (rd_step 0 h0 h1 hk hf hl hr).1 (rd_step 0 h0 h1 hk hf hl hr).2
    · have hr' := hr
      rcases hr' with hr' | ⟨ab, off, rfl, hlt, hx⟩
      · exact absurd hr' hz
      · by_cases hkl : k < len
        · obtain ⟨x, hc, x0, x1⟩ := hx k hkl
          refine (pick_byte b len cap k ab off x n w h0 h1 hf hl (by omega) hkl (by omega) hc x0 x1).mono ?_
          rintro e w' ⟨rfl, rfl⟩
          exact picked (Int.emod_nonneg _ (by omega)) (.inl (Int.emod_lt_of_pos _ (by omega))) (rd_step 0 h0 h1 hk hf hl hr).1 (rd_step 0 h0 h1 hk hf hl hr).2
        · obtain ⟨x, hc, x0, x1⟩ := hx (k % len) (Nat.mod_lt _ (by omega))
          obtain ⟨y, hd, y0, y1⟩ := hx ((k * 7 + 3) % len) (Nat.mod_lt _ (by omega))
          refine (pick_mix b len cap k ab off x y n w h0 h1 hf hl (by omega) (by omega) (by omega) hkl (by omega) hc x0 x1 hd y0 y1).mono ?_
          rintro e w' ⟨⟨v, rfl, v0, v1⟩, m, rfl⟩
          exact picked v0 (.inl v1) (rd_step m h0 h1 hk hf hl hr).1 (rd_step m h0 h1 hk hf hl hr).2

/-- what one of a list leaves -/
def Oned (w : World) (b : Nat) (P lo hi : Int) (e : Ending) (w' : World) : Prop := ∃ v : Int, e = .returned (.int .i64 v) ∧ lo ≤ v ∧ v ≤ hi ∧ Rd w' b P ∧ w.grownBy w' (some b)
theorem one_any (b g n cap : Nat) (P lo hi : Int) (w : World) (h : Rd w b P) (hP : P ≤ 100000) (hgb : g ≠ b) (hgs : g < w.heap.size) (hn : 1 ≤ n) (hn' : n ≤ 1000)
    (hc : ∀ i, i < n → ∃ z : Int, w.cell? ⟨g, i, none⟩ = some (.int .i64 z) ∧ lo ≤ z ∧ z ≤ hi) :
    Calls Try.prog 55 #[.pointer (some ⟨b, 0, none⟩), .slice (some ⟨g, 0, none⟩) n cap] w (Oned w b (P + 1) lo hi) := by
  go_enter Try.func55, Try.ntmps55
  go_wp2_with fail
  refine (pick_any b P n _ h hP).mono ?_
  rintro e w' ⟨v, rfl, hv, hR, hG⟩
  have hvn : v < n := by omega
  have hvi : (v : Int) < (n : Int) := by omega
  obtain ⟨z, hz, z0, z1⟩ := hc v hvn
  have hz' := (g_cell (o := v) hG hgs hgb).trans hz
  clear hz hc hv
  go_wp2
  go_ret
  exact ⟨z, rfl, z0, z1, hR, hG⟩

/-- newReader -/
def Made (w : World) (e : Ending) (w' : World) : Prop := e = .returned (.pointer (some ⟨w.heap.size, 0, none⟩)) ∧ Rd w' w.heap.size 0 ∧ Below w.heap.size w w' ∧ w.heap.size < w'.heap.size
theorem byte_bd {z : Int} (h : (Lit.int .u8 z).wf = true) : 0 ≤ z ∧ z < 256 := by
  have := bounds_u8 h
  omega
theorem rd_new (w : World) (a : Option Addr) (len cap : Nat) (t : TypeId) (hl : len ≤ 2000)
    (hr : len = 0 ∨ ∃ ab off, a = some ⟨ab, off, none⟩ ∧ ab < w.heap.size ∧ ∀ i, i < len → ∃ x : Int, w.cell? ⟨ab, off + i, none⟩ = some (.int .u8 x) ∧ 0 ≤ x ∧ x < 256) :
    Made w (.returned (.pointer (some ⟨w.heap.size, 0, none⟩))) (w.alloc (.cells #[.slice a len cap, .int .i64 0] t)) := by
  have hb : Below w.heap.size w (w.alloc (.cells #[.slice a len cap, .int .i64 0] t)) := (Below.refl _ _).alloc (Nat.le_refl _) _
  refine ⟨rfl, ⟨a, len, cap, 0, by simp [go_sem], by simp [go_sem], by simp, by simp [go_sem], hl, ?_⟩, hb, by simp⟩
  rcases hr with hr | ⟨ab, off, ha, hlt, hx⟩
  · exact .inl hr
  · refine .inr ⟨ab, off, ha, hlt, fun i hi => ?_⟩
    obtain ⟨x, hc, h2⟩ := hx i hi
    exact ⟨x, (hb.cell (p := ⟨ab, off + i, none⟩) hlt).trans hc, h2⟩
theorem row_bytes {w : World} {x : Addr} {len cap : Nat} {zs : List Int} (hl : len ≤ cap) (hz : zs.length = cap) (hcell : ∀ i, i < zs.length → w.cell? (x.add i) = some (.int .u8 (zs.getD i 0))) (hwz : ∀ n ∈ zs, (Lit.int .u8 n).wf = true) :
    len = 0 ∨ ∃ ab off, some x = some (⟨ab, off, none⟩ : Addr) ∧ ab < w.heap.size ∧ ∀ i, i < len → ∃ y : Int, w.cell? ⟨ab, off + i, none⟩ = some (.int .u8 y) ∧ 0 ≤ y ∧ y < 256 := by
  by_cases h0 : len = 0
  · exact .inl h0
  · obtain ⟨b, off, spot⟩ := x
    have hc := hcell 0 (by omega)
    have hspot : spot = none := by simpa [Addr.add] using World.cell?_spot hc
    subst hspot
    have hlt : b < w.heap.size := World.block_lt_of_cell? w _ hc
    refine .inr ⟨b, off, rfl, hlt, fun i hi => ?_⟩
    have hci := hcell i (by omega)
    have hci' : w.cell? ⟨b, off + i, none⟩ = some (.int .u8 (zs.getD i 0)) := by
      by_cases hi0 : i = 0
      · subst hi0; simpa [Addr.add] using hci
      · simpa [Addr.add, hi0] using hci
    exact ⟨zs.getD i 0, hci', byte_bd (hwz _ (by rw [List.getD_eq_getElem?_getD, List.getElem?_eq_getElem (by omega)]; simp))⟩
theorem newReader_any (a : Option Addr) (len cap : Nat) (zs : List Int) (w : World) (h : IsRow .u8 w a len cap zs) :
    Calls Try.prog 47 #[.slice a len cap] w (Made w) := by
  rcases h with ⟨rfl, rfl, rfl, rfl⟩ | ⟨x, rfl, hl, hm, hz, hcell, hwz⟩
  · go_enter Try.func47, Try.ntmps47
    go_wp2
    go_ret
    exact rd_new w none 0 0 _ (by omega) (.inl rfl)
  · have hr := row_bytes hl hz hcell hwz
    clear hcell hwz
    unfold maxLen at hm
    by_cases h2 : (2000 : Int) < (len : Int)
    · have hr2 : 2000 = 0 ∨ ∃ ab off, some x = some (⟨ab, off, none⟩ : Addr) ∧ ab < w.heap.size ∧ ∀ i, i < 2000 → ∃ y : Int, w.cell? ⟨ab, off + i, none⟩ = some (.int .u8 y) ∧ 0 ≤ y ∧ y < 256 := by
        rcases hr with hr | ⟨ab, off, ha, hb, hx⟩
        · omega
        · exact .inr ⟨ab, off, ha, hb, fun i hi => hx i (by omega)⟩
      have HR := Lib.hid hr2
      clear hr hr2
      go_enter Try.func47, Try.ntmps47
      go_wp2
      go_ret
      exact rd_new w (some x) 2000 cap _ (by omega) HR.out
    · have HR := Lib.hid hr
      clear hr
      go_enter Try.func47, Try.ntmps47
      go_wp2
      go_ret
      exact rd_new w (some x) len cap _ (by omega) HR.out

/-- a block of two cells that may be written -/
def Cell2 (w : World) (g : Nat) (x y : Value) : Prop := w.cell? ⟨g, 0, none⟩ = some x ∧ w.cell? ⟨g, 1, none⟩ = some y ∧ w.frozen? ⟨g, 0, none⟩ = false ∧ w.frozen? ⟨g, 1, none⟩ = false ∧ g < w.heap.size
theorem c2_new (w : World) (x y : Value) (t : TypeId) : Cell2 (w.alloc (.cells #[x, y] t)) w.heap.size x y := by
  refine ⟨?_, ?_, ?_, ?_, ?_⟩ <;> simp [go_sem]
theorem c2_below {w w' : World} {g : Nat} {x y : Value} (h : Cell2 w g x y) (hB : Below w.heap.size w w') : Cell2 w' g x y := by
  obtain ⟨h0, h1, h2, h3, h4⟩ := h
  exact ⟨(hB.cell (p := ⟨g, 0, none⟩) h4).trans h0, (hB.cell (p := ⟨g, 1, none⟩) h4).trans h1, (hB.frozen (p := ⟨g, 0, none⟩) h4).trans h2, (hB.frozen (p := ⟨g, 1, none⟩) h4).trans h3, Nat.lt_of_lt_of_le h4 hB.size⟩
theorem c2_alloc {w : World} {g : Nat} {x y : Value} (h : Cell2 w g x y) (o : Obj) : Cell2 (w.alloc o) g x y := c2_below h ((Below.refl _ _).alloc (Nat.le_refl _) _)
theorem c2_grown {w w' : World} {g b : Nat} {x y : Value} (h : Cell2 w g x y) (hG : w.grownBy w' (some b)) (hne : g ≠ b) : Cell2 w' g x y := by
  obtain ⟨h0, h1, h2, h3, h4⟩ := h
  exact ⟨(g_cell hG h4 hne).trans h0, (g_cell hG h4 hne).trans h1, (g_frozen hG h4 hne).trans h2, (g_frozen hG h4 hne).trans h3, Nat.lt_of_lt_of_le h4 hG.size⟩
theorem rd_below {w w' : World} {b B : Nat} {P : Int} (h : Rd w b P) (hb : b < B) (hB : Below B w w') : Rd w' b P := by
  obtain ⟨a, len, cap, k, h0, h1, hk, hf, hl, hr⟩ := h
  refine ⟨a, len, cap, k, (hB.cell (p := ⟨b, 0, none⟩) hb).trans h0, (hB.cell (p := ⟨b, 1, none⟩) hb).trans h1, hk, (hB.frozen (p := ⟨b, 1, none⟩) hb).trans hf, hl, ?_⟩
  rcases hr with hr | ⟨ab, off, ha, hlt, hx⟩
  · exact .inl hr
  · refine .inr ⟨ab, off, ha, hlt, fun i hi => ?_⟩
    obtain ⟨x, hc, h2⟩ := hx i hi
    exact ⟨x, (hB.cell (p := ⟨ab, off + i, none⟩) (Nat.lt_trans hlt hb)).trans hc, h2⟩
theorem rd_end {w w4 wf : World} {b : Nat} {P P' : Int} (hb : b < w.heap.size) (hR : Rd w4 b P') (hP : P' = P) (hG : w.grownBy w4 (some b)) (hB : Below w.heap.size w4 wf) : Rd wf b P ∧ w.grownBy wf (some b) :=
  ⟨hP ▸ rd_below hR hb hB, ⟨hB.os.trans hG.os, hB.tape.trans hG.tape, hB.output.trans hG.output, Nat.le_trans hG.size hB.size, fun i hi hne => (hB.block i hi).trans (hG.block i hi hne)⟩⟩
theorem rd_up {w : World} {b : Nat} {P P' : Int} (h : Rd w b P) (hP : P ≤ P') : Rd w b P' := by
  obtain ⟨a, len, cap, k, h0, h1, hk, hr⟩ := h
  exact ⟨a, len, cap, k, h0, h1, by omega, hr⟩
theorem rd_alloc {w : World} {b : Nat} {P : Int} (h : Rd w b P) (hb : b < w.heap.size) (o : Obj) : Rd (w.alloc o) b P := rd_below h hb ((Below.refl _ _).alloc (Nat.le_refl _) _)
theorem g_new {w w' : World} {b : Nat} {o : Obj} (h : (w.alloc o).grownBy w' (some b)) : w.grownBy w' (some b) := g_trans (World.grownBy_alloc w o _) h
theorem lit_cells (w : World) (zs : List Int) (t : TypeId) (lo hi : Int) (hz : ∀ z ∈ zs, lo ≤ z ∧ z ≤ hi) :
    ∀ i, i < zs.length → ∃ z : Int, (w.alloc (.cells (zs.map (Value.int .i64)).toArray t)).cell? ⟨w.heap.size, i, none⟩ = some (.int .i64 z) ∧ lo ≤ z ∧ z ≤ hi := by
  intro i hi'
  refine ⟨zs[i], ?_, hz _ (List.getElem_mem hi')⟩
  simp [World.cell?_alloc_new, hi']
/-- one of a list that has just been made -/
theorem one_lit (b n : Nat) (P lo hi : Int) (zs : List Int) (t : TypeId) (w : World) (h : Rd w b P) (hP : P ≤ 100000) (hb : b < w.heap.size) (hl : zs.length = n) (hn : 1 ≤ n) (hn' : n ≤ 1000) (hz : ∀ z ∈ zs, lo ≤ z ∧ z ≤ hi) :
    Calls Try.prog 55 #[.pointer (some ⟨b, 0, none⟩), .slice (some ⟨w.heap.size, 0, none⟩) n n] (w.alloc (.cells (zs.map (Value.int .i64)).toArray t)) (Oned w b (P + 1) lo hi) := by
  refine (one_any b w.heap.size n n P lo hi _ (rd_alloc h hb _) hP (by omega) (by simp) hn hn' (by rw [← hl]; exact lit_cells w zs t lo hi hz)).mono ?_
  rintro e w' ⟨v, rfl, v0, v1, hR, hG⟩
  exact ⟨v, rfl, v0, v1, hR, g_new hG⟩
theorem row_below {k : IntKind} {w w' : World} {a : Option Addr} {len cap : Nat} {zs : List Int} (h : IsRow k w a len cap zs) (hB : Below w.heap.size w w') : IsRow k w' a len cap zs := by
  rcases h with h | ⟨x, ha, hl, hm, hz, hcell, hwz⟩
  · exact .inl h
  · refine .inr ⟨x, ha, hl, hm, hz, fun i hi => ?_, hwz⟩
    have hc := hcell i hi
    exact (hB.cell (World.block_lt_of_cell? w _ hc)).trans hc
theorem below_grown {w w1 w2 : World} {b : Nat} (h : Below w.heap.size w w1) (hG : w1.grownBy w2 (some b)) (hb : w.heap.size ≤ b) : Below w.heap.size w w2 :=
  ⟨hG.os.trans h.os, hG.tape.trans h.tape, hG.output.trans h.output, Nat.le_trans h.size hG.size, fun i hi => (hG.block i (Nat.lt_of_lt_of_le hi h.size) (fun e => by injection e with e; omega)).trans (h.block i hi)⟩
end Go.Proofs.Ythagafkjlecagab
