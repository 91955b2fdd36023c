/- SplitByRest, spec's. Condition: at most 1048576 numbers. -/
import Derived.Test.YtigapnbpgbfbhabRest
import Derived.Deep.AppendLies
namespace Go.Proofs.Ytigapnbpgbfbhab
open Go.RowKit

theorem infoBool : (Try.prog.info? 4).map (fun i => (i.zero, i.size, i.bytes)) = some (some (.bool false), 1, 1) := by kernel_rfl
theorem below_ns {w w' : World} (h : Below w.heap.size w w') (row : Option Nat) : w.grownBy w' row := g_below h row
/-- a row of marks: true where the number is less than 0 -/
def Given (w : World) (g : Nat) (D : List Int) (m : Nat) : Prop := w.rowIs g 4 m (fun i => .bool (decide (D.getD i 0 < 0)))
theorem given_keep {w w' : World} {g m : Nat} {D : List Int} (h : Given w g D m) (hB : Below w.heap.size w w') : Given w' g D m := World.rowIs.of_block h (hB.block g (World.rowIs.lt h))
theorem given_skip {w : World} {g g' m : Nat} {D : List Int} (h : Given w g D m) (k : Nat) (v : Value) (hne : g' ≠ g) : Given (w.setCell ⟨g', k, none⟩ v) g D m :=
  World.rowIs.of_block h (Below.heap_setCell w ⟨g', k, none⟩ v g (fun e => by first | exact hne e | exact hne e.symm))
theorem given_set {w : World} {g m : Nat} {D : List Int} (h : Given w g D m) (k : Nat) (hk : k < D.length) : Given (w.setCell ⟨g, k, none⟩ (.bool true)) g (D.set k (-1)) m :=
  (World.rowIs.set h k (.bool true)).congr (fun j hj => by
    show (if j = k then Value.bool true else .bool (decide (D.getD j 0 < 0))) = _
    rw [getD_set _ _ _ hk]; split <;> rfl)
/-- what a division leaves, read -/
def DivS (m : Nat) (R : List Int) (w : World) (e : Ending) (w' : World) : Prop := ∃ (b : Option Addr) (cap : Nat), e = .returned (.slice b m cap) ∧ IsInts w' b R ∧ Below w.heap.size w w'
theorem stotalN (m : Nat) (a : Option Addr) (cap : Nat) (zs : List Int) (w : World) (hl : zs.length = m) (h : IsInts w a zs) (hn : m ≤ 1048576) (hz : ∀ z ∈ zs, -1000000 ≤ z ∧ z ≤ 1000000) :
    Calls Try.prog 68 #[.slice a m cap] w fun e w' => e = .returned (.int .i64 zs.sum) ∧ w = w' := by
  subst hl; exact stotal a cap zs w h hn hz
theorem q_all {n : Int} {ws : List Int} (hcs : csB n ws = true) : ∀ z ∈ qs n ws, -1000000 ≤ z ∧ z ≤ 1000000 := fun z hz => by
  obtain ⟨i, hi, rfl⟩ := List.getElem_of_mem hz
  have hql := qs_len n ws
  have := q_le hcs (i := i) (by omega)
  rw [List.getD_eq_getElem?_getD, List.getElem?_eq_getElem hi] at this
  simp at this; omega
theorem own_isints {w : World} {base g n cap : Nat} {zs : List Int} (h : w.ownsRow base 3 1 (.slice (some ⟨g, 0, none⟩) n cap) n (zs.map (Value.int .i64))) (hl : zs.length = n) : IsInts w (some ⟨g, 0, none⟩) zs := by
  subst hl
  obtain ⟨b, c, hv, hi⟩ := own_ints h
  injection hv with h1 h2 h3
  rw [h1]; exact hi
def okD (D : List Int) (i : Nat) : Bool := decide (0 ≤ D.getD i 0)
theorem pickD_is (D : List Int) (hm : ∀ i, i < D.length → -1 ≤ D.getD i 0) {m : Nat} (hl : D.length = m) : ∀ k, k ≤ m → (pickS (okD D) (moreB D) k = -1 ∧ pickB (moreB D) k = 0 ∧ ∀ j, j < k → okD D j = false) ∨ (pickS (okD D) (moreB D) k = (pickB (moreB D) k : Nat) ∧ okD D (pickB (moreB D) k) = true ∧ pickB (moreB D) k < k) := by
  subst hl
  refine pickS_is (okD D) (moreB D) D.length (fun i b hi hb h1 h2 => ?_) (fun i b hi hb h1 => ?_)
  · unfold okD at h1 h2; unfold moreB
    simp at h1 h2 ⊢; omega
  · have a := hm i hi
    have b := hm b hb
    unfold okD at h1; unfold moreB
    simp only [decide_eq_false_iff_not] at h1 ⊢; omega
theorem pickS_skip (D : List Int) (k : Nat) (h : D.getD k 0 < 0) : pickS (okD D) (moreB D) (k + 1) = pickS (okD D) (moreB D) k := by
  show (if okD D k && _ then (k : Int) else pickS (okD D) (moreB D) k) = _
  have : okD D k = false := by unfold okD; exact decide_eq_false (by omega)
  rw [this]; simp
theorem pickS_first (D : List Int) (k : Nat) (h : ¬ D.getD k 0 < 0) (h1 : pickS (okD D) (moreB D) k = -1) : pickS (okD D) (moreB D) (k + 1) = k := by
  show (if okD D k && (decide (pickS (okD D) (moreB D) k < 0) || _) then (k : Int) else pickS (okD D) (moreB D) k) = _
  have : okD D k = true := by unfold okD; exact decide_eq_true (by omega)
  rw [this, h1]; simp
theorem pickS_next (D : List Int) (k b : Nat) (h : ¬ D.getD k 0 < 0) (h1 : pickS (okD D) (moreB D) k = (b : Int)) : pickS (okD D) (moreB D) (k + 1) = if D.getD b 0 < D.getD k 0 then (k : Int) else b := by
  show (if okD D k && (decide (pickS (okD D) (moreB D) k < 0) || moreB D k (pickS (okD D) (moreB D) k).toNat) then (k : Int) else pickS (okD D) (moreB D) k) = _
  have : okD D k = true := by unfold okD; exact decide_eq_true (by omega)
  rw [this, h1]
  have e : decide ((b : Int) < 0) = false := by simp
  rw [e, Int.toNat_natCast]
  unfold moreB
  simp

end Go.Proofs.Ytigapnbpgbfbhab
