/- What a region that draws its order keeps of two boxed fractions, over new blocks, calls that make memory and stores into what is new. No condition but those stated. -/
import Derived.Test.YtihogilepflegaaMake
namespace Go.Proofs.Ytihogilepflegaa
open Go.RowKit

theorem keepS {w v W wq : World} {n0 d0 n1 d1 : Int} (hb : Below W.heap.size W wq) (hS : W.cell? ⟨w.heap.size, 0, none⟩ = some (.int .i64 n0) ∧ W.cell? ⟨w.heap.size, 1, none⟩ = some (.int .i64 d0) ∧ W.cell? ⟨w.heap.size + 1, 0, none⟩ = some (.int .i64 n1) ∧ W.cell? ⟨w.heap.size + 1, 1, none⟩ = some (.int .i64 d1) ∧ w.heap.size + 1 < W.heap.size ∧ Below w.heap.size w W ∧ Below v.heap.size v W) : wq.cell? ⟨w.heap.size, 0, none⟩ = some (.int .i64 n0) ∧ wq.cell? ⟨w.heap.size, 1, none⟩ = some (.int .i64 d0) ∧ wq.cell? ⟨w.heap.size + 1, 0, none⟩ = some (.int .i64 n1) ∧ wq.cell? ⟨w.heap.size + 1, 1, none⟩ = some (.int .i64 d1) ∧ w.heap.size + 1 < wq.heap.size ∧ Below w.heap.size w wq ∧ Below v.heap.size v wq := by
  obtain ⟨s0, s1, s2, s3, s4, s5, s6⟩ := hS
  obtain ⟨hc, hf⟩ := bcell hb
  exact ⟨(hc _ _ (by omega)).trans s0, (hc _ _ (by omega)).trans s1, (hc _ _ (by omega)).trans s2, (hc _ _ (by omega)).trans s3, Nat.lt_of_lt_of_le s4 hb.size, bel_tr s5 hb, bel_tr s6 hb⟩
theorem keepT {w v W wq : World} {n0 d0 n1 d1 : Int} (hS : W.cell? ⟨w.heap.size, 0, none⟩ = some (.int .i64 n0) ∧ W.cell? ⟨w.heap.size, 1, none⟩ = some (.int .i64 d0) ∧ W.cell? ⟨w.heap.size + 1, 0, none⟩ = some (.int .i64 n1) ∧ W.cell? ⟨w.heap.size + 1, 1, none⟩ = some (.int .i64 d1) ∧ w.heap.size + 1 < W.heap.size ∧ Below w.heap.size w W ∧ Below v.heap.size v W) (hb : Below W.heap.size W wq) : wq.cell? ⟨w.heap.size, 0, none⟩ = some (.int .i64 n0) ∧ wq.cell? ⟨w.heap.size, 1, none⟩ = some (.int .i64 d0) ∧ wq.cell? ⟨w.heap.size + 1, 0, none⟩ = some (.int .i64 n1) ∧ wq.cell? ⟨w.heap.size + 1, 1, none⟩ = some (.int .i64 d1) ∧ w.heap.size + 1 < wq.heap.size ∧ Below w.heap.size w wq ∧ Below v.heap.size v wq := keepS hb hS
theorem keepR {w v W : World} {o o' : Obj} {n0 d0 n1 d1 : Int} (hS : (W.alloc o).cell? ⟨w.heap.size, 0, none⟩ = some (.int .i64 n0) ∧ (W.alloc o).cell? ⟨w.heap.size, 1, none⟩ = some (.int .i64 d0) ∧ (W.alloc o).cell? ⟨w.heap.size + 1, 0, none⟩ = some (.int .i64 n1) ∧ (W.alloc o).cell? ⟨w.heap.size + 1, 1, none⟩ = some (.int .i64 d1) ∧ w.heap.size + 1 < (W.alloc o).heap.size ∧ Below w.heap.size w (W.alloc o) ∧ Below v.heap.size v (W.alloc o)) (hsz : w.heap.size + 1 < W.heap.size) (hB : Below w.heap.size w W) (hV : Below v.heap.size v W) : (W.alloc o').cell? ⟨w.heap.size, 0, none⟩ = some (.int .i64 n0) ∧ (W.alloc o').cell? ⟨w.heap.size, 1, none⟩ = some (.int .i64 d0) ∧ (W.alloc o').cell? ⟨w.heap.size + 1, 0, none⟩ = some (.int .i64 n1) ∧ (W.alloc o').cell? ⟨w.heap.size + 1, 1, none⟩ = some (.int .i64 d1) ∧ w.heap.size + 1 < (W.alloc o').heap.size ∧ Below w.heap.size w (W.alloc o') ∧ Below v.heap.size v (W.alloc o') := by
  obtain ⟨s0, s1, s2, s3, s4, s5, s6⟩ := hS
  have h1 : Below W.heap.size W (W.alloc o) := (Below.refl _ _).alloc (Nat.le_refl _) _
  obtain ⟨hc, hf⟩ := bcell h1
  exact keepS ((Below.refl _ _).alloc (Nat.le_refl _) _) ⟨(hc _ _ (by omega)).symm.trans s0, (hc _ _ (by omega)).symm.trans s1, (hc _ _ (by omega)).symm.trans s2, (hc _ _ (by omega)).symm.trans s3, hsz, hB, hV⟩
theorem keepW {w v W : World} {p q : Addr} {x y : Value} {n0 d0 n1 d1 : Int} (hS : W.cell? ⟨w.heap.size, 0, none⟩ = some (.int .i64 n0) ∧ W.cell? ⟨w.heap.size, 1, none⟩ = some (.int .i64 d0) ∧ W.cell? ⟨w.heap.size + 1, 0, none⟩ = some (.int .i64 n1) ∧ W.cell? ⟨w.heap.size + 1, 1, none⟩ = some (.int .i64 d1) ∧ w.heap.size + 1 < W.heap.size ∧ Below w.heap.size w W ∧ Below v.heap.size v W) (hp : w.heap.size + 2 ≤ p.block) (hq : w.heap.size + 2 ≤ q.block) (hp' : v.heap.size ≤ p.block) (hq' : v.heap.size ≤ q.block) : ((W.setCell p x).setCell q y).cell? ⟨w.heap.size, 0, none⟩ = some (.int .i64 n0) ∧ ((W.setCell p x).setCell q y).cell? ⟨w.heap.size, 1, none⟩ = some (.int .i64 d0) ∧ ((W.setCell p x).setCell q y).cell? ⟨w.heap.size + 1, 0, none⟩ = some (.int .i64 n1) ∧ ((W.setCell p x).setCell q y).cell? ⟨w.heap.size + 1, 1, none⟩ = some (.int .i64 d1) ∧ w.heap.size + 1 < ((W.setCell p x).setCell q y).heap.size ∧ Below w.heap.size w ((W.setCell p x).setCell q y) ∧ Below v.heap.size v ((W.setCell p x).setCell q y) := by
  obtain ⟨s0, s1, s2, s3, s4, s5, s6⟩ := hS
  have hb : Below (w.heap.size + 2) W ((W.setCell p x).setCell q y) := ((Below.refl _ _).setCell hp _).setCell hq _
  exact ⟨(hb.cell (p := ⟨_, _, none⟩) (by simp)).trans s0, (hb.cell (p := ⟨_, _, none⟩) (by simp)).trans s1, (hb.cell (p := ⟨_, _, none⟩) (by simp)).trans s2, (hb.cell (p := ⟨_, _, none⟩) (by simp)).trans s3, by simpa using s4, (s5.setCell (by omega) _).setCell (by omega) _, (s6.setCell hp' _).setCell hq' _⟩
theorem stored {A C : World} {b : Nat} {z0 z1 x y : Value} {t : TypeId} (hb : Below (A.alloc (.cells #[z0, z1] t)).heap.size (A.alloc (.cells #[z0, z1] t)) C) (hk : b = A.heap.size) :
    ((C.setCell ⟨b, 0, none⟩ x).setCell ⟨b, 1, none⟩ y).cell? ⟨b, 0, none⟩ = some x ∧ ((C.setCell ⟨b, 0, none⟩ x).setCell ⟨b, 1, none⟩ y).cell? ⟨b, 1, none⟩ = some y ∧ b < ((C.setCell ⟨b, 0, none⟩ x).setCell ⟨b, 1, none⟩ y).heap.size := by
  subst hk
  obtain ⟨hc, hf⟩ := bcell hb
  have c0 := hc A.heap.size 0 (by simp)
  have c1 := hc A.heap.size 1 (by simp)
  have hz := hb.size
  simp [go_sem] at c0 c1 hz
  refine ⟨?_, ?_, by simp; omega⟩
  · simp [go_sem, c0]
  · simp [go_sem, c1]
end Go.Proofs.Ytihogilepflegaa
