/- Marks on a list of lists of the call's own. Conditions: those stated. -/
import Derived.Test.YtclpbbhhaclgbaaRowSS
import Derived.Test.YtclpbbhhaclgbaaReadz
import Derived.Test.YtclpbbhhaclgbaaRead
namespace Go.Proofs.Ytclpbbhhaclgbaa
open Go.RowKit
set_option linter.unusedSimpArgs false
set_option linter.unusedVariables false
def sumLn : List (List Int) → Int
  | [] => 0
  | r :: t => (r.length : Int) + sumLn t
theorem sumLn_pos : ∀ rs, 0 ≤ sumLn rs := by
  intro rs
  induction rs with
  | nil => exact Int.le_refl _
  | cons r t ih => show 0 ≤ (r.length : Int) + sumLn t; omega
theorem sumLn_at {rs : List (List Int)} {k : Nat} (hk : k < rs.length) : sumLn (rs.drop k) = ((rs.getD k []).length : Int) + sumLn (rs.drop (k + 1)) := by
  rw [List.drop_eq_getElem_cons hk, List.getD_eq_getElem?_getD, List.getElem?_eq_getElem hk]; rfl
theorem szL_sum : ∀ (rs : List (List Int)) (left : Int), ¬ szL left rs < 0 → 0 ≤ left → sumLn rs ≤ left := by
  intro rs
  induction rs with
  | nil => intro left _ h; exact h
  | cons x t ih =>
    intro left h h0
    have e : szL left (x :: t) = if left - (x.length : Int) < 0 then -1 else szL (left - (x.length : Int)) t := rfl
    rw [e] at h
    show (x.length : Int) + sumLn t ≤ left
    by_cases c : left - (x.length : Int) < 0
    · rw [if_pos c] at h; omega
    · rw [if_neg c] at h
      have := ih _ h (by omega); omega
theorem szSS_sum {left : Int} {rs : List (List Int)} (h : ¬ szSS left rs < 0) : sumLn rs ≤ left := by
  unfold szSS at h
  by_cases c : left - (rs.length : Int) < 0
  · rw [if_pos c] at h; omega
  · rw [if_neg c] at h
    have := szL_sum rs _ h (by omega); omega
theorem RowSS.next {w w' : World} {g : Nat} {G : Nat → Nat} {rs : List (List Int)} (h : RowSS w g G rs.length rs) (hg : g < w.heap.size) (hb : Below w.heap.size w w') : RowSS w' g G rs.length rs :=
  ⟨World.rowIs.of_block h.1 (hb.block g hg), fun j hj => ⟨(h.2.1 j hj).1, row_keep (h.2.1 j hj).2 hb⟩, h.2.2⟩
/-- what marks on lists in the blocks lo to hi leave -/
def MarkedSS (lo hi : Nat) (w : World) (e : Ending) (w' : World) : Prop := ∃ s : Int, e = .returned (.int .i64 s) ∧ 0 ≤ s ∧ (∀ base v zs, OwnI w base v zs → (∀ q, v.ownBlock = some q → hi ≤ q) → OwnI w' base v zs) ∧ ∀ W0 : World, W0.heap.size ≤ lo → Below W0.heap.size W0 w → Below W0.heap.size W0 w'
set_option maxHeartbeats 4000000 in
theorem lmarkSS (g cap lo hi : Nat) (G : Nat → Nat) (rs : List (List Int)) (w : World) (h : RowSS w g G rs.length rs) (hn : rs.length ≤ 1048576) (hr : ∀ r ∈ rs, r.length ≤ 1048576) (hs : sumLn rs ≤ 1048576) (hb : ∀ j, j < rs.length → lo ≤ G j ∧ G j < hi) :
    Calls Try.prog 19 #[.slice (some ⟨g, 0, none⟩) rs.length cap, .int .i64 1] w (MarkedSS lo hi w) := by
  have HH := Lib.hid h
  have HR := Lib.hid hr
  have HBB := Lib.hid hb
  have HS := Lib.hid hs
  clear h hr hb hs
  go_enter Try.func19, Try.ntmps19
  go_wp2_with fail
  go_loopw [1, 5] (fun s i wr => ∃ (k : Nat) (s0 : Int), k ≤ rs.length ∧ i = .int .i64 k ∧ s = .int .i64 s0 ∧ 0 ≤ s0 ∧ Hid (s0 + sumLn (rs.drop k) = 1 + sumLn rs ∧ (∀ j, j < rs.length → wr.cell? ⟨g, j, none⟩ = some (.slice (some ⟨G j, 0, none⟩) (rs.getD j []).length (rs.getD j []).length)) ∧ (∀ j, k ≤ j → j < rs.length → Row wr (G j) (rs.getD j [])) ∧ (∀ base v zs, OwnI w base v zs → (∀ q, v.ownBlock = some q → hi ≤ q) → OwnI wr base v zs) ∧ ∀ W0 : World, W0.heap.size ≤ lo → Below W0.heap.size W0 w → Below W0.heap.size W0 wr)) (fun _ i _ => rs.length - (intOf i).toNat)
  case atStart => exact ⟨0, 1, Nat.zero_le _, rfl, rfl, by omega, rfl, fun j hj => by have := HH.out.1.cell hj; rw [if_pos hj] at this; exact this, fun j _ hj => (HH.out.2.1 j hj).2, fun _ _ _ a _ => a, fun _ _ a => a⟩
  case round =>
    obtain ⟨k, s0, hk, rfl, rfl, hs0, HI⟩ := hrel
    by_cases hlt : k < rs.length
    · have c1 := HI.out.2.1 k hlt
      have hrow := HI.out.2.2.1 k (Nat.le_refl _) hlt
      have hl := HR.out _ (rows_mem hlt)
      have hsum := HI.out.1
      rw [sumLn_at hlt] at hsum
      have p0 := sumLn_pos (rs.drop (k + 1))
      have p1 := HS.out
      have hs1 : s0 ≤ 1000000000000 := by omega
      have CM := lmarkS (G k) (rs.getD k []).length (rs.getD k []) wr s0 hrow hl hs0 hs1
      have HSM := Lib.hid hsum
      have HCM := Lib.hid CM
      obtain ⟨len, hlen⟩ : ∃ len, (rs.getD k []).length = len := ⟨_, rfl⟩
      rw [hlen] at c1 HCM HSM
      clear hrow hl hsum p0 p1 CM hlen
      have hk0 : (0 : Int) ≤ (k : Int) := by omega
      have hk1 : (k : Int) < (rs.length : Int) := by omega
      go_wp2_with fail
      refine HCM.out.mono ?_
      rintro e w1 ⟨rfl, hG⟩
      have HN : Hid (s0 + (len : Int) + sumLn (rs.drop (k + 1)) = 1 + sumLn rs ∧ (∀ j, j < rs.length → w1.cell? ⟨g, j, none⟩ = some (.slice (some ⟨G j, 0, none⟩) (rs.getD j []).length (rs.getD j []).length)) ∧ (∀ j, k + 1 ≤ j → j < rs.length → Row w1 (G j) (rs.getD j [])) ∧ (∀ base v zs, OwnI w base v zs → (∀ q, v.ownBlock = some q → hi ≤ q) → OwnI w1 base v zs) ∧ ∀ W0 : World, W0.heap.size ≤ lo → Below W0.heap.size W0 w → Below W0.heap.size W0 w1) := by
        refine ⟨by have := HSM.out; omega, fun j hj => ?_, fun j h1 h2 => row_apart (HI.out.2.2.1 j (by omega) h2) hG (by have := HH.out.2.2 k j (by omega) h2; omega), fun base v zs O hq => (HI.out.2.2.2.1 base v zs O hq).grown hG (fun e => by have := hq _ e; have := (HBB.out k hlt).2; omega), fun W0 h0 hB => below_g (HI.out.2.2.2.2 W0 h0 hB) hG (by have := (HBB.out k hlt).1; omega)⟩
        rw [← HI.out.2.1 j hj]
        refine g_cell hG (World.block_lt_of_cell? wr _ (HI.out.2.1 j hj)) ?_
        have := (HH.out.2.1 k hlt).1
        omega
      clear hG HCM
      go_wp2_with fail
      go_roundw
      case rel => exact ⟨k + 1, s0 + (len : Int), by omega, by go_num, rfl, by omega, HN⟩
      case measure => simp [intOf]; omega
    · go_wp2_with fail
      go_ret
      exact ⟨s0, rfl, hs0, HI.out.2.2.2.1, HI.out.2.2.2.2⟩
end Go.Proofs.Ytclpbbhhaclgbaa
