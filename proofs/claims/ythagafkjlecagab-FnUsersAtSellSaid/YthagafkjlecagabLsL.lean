/- The laws' own functions on leases. Condition: at most 1048576 of them. -/
import Derived.Test.YthagafkjlecagabLzw
import Derived.Test.YthagafkjlecagabRowT
import Derived.Test.YthagafkjlecagabGrB
import Derived.Test.YthagafkjlecagabLawH
import Derived.Test.YthagafkjlecagabRowSS
import Derived.Deep.RegionHeld3
import Derived.Deep.RegionWith
import Derived.Deep.QuietTactic
import Derived.BigQuiet
import Derived.RegionTactic
namespace Go.Proofs.Ythagafkjlecagab
open Go.RowKit
set_option linter.unusedSimpArgs false
set_option linter.unusedVariables false

/-- laws.szLeaseS -/
theorem lszLs (A : Option Addr) (n cap : Nat) (L : Int) (w : World) (h0 : 0 ≤ L) (h1 : L ≤ 1048576) (hn : n ≤ 9223372036854775807) :
    Calls Try.prog 10 #[.slice A n cap, .int .i64 L] w fun e w' => e = .returned (.int .i64 (if L - (n : Int) < 0 then -1 else L - (n : Int))) ∧ w = w' := by
  have wz : IntKind.i64.wrap (L - (n : Int)) = L - (n : Int) := by rw [IntKind.wrap_i64]; omega
  by_cases c : L - (n : Int) < 0
  · have e0 : decide (L - (n : Int) < 0) = true := decide_eq_true c
    rw [if_pos c]
    clear c
    go_enter Try.func10, Try.ntmps10
    go_wp2_with fail
    go_ret
    exact ⟨rfl, rfl⟩
  · have e0 : decide (L - (n : Int) < 0) = false := decide_eq_false c
    rw [if_neg c]
    clear c
    go_enter Try.func10, Try.ntmps10
    go_wp2_with fail
    go_ret
    exact ⟨rfl, rfl⟩
set_option maxRecDepth 100000 in
set_option maxHeartbeats 6000000 in
/-- laws.toLease -/
theorem ltoLr (x : Lr) (w : World) :
    Calls Try.prog 41 #[.agg #[.int .i64 x.ow, .int .i64 x.te, .int .i64 x.n, .int .i64 x.d, .int .i64 x.fr, .int .i64 x.en]] w fun e w' => e = .returned (.agg #[.int .i64 x.ow, .int .i64 x.te, .int .i64 x.n, .int .i64 x.d, .int .i64 x.fr, .int .i64 x.en]) ∧ Below w.heap.size w w' := by
  obtain ⟨ow, te, n, d, fr, en⟩ := x
  dsimp only
  go_enter Try.func41, Try.ntmps41
  have KA := ((Blk.new w 71 #[.int .i64 ow, .int .i64 te, .int .i64 n, .int .i64 d, .int .i64 fr, .int .i64 en]).alloc (.cells #[.int .i64 0, .int .i64 0, .int .i64 0, .int .i64 0, .int .i64 0, .int .i64 0] 48)).alloc (.cells #[.int .i64 0, .int .i64 0, .int .i64 0, .int .i64 0, .int .i64 0, .int .i64 0] 48)
  have KR : Blk (((w.alloc (.cells #[.int .i64 ow, .int .i64 te, .int .i64 n, .int .i64 d, .int .i64 fr, .int .i64 en] 71)).alloc (.cells #[.int .i64 0, .int .i64 0, .int .i64 0, .int .i64 0, .int .i64 0, .int .i64 0] 48)).alloc (.cells #[.int .i64 0, .int .i64 0, .int .i64 0, .int .i64 0, .int .i64 0, .int .i64 0] 48)) (w.heap.size + 1) 48 #[.int .i64 0, .int .i64 0, .int .i64 0, .int .i64 0, .int .i64 0, .int .i64 0] := by
    have := (Blk.new (w.alloc (.cells #[.int .i64 ow, .int .i64 te, .int .i64 n, .int .i64 d, .int .i64 fr, .int .i64 en] 71)) 48 #[.int .i64 0, .int .i64 0, .int .i64 0, .int .i64 0, .int .i64 0, .int .i64 0]).alloc (.cells #[.int .i64 0, .int .i64 0, .int .i64 0, .int .i64 0, .int .i64 0, .int .i64 0] 48)
    rw [World.size_alloc] at this; exact this
  have KO : Blk (((w.alloc (.cells #[.int .i64 ow, .int .i64 te, .int .i64 n, .int .i64 d, .int .i64 fr, .int .i64 en] 71)).alloc (.cells #[.int .i64 0, .int .i64 0, .int .i64 0, .int .i64 0, .int .i64 0, .int .i64 0] 48)).alloc (.cells #[.int .i64 0, .int .i64 0, .int .i64 0, .int .i64 0, .int .i64 0, .int .i64 0] 48)) (w.heap.size + 1 + 1) 48 #[.int .i64 0, .int .i64 0, .int .i64 0, .int .i64 0, .int .i64 0, .int .i64 0] := by
    have := Blk.new ((w.alloc (.cells #[.int .i64 ow, .int .i64 te, .int .i64 n, .int .i64 d, .int .i64 fr, .int .i64 en] 71)).alloc (.cells #[.int .i64 0, .int .i64 0, .int .i64 0, .int .i64 0, .int .i64 0, .int .i64 0] 48)) 48 #[.int .i64 0, .int .i64 0, .int .i64 0, .int .i64 0, .int .i64 0, .int .i64 0]
    rw [World.size_alloc, World.size_alloc] at this; exact this
  have B : Below w.heap.size w (((w.alloc (.cells #[.int .i64 ow, .int .i64 te, .int .i64 n, .int .i64 d, .int .i64 fr, .int .i64 en] 71)).alloc (.cells #[.int .i64 0, .int .i64 0, .int .i64 0, .int .i64 0, .int .i64 0, .int .i64 0] 48)).alloc (.cells #[.int .i64 0, .int .i64 0, .int .i64 0, .int .i64 0, .int .i64 0, .int .i64 0] 48)) := by go_grown
  have HS0 : Hid (Blk (((w.alloc (.cells #[.int .i64 ow, .int .i64 te, .int .i64 n, .int .i64 d, .int .i64 fr, .int .i64 en] 71)).alloc (.cells #[.int .i64 0, .int .i64 0, .int .i64 0, .int .i64 0, .int .i64 0, .int .i64 0] 48)).alloc (.cells #[.int .i64 0, .int .i64 0, .int .i64 0, .int .i64 0, .int .i64 0, .int .i64 0] 48)) (w.heap.size) 71 #[.int .i64 ow, .int .i64 te, .int .i64 n, .int .i64 d, .int .i64 fr, .int .i64 en] ∧ Blk (((w.alloc (.cells #[.int .i64 ow, .int .i64 te, .int .i64 n, .int .i64 d, .int .i64 fr, .int .i64 en] 71)).alloc (.cells #[.int .i64 0, .int .i64 0, .int .i64 0, .int .i64 0, .int .i64 0, .int .i64 0] 48)).alloc (.cells #[.int .i64 0, .int .i64 0, .int .i64 0, .int .i64 0, .int .i64 0, .int .i64 0] 48)) (w.heap.size + 1) 48 #[.int .i64 0, .int .i64 0, .int .i64 0, .int .i64 0, .int .i64 0, .int .i64 0] ∧ Blk (((w.alloc (.cells #[.int .i64 ow, .int .i64 te, .int .i64 n, .int .i64 d, .int .i64 fr, .int .i64 en] 71)).alloc (.cells #[.int .i64 0, .int .i64 0, .int .i64 0, .int .i64 0, .int .i64 0, .int .i64 0] 48)).alloc (.cells #[.int .i64 0, .int .i64 0, .int .i64 0, .int .i64 0, .int .i64 0, .int .i64 0] 48)) (w.heap.size + 1 + 1) 48 #[.int .i64 0, .int .i64 0, .int .i64 0, .int .i64 0, .int .i64 0, .int .i64 0] ∧ Below w.heap.size w (((w.alloc (.cells #[.int .i64 ow, .int .i64 te, .int .i64 n, .int .i64 d, .int .i64 fr, .int .i64 en] 71)).alloc (.cells #[.int .i64 0, .int .i64 0, .int .i64 0, .int .i64 0, .int .i64 0, .int .i64 0] 48)).alloc (.cells #[.int .i64 0, .int .i64 0, .int .i64 0, .int .i64 0, .int .i64 0, .int .i64 0] 48))) := ⟨KA, KR, KO, B⟩
  clear KA KR KO B
  go_wp2_with (first | (show wpList _ _ _ _ _ (((w.alloc (.cells #[.int .i64 ow, .int .i64 te, .int .i64 n, .int .i64 d, .int .i64 fr, .int .i64 en] 71)).alloc (.cells #[.int .i64 0, .int .i64 0, .int .i64 0, .int .i64 0, .int .i64 0, .int .i64 0] 48)).alloc (.cells #[.int .i64 0, .int .i64 0, .int .i64 0, .int .i64 0, .int .i64 0, .int .i64 0] 48)); generalize ((w.alloc (.cells #[.int .i64 ow, .int .i64 te, .int .i64 n, .int .i64 d, .int .i64 fr, .int .i64 en] 71)).alloc (.cells #[.int .i64 0, .int .i64 0, .int .i64 0, .int .i64 0, .int .i64 0, .int .i64 0] 48)).alloc (.cells #[.int .i64 0, .int .i64 0, .int .i64 0, .int .i64 0, .int .i64 0, .int .i64 0] 48) = u0 at HS0 ⊢; obtain ⟨KA, KR, KO, B⟩ := HS0.out; clear HS0; have fz := KO.frozen 0; have HS1 : Hid (Blk (World.setCell u0 ⟨w.heap.size + 1 + 1, 0, none⟩ (.int .i64 ow)) (w.heap.size) 71 #[.int .i64 ow, .int .i64 te, .int .i64 n, .int .i64 d, .int .i64 fr, .int .i64 en] ∧ Blk (World.setCell u0 ⟨w.heap.size + 1 + 1, 0, none⟩ (.int .i64 ow)) (w.heap.size + 1) 48 #[.int .i64 0, .int .i64 0, .int .i64 0, .int .i64 0, .int .i64 0, .int .i64 0] ∧ Blk (World.setCell u0 ⟨w.heap.size + 1 + 1, 0, none⟩ (.int .i64 ow)) (w.heap.size + 1 + 1) 48 #[.int .i64 ow, .int .i64 0, .int .i64 0, .int .i64 0, .int .i64 0, .int .i64 0] ∧ Below w.heap.size w (World.setCell u0 ⟨w.heap.size + 1 + 1, 0, none⟩ (.int .i64 ow))) := ⟨KA.far (p := ⟨w.heap.size + 1 + 1, 0, none⟩) (by show w.heap.size ≠ w.heap.size + 1 + 1; omega) (.int .i64 ow), KR.far (p := ⟨w.heap.size + 1 + 1, 0, none⟩) (by show w.heap.size + 1 ≠ w.heap.size + 1 + 1; omega) (.int .i64 ow), (by have q := KO.set_ 0 (.int .i64 ow); simp only [List.setIfInBounds_toArray, List.set_cons_zero, List.set_cons_succ] at q; exact q), B.setCell (p := ⟨w.heap.size + 1 + 1, 0, none⟩) (by show w.heap.size ≤ w.heap.size + 1 + 1; omega) (.int .i64 ow)⟩; obtain ⟨qA_0, qA_1, qA_2, qA_3, qA_4, qA_5⟩ := cells6 KA; obtain ⟨qR_0, qR_1, qR_2, qR_3, qR_4, qR_5⟩ := cells6 KR; obtain ⟨qO_0, qO_1, qO_2, qO_3, qO_4, qO_5⟩ := cells6 KO; clear KA KR KO B) | (show wpList _ _ _ _ _ (World.setCell u0 _ _); clear fz; clear qA_0 qA_1 qA_2 qA_3 qA_4 qA_5 qR_0 qR_1 qR_2 qR_3 qR_4 qR_5 qO_0 qO_1 qO_2 qO_3 qO_4 qO_5; generalize World.setCell u0 ⟨w.heap.size + 1 + 1, 0, none⟩ (.int .i64 ow) = y1s at HS1 ⊢; obtain ⟨KA, KR, KO, B⟩ := HS1.out; clear HS1; have fz := KO.frozen 1; have HS2 : Hid (Blk (World.setCell y1s ⟨w.heap.size + 1 + 1, 1, none⟩ (.int .i64 te)) (w.heap.size) 71 #[.int .i64 ow, .int .i64 te, .int .i64 n, .int .i64 d, .int .i64 fr, .int .i64 en] ∧ Blk (World.setCell y1s ⟨w.heap.size + 1 + 1, 1, none⟩ (.int .i64 te)) (w.heap.size + 1) 48 #[.int .i64 0, .int .i64 0, .int .i64 0, .int .i64 0, .int .i64 0, .int .i64 0] ∧ Blk (World.setCell y1s ⟨w.heap.size + 1 + 1, 1, none⟩ (.int .i64 te)) (w.heap.size + 1 + 1) 48 #[.int .i64 ow, .int .i64 te, .int .i64 0, .int .i64 0, .int .i64 0, .int .i64 0] ∧ Below w.heap.size w (World.setCell y1s ⟨w.heap.size + 1 + 1, 1, none⟩ (.int .i64 te))) := ⟨KA.far (p := ⟨w.heap.size + 1 + 1, 1, none⟩) (by show w.heap.size ≠ w.heap.size + 1 + 1; omega) (.int .i64 te), KR.far (p := ⟨w.heap.size + 1 + 1, 1, none⟩) (by show w.heap.size + 1 ≠ w.heap.size + 1 + 1; omega) (.int .i64 te), (by have q := KO.set_ 1 (.int .i64 te); simp only [List.setIfInBounds_toArray, List.set_cons_zero, List.set_cons_succ] at q; exact q), B.setCell (p := ⟨w.heap.size + 1 + 1, 1, none⟩) (by show w.heap.size ≤ w.heap.size + 1 + 1; omega) (.int .i64 te)⟩; obtain ⟨qA_0, qA_1, qA_2, qA_3, qA_4, qA_5⟩ := cells6 KA; obtain ⟨qR_0, qR_1, qR_2, qR_3, qR_4, qR_5⟩ := cells6 KR; obtain ⟨qO_0, qO_1, qO_2, qO_3, qO_4, qO_5⟩ := cells6 KO; clear KA KR KO B) | (show wpList _ _ _ _ _ (World.setCell y1s _ _); clear fz; clear qA_0 qA_1 qA_2 qA_3 qA_4 qA_5 qR_0 qR_1 qR_2 qR_3 qR_4 qR_5 qO_0 qO_1 qO_2 qO_3 qO_4 qO_5; generalize World.setCell y1s ⟨w.heap.size + 1 + 1, 1, none⟩ (.int .i64 te) = y2s at HS2 ⊢; obtain ⟨KA, KR, KO, B⟩ := HS2.out; clear HS2; obtain ⟨qA_0, qA_1, qA_2, qA_3, qA_4, qA_5⟩ := cells6 KA; obtain ⟨qR_0, qR_1, qR_2, qR_3, qR_4, qR_5⟩ := cells6 KR; obtain ⟨qO_0, qO_1, qO_2, qO_3, qO_4, qO_5⟩ := cells6 KO))
  refine (ltoFrac n d _).mono ?_
  rintro e u1 ⟨rfl, C⟩
  clear qA_0 qA_1 qA_2 qA_3 qA_4 qA_5 qR_0 qR_1 qR_2 qR_3 qR_4 qR_5 qO_0 qO_1 qO_2 qO_3 qO_4 qO_5
  replace KA := KA.next C
  replace KR := KR.next C
  replace KO := KO.next C
  replace B := bel_tr B C
  clear C
  have fz := KO.frozen 2
  have fz2 := KO.frozen 3
  have HS3 : Hid (Blk (World.setCell (World.setCell u1 ⟨w.heap.size + 1 + 1, 2, none⟩ (.int .i64 n)) ⟨w.heap.size + 1 + 1, 3, none⟩ (.int .i64 d)) (w.heap.size) 71 #[.int .i64 ow, .int .i64 te, .int .i64 n, .int .i64 d, .int .i64 fr, .int .i64 en] ∧ Blk (World.setCell (World.setCell u1 ⟨w.heap.size + 1 + 1, 2, none⟩ (.int .i64 n)) ⟨w.heap.size + 1 + 1, 3, none⟩ (.int .i64 d)) (w.heap.size + 1) 48 #[.int .i64 0, .int .i64 0, .int .i64 0, .int .i64 0, .int .i64 0, .int .i64 0] ∧ Blk (World.setCell (World.setCell u1 ⟨w.heap.size + 1 + 1, 2, none⟩ (.int .i64 n)) ⟨w.heap.size + 1 + 1, 3, none⟩ (.int .i64 d)) (w.heap.size + 1 + 1) 48 #[.int .i64 ow, .int .i64 te, .int .i64 n, .int .i64 d, .int .i64 0, .int .i64 0] ∧ Below w.heap.size w (World.setCell (World.setCell u1 ⟨w.heap.size + 1 + 1, 2, none⟩ (.int .i64 n)) ⟨w.heap.size + 1 + 1, 3, none⟩ (.int .i64 d))) := ⟨(KA.far (p := ⟨w.heap.size + 1 + 1, 2, none⟩) (by show w.heap.size ≠ w.heap.size + 1 + 1; omega) (.int .i64 n)).far (p := ⟨w.heap.size + 1 + 1, 3, none⟩) (by show w.heap.size ≠ w.heap.size + 1 + 1; omega) (.int .i64 d), (KR.far (p := ⟨w.heap.size + 1 + 1, 2, none⟩) (by show w.heap.size + 1 ≠ w.heap.size + 1 + 1; omega) (.int .i64 n)).far (p := ⟨w.heap.size + 1 + 1, 3, none⟩) (by show w.heap.size + 1 ≠ w.heap.size + 1 + 1; omega) (.int .i64 d), (by have q := (KO.set_ 2 (.int .i64 n)).set_ 3 (.int .i64 d); simp only [List.setIfInBounds_toArray, List.set_cons_zero, List.set_cons_succ] at q; exact q), (B.setCell (p := ⟨w.heap.size + 1 + 1, 2, none⟩) (by show w.heap.size ≤ w.heap.size + 1 + 1; omega) (.int .i64 n)).setCell (p := ⟨w.heap.size + 1 + 1, 3, none⟩) (by show w.heap.size ≤ w.heap.size + 1 + 1; omega) (.int .i64 d)⟩
  obtain ⟨qA_0, qA_1, qA_2, qA_3, qA_4, qA_5⟩ := cells6 KA
  obtain ⟨qR_0, qR_1, qR_2, qR_3, qR_4, qR_5⟩ := cells6 KR
  obtain ⟨qO_0, qO_1, qO_2, qO_3, qO_4, qO_5⟩ := cells6 KO
  clear KA KR KO B
  go_wp2_with (first | (show wpList _ _ _ _ _ (World.setCell (World.setCell u1 _ _) _ _); clear fz fz2; clear qA_0 qA_1 qA_2 qA_3 qA_4 qA_5 qR_0 qR_1 qR_2 qR_3 qR_4 qR_5 qO_0 qO_1 qO_2 qO_3 qO_4 qO_5; generalize World.setCell (World.setCell u1 ⟨w.heap.size + 1 + 1, 2, none⟩ (.int .i64 n)) ⟨w.heap.size + 1 + 1, 3, none⟩ (.int .i64 d) = y3s at HS3 ⊢; obtain ⟨KA, KR, KO, B⟩ := HS3.out; clear HS3; have fz := KO.frozen 4; have HS4 : Hid (Blk (World.setCell y3s ⟨w.heap.size + 1 + 1, 4, none⟩ (.int .i64 fr)) (w.heap.size) 71 #[.int .i64 ow, .int .i64 te, .int .i64 n, .int .i64 d, .int .i64 fr, .int .i64 en] ∧ Blk (World.setCell y3s ⟨w.heap.size + 1 + 1, 4, none⟩ (.int .i64 fr)) (w.heap.size + 1) 48 #[.int .i64 0, .int .i64 0, .int .i64 0, .int .i64 0, .int .i64 0, .int .i64 0] ∧ Blk (World.setCell y3s ⟨w.heap.size + 1 + 1, 4, none⟩ (.int .i64 fr)) (w.heap.size + 1 + 1) 48 #[.int .i64 ow, .int .i64 te, .int .i64 n, .int .i64 d, .int .i64 fr, .int .i64 0] ∧ Below w.heap.size w (World.setCell y3s ⟨w.heap.size + 1 + 1, 4, none⟩ (.int .i64 fr))) := ⟨KA.far (p := ⟨w.heap.size + 1 + 1, 4, none⟩) (by show w.heap.size ≠ w.heap.size + 1 + 1; omega) (.int .i64 fr), KR.far (p := ⟨w.heap.size + 1 + 1, 4, none⟩) (by show w.heap.size + 1 ≠ w.heap.size + 1 + 1; omega) (.int .i64 fr), (by have q := KO.set_ 4 (.int .i64 fr); simp only [List.setIfInBounds_toArray, List.set_cons_zero, List.set_cons_succ] at q; exact q), B.setCell (p := ⟨w.heap.size + 1 + 1, 4, none⟩) (by show w.heap.size ≤ w.heap.size + 1 + 1; omega) (.int .i64 fr)⟩; obtain ⟨qA_0, qA_1, qA_2, qA_3, qA_4, qA_5⟩ := cells6 KA; obtain ⟨qR_0, qR_1, qR_2, qR_3, qR_4, qR_5⟩ := cells6 KR; obtain ⟨qO_0, qO_1, qO_2, qO_3, qO_4, qO_5⟩ := cells6 KO; clear KA KR KO B) | (show wpList _ _ _ _ _ (World.setCell y3s _ _); clear fz; clear qA_0 qA_1 qA_2 qA_3 qA_4 qA_5 qR_0 qR_1 qR_2 qR_3 qR_4 qR_5 qO_0 qO_1 qO_2 qO_3 qO_4 qO_5; generalize World.setCell y3s ⟨w.heap.size + 1 + 1, 4, none⟩ (.int .i64 fr) = y4s at HS4 ⊢; obtain ⟨KA, KR, KO, B⟩ := HS4.out; clear HS4; have fz := KO.frozen 5; have HS5 : Hid (Blk (World.setCell y4s ⟨w.heap.size + 1 + 1, 5, none⟩ (.int .i64 en)) (w.heap.size) 71 #[.int .i64 ow, .int .i64 te, .int .i64 n, .int .i64 d, .int .i64 fr, .int .i64 en] ∧ Blk (World.setCell y4s ⟨w.heap.size + 1 + 1, 5, none⟩ (.int .i64 en)) (w.heap.size + 1) 48 #[.int .i64 0, .int .i64 0, .int .i64 0, .int .i64 0, .int .i64 0, .int .i64 0] ∧ Blk (World.setCell y4s ⟨w.heap.size + 1 + 1, 5, none⟩ (.int .i64 en)) (w.heap.size + 1 + 1) 48 #[.int .i64 ow, .int .i64 te, .int .i64 n, .int .i64 d, .int .i64 fr, .int .i64 en] ∧ Below w.heap.size w (World.setCell y4s ⟨w.heap.size + 1 + 1, 5, none⟩ (.int .i64 en))) := ⟨KA.far (p := ⟨w.heap.size + 1 + 1, 5, none⟩) (by show w.heap.size ≠ w.heap.size + 1 + 1; omega) (.int .i64 en), KR.far (p := ⟨w.heap.size + 1 + 1, 5, none⟩) (by show w.heap.size + 1 ≠ w.heap.size + 1 + 1; omega) (.int .i64 en), (by have q := KO.set_ 5 (.int .i64 en); simp only [List.setIfInBounds_toArray, List.set_cons_zero, List.set_cons_succ] at q; exact q), B.setCell (p := ⟨w.heap.size + 1 + 1, 5, none⟩) (by show w.heap.size ≤ w.heap.size + 1 + 1; omega) (.int .i64 en)⟩; obtain ⟨qA_0, qA_1, qA_2, qA_3, qA_4, qA_5⟩ := cells6 KA; obtain ⟨qR_0, qR_1, qR_2, qR_3, qR_4, qR_5⟩ := cells6 KR; obtain ⟨qO_0, qO_1, qO_2, qO_3, qO_4, qO_5⟩ := cells6 KO; clear KA KR KO B) | (show wpList _ _ _ _ _ (World.setCell y4s _ _); clear fz; clear qA_0 qA_1 qA_2 qA_3 qA_4 qA_5 qR_0 qR_1 qR_2 qR_3 qR_4 qR_5 qO_0 qO_1 qO_2 qO_3 qO_4 qO_5; generalize World.setCell y4s ⟨w.heap.size + 1 + 1, 5, none⟩ (.int .i64 en) = y5s at HS5 ⊢; obtain ⟨KA, KR, KO, B⟩ := HS5.out; clear HS5; have fr0 := KR.frozen 0; have fr1 := KR.frozen 1; have fr2 := KR.frozen 2; have fr3 := KR.frozen 3; have fr4 := KR.frozen 4; have fr5 := KR.frozen 5; have HF := Lib.hid (show Blk (y5s) (w.heap.size) 71 #[.int .i64 ow, .int .i64 te, .int .i64 n, .int .i64 d, .int .i64 fr, .int .i64 en] ∧ Blk (y5s) (w.heap.size + 1) 48 #[.int .i64 0, .int .i64 0, .int .i64 0, .int .i64 0, .int .i64 0, .int .i64 0] ∧ Blk (y5s) (w.heap.size + 1 + 1) 48 #[.int .i64 ow, .int .i64 te, .int .i64 n, .int .i64 d, .int .i64 fr, .int .i64 en] ∧ Below w.heap.size w (y5s) from ⟨KA, KR, KO, B⟩); obtain ⟨qA_0, qA_1, qA_2, qA_3, qA_4, qA_5⟩ := cells6 KA; obtain ⟨qR_0, qR_1, qR_2, qR_3, qR_4, qR_5⟩ := cells6 KR; obtain ⟨qO_0, qO_1, qO_2, qO_3, qO_4, qO_5⟩ := cells6 KO; clear KA KR KO B))
  clear fr0 fr1 fr2 fr3 fr4 fr5
  clear qA_0 qA_1 qA_2 qA_3 qA_4 qA_5 qR_0 qR_1 qR_2 qR_3 qR_4 qR_5 qO_0 qO_1 qO_2 qO_3 qO_4 qO_5
  obtain ⟨KA, KR, KO, B⟩ := HF.out
  clear HF
  change bodyPost _ _ _ _ _ (sets6 y5s (w.heap.size + 1) (.int .i64 ow) (.int .i64 te) (.int .i64 n) (.int .i64 d) (.int .i64 fr) (.int .i64 en))
  have KOLD := KR
  replace KR := sets6_blk (v0 := .int .i64 ow) (v1 := .int .i64 te) (v2 := .int .i64 n) (v3 := .int .i64 d) (v4 := .int .i64 fr) (v5 := .int .i64 en) KR
  replace B := sets6_below (b := w.heap.size + 1) (v0 := .int .i64 ow) (v1 := .int .i64 te) (v2 := .int .i64 n) (v3 := .int .i64 d) (v4 := .int .i64 fr) (v5 := .int .i64 en) B (by omega)
  clear KA
  clear KO
  clear KOLD
  generalize sets6 y5s (w.heap.size + 1) (.int .i64 ow) (.int .i64 te) (.int .i64 n) (.int .i64 d) (.int .i64 fr) (.int .i64 en) = uf at KR  B ⊢
  obtain ⟨qR_0, qR_1, qR_2, qR_3, qR_4, qR_5⟩ := cells6 KR
  refine bodyPost_ret (v := .agg #[.int .i64 ow, .int .i64 te, .int .i64 n, .int .i64 d, .int .i64 fr, .int .i64 en]) (by simp [results, Try.results41, go_sem, qR_0, qR_1, qR_2, qR_3, qR_4, qR_5]) rfl ⟨rfl, B⟩
def lsv (x : Lr) : Nat → Value
  | 0 => .int .i64 x.ow
  | 1 => .int .i64 x.te
  | 2 => .int .i64 x.n
  | 3 => .int .i64 x.d
  | 4 => .int .i64 x.fr
  | _ => .int .i64 x.en
/-- leases in a row of the call's own -/
def RowLs (w : World) (g : Nat) (n : Nat) (ls : List Lr) : Prop := w.rowIs g 48 (ls.length * 6) fun j => if j < n * 6 then lsv (ls.getD (j / 6) lr0) (j % 6) else .int .i64 0
theorem RowLs.is {w : World} {g : Nat} {ls : List Lr} (h : RowLs w g ls.length ls) : IsLs w (some ⟨g, 0, none⟩) ls := by
  refine .inr ⟨g, 0, rfl, fun i hi => ?_⟩
  rw [Nat.zero_add]
  have key : ∀ q, q < 6 → w.cell? ⟨g, i * 6 + q, none⟩ = some (lsv (ls.getD i lr0) q) := fun q hq => by
    have := World.rowIs.cell h (i := i * 6 + q) (by omega)
    rw [if_pos (by omega), show (i * 6 + q) / 6 = i from by omega, show (i * 6 + q) % 6 = q from by omega] at this
    exact this
  exact ⟨key 0 (by omega), key 1 (by omega), key 2 (by omega), key 3 (by omega), key 4 (by omega), key 5 (by omega)⟩
theorem RowLs.next {w w' : World} {g : Nat} {ls : List Lr} (h : RowLs w g ls.length ls) (hb : Below w.heap.size w w') : RowLs w' g ls.length ls :=
  World.rowIs.of_block h (hb.block g (World.rowIs.lt h))
theorem infoLs : (Try.prog.info? 48).map (fun i => (i.zero, i.size, i.bytes)) = some (some (.agg #[.int .i64 0, .int .i64 0, .int .i64 0, .int .i64 0, .int .i64 0, .int .i64 0]), 6, 48) := by kernel_rfl
theorem madeLs (w : World) (n : Nat) (t : TypeId) : (w.alloc (.cells (madeCells #[.int .i64 0, .int .i64 0, .int .i64 0, .int .i64 0, .int .i64 0, .int .i64 0] n) t)).rowIs w.heap.size t n (fun _ => .int .i64 0) := by
  have hs : (madeCells #[Value.int .i64 0, .int .i64 0, .int .i64 0, .int .i64 0, .int .i64 0, .int .i64 0] n).size = n := by unfold madeCells; simp
  refine ⟨_, heap_alloc_new w _, hs, fun i hi => ?_⟩
  have hm : i % 6 = 0 ∨ i % 6 = 1 ∨ i % 6 = 2 ∨ i % 6 = 3 ∨ i % 6 = 4 ∨ i % 6 = 5 := by omega
  unfold madeCells
  rw [Array.getElem?_map, Array.getElem?_range, if_pos hi]
  show some ((#[Value.int .i64 0, .int .i64 0, .int .i64 0, .int .i64 0, .int .i64 0, .int .i64 0] : Array Value)[i % 6]!) = _
  rcases hm with h | h | h | h | h | h <;> rw [h] <;> rfl
theorem run_makeLs (n : Nat) (hn : n ≤ 1048576) (w : World) : (Instr.makeSlice 30 (.int .i64 (n : Int)) (.int .i64 (n : Int))).run Try.prog w = .ok (.slice (some ⟨w.heap.size, 0, none⟩) n n) (w.alloc (.cells (madeCells #[.int .i64 0, .int .i64 0, .int .i64 0, .int .i64 0, .int .i64 0, .int .i64 0] (n * 6)) 48)) := by
  obtain ⟨i0, hi0, hz0, hz1, hz2⟩ := info_parts infoLs
  have := run_make (P := Try.prog) w 30 48 i0 _ Try.underlying30 hi0 hz0 .i64 .i64 (n : Int) (n : Int) (by omega) (by omega) (by rw [hz2]; omega) (by omega)
  simp only [Int.toNat_natCast, hz1] at this
  exact this
theorem rowLs_step {w : World} {g k : Nat} {ls : List Lr} (h : RowLs w g k ls) (hk : k < ls.length) : RowLs (World.setCell (World.setCell (World.setCell (World.setCell (World.setCell (World.setCell w ⟨g, k * 6, none⟩ (.int .i64 (ls.getD k lr0).ow)) ⟨g, k * 6 + 1, none⟩ (.int .i64 (ls.getD k lr0).te)) ⟨g, k * 6 + 2, none⟩ (.int .i64 (ls.getD k lr0).n)) ⟨g, k * 6 + 3, none⟩ (.int .i64 (ls.getD k lr0).d)) ⟨g, k * 6 + 4, none⟩ (.int .i64 (ls.getD k lr0).fr)) ⟨g, k * 6 + 5, none⟩ (.int .i64 (ls.getD k lr0).en)) g (k + 1) ls := by
  refine ((((((h.set (k * 6) _).set (k * 6 + 1) _).set (k * 6 + 2) _).set (k * 6 + 3) _).set (k * 6 + 4) _).set (k * 6 + 5) _).congr (fun j hj => ?_)
  try dsimp only
  by_cases hb : k * 6 ≤ j ∧ j < k * 6 + 6
  · rw [if_pos (show j < (k + 1) * 6 from by omega), show j / 6 = k from by omega]
    have hm : j = k * 6 ∨ j = k * 6 + 1 ∨ j = k * 6 + 2 ∨ j = k * 6 + 3 ∨ j = k * 6 + 4 ∨ j = k * 6 + 5 := by omega
    rcases hm with e | e | e | e | e | e
    · rw [if_neg (by omega), if_neg (by omega), if_neg (by omega), if_neg (by omega), if_neg (by omega), if_pos e, show j % 6 = 0 from by omega]; rfl
    · rw [if_neg (by omega), if_neg (by omega), if_neg (by omega), if_neg (by omega), if_pos e, show j % 6 = 1 from by omega]; rfl
    · rw [if_neg (by omega), if_neg (by omega), if_neg (by omega), if_pos e, show j % 6 = 2 from by omega]; rfl
    · rw [if_neg (by omega), if_neg (by omega), if_pos e, show j % 6 = 3 from by omega]; rfl
    · rw [if_neg (by omega), if_pos e, show j % 6 = 4 from by omega]; rfl
    · rw [if_pos e, show j % 6 = 5 from by omega]; rfl
  · rw [if_neg (by omega), if_neg (by omega), if_neg (by omega), if_neg (by omega), if_neg (by omega), if_neg (by omega)]
    by_cases hl : j < k * 6
    · rw [if_pos hl, if_pos (by omega)]
    · rw [if_neg hl, if_neg (by omega)]
/-- what toLeaseS leaves -/
def CopiedLs (w : World) (ls : List Lr) (e : Ending) (w' : World) : Prop := ∃ g : Nat, e = .returned (.slice (some ⟨g, 0, none⟩) ls.length ls.length) ∧ w.heap.size ≤ g ∧ RowLs w' g ls.length ls ∧ Below w.heap.size w w'
set_option maxRecDepth 100000 in
set_option maxHeartbeats 6000000 in
/-- laws.toLeaseS -/
theorem ltoLs (a : Option Addr) (cap : Nat) (ls : List Lr) (w : World) (h : IsLs w a ls) (hn : ls.length ≤ 1048576) :
    Calls Try.prog 13 #[.slice a ls.length cap] w (CopiedLs w ls) := by
  have hmk := run_makeLs ls.length hn
  have HC := Lib.hid h
  clear h
  go_enter Try.func13, Try.ntmps13
  go_wp2
  clear hmk
  go_loopw [4] (fun i wr => ∃ k : Nat, k ≤ ls.length ∧ i = .int .i64 k ∧ Hid (RowLs wr w.heap.size k ls ∧ Below w.heap.size w wr)) (fun i _ => ls.length - (intOf i).toNat)
  case atStart => exact ⟨0, Nat.zero_le _, rfl, ⟨(madeLs w (ls.length * 6) _).congr (fun i hi => by simp), by go_grown⟩⟩
  case round =>
    obtain ⟨k, hk, rfl, HS⟩ := hrel
    by_cases hlt : k < ls.length
    · rcases ls_below HC.out HS.out.2 with hd0 | ⟨g, o, rfl, hg⟩
      · rw [hd0] at hlt; exact absurd hlt (Nat.not_lt_zero _)
      obtain ⟨c0, c1, c2, c3, c4, c5⟩ := hg k hlt
      have HST := Lib.hid (fun (W : World) (hW : RowLs W w.heap.size k ls) => rowLs_step hW hlt)
      have hrow := HS.out.1
      have key : ∀ q, q < 6 → wr.cell? ⟨w.heap.size, k * 6 + q, none⟩ = some (.int .i64 0) := fun q hq => by
        have := World.rowIs.cell hrow (i := k * 6 + q) (by omega)
        rw [if_neg (by omega)] at this
        exact this
      have d0 := key 0 (by omega)
      have d1 := key 1 (by omega)
      have d2 := key 2 (by omega)
      have d3 := key 3 (by omega)
      have d4 := key 4 (by omega)
      have d5 := key 5 (by omega)
      have hf := World.rowIs.frozen hrow
      have hW := World.rowIs.lt hrow
      clear key hrow hg
      rw [Nat.add_zero] at d0
      have hk0 : (0 : Int) ≤ (k : Int) := by omega
      have hk1 : (k : Int) < (ls.length : Int) := by omega
      generalize ls.getD k lr0 = x at c0 c1 c2 c3 c4 c5 HST
      have CC := Lib.hid (ltoLr x wr)
      have HF := Lib.hid hf
      clear hf
      go_wp2_with fail
      refine CC.out.mono ?_
      rintro e w1 ⟨rfl, C⟩
      have HN := Lib.hid (HST.out w1 (World.rowIs.of_block HS.out.1 (C.block _ hW)))
      have HB := Lib.hid (bel_tr HS.out.2 C)
      replace d0 := (C.cell (p := ⟨w.heap.size, k * 6, none⟩) hW).trans d0
      have f0 := (C.frozen (p := ⟨w.heap.size, k * 6, none⟩) hW).trans (HF.out _)
      replace d1 := (C.cell (p := ⟨w.heap.size, k * 6 + 1, none⟩) hW).trans d1
      have f1 := (C.frozen (p := ⟨w.heap.size, k * 6 + 1, none⟩) hW).trans (HF.out _)
      replace d2 := (C.cell (p := ⟨w.heap.size, k * 6 + 2, none⟩) hW).trans d2
      have f2 := (C.frozen (p := ⟨w.heap.size, k * 6 + 2, none⟩) hW).trans (HF.out _)
      replace d3 := (C.cell (p := ⟨w.heap.size, k * 6 + 3, none⟩) hW).trans d3
      have f3 := (C.frozen (p := ⟨w.heap.size, k * 6 + 3, none⟩) hW).trans (HF.out _)
      replace d4 := (C.cell (p := ⟨w.heap.size, k * 6 + 4, none⟩) hW).trans d4
      have f4 := (C.frozen (p := ⟨w.heap.size, k * 6 + 4, none⟩) hW).trans (HF.out _)
      replace d5 := (C.cell (p := ⟨w.heap.size, k * 6 + 5, none⟩) hW).trans d5
      have f5 := (C.frozen (p := ⟨w.heap.size, k * 6 + 5, none⟩) hW).trans (HF.out _)
      clear C c0 c1 c2 c3 c4 c5 HST CC HS
      go_wp2_with fail
      go_roundw
      case rel => exact ⟨k + 1, by omega, by go_num, HN.out, (((((HB.out.setCell (p := ⟨w.heap.size, k * 6, none⟩) (Nat.le_refl _) _).setCell (p := ⟨w.heap.size, k * 6 + 1, none⟩) (Nat.le_refl _) _).setCell (p := ⟨w.heap.size, k * 6 + 2, none⟩) (Nat.le_refl _) _).setCell (p := ⟨w.heap.size, k * 6 + 3, none⟩) (Nat.le_refl _) _).setCell (p := ⟨w.heap.size, k * 6 + 4, none⟩) (Nat.le_refl _) _).setCell (p := ⟨w.heap.size, k * 6 + 5, none⟩) (Nat.le_refl _) _⟩
      case measure => simp [intOf]; omega
    · obtain rfl : k = ls.length := by omega
      go_wp2_with fail
      go_ret
      exact ⟨_, rfl, Nat.le_refl _, HS.out.1, HS.out.2⟩
set_option maxRecDepth 100000 in
set_option maxHeartbeats 6000000 in
/-- laws.eqLease -/
theorem leqLr (x : Lr) (w : World) :
    Calls Try.prog 46 #[.agg #[.int .i64 x.ow, .int .i64 x.te, .int .i64 x.n, .int .i64 x.d, .int .i64 x.fr, .int .i64 x.en], .agg #[.int .i64 x.ow, .int .i64 x.te, .int .i64 x.n, .int .i64 x.d, .int .i64 x.fr, .int .i64 x.en]] w fun e w' => e = .returned (.bool true) ∧ Below w.heap.size w w' := by
  obtain ⟨ow, te, n, d, fr, en⟩ := x
  dsimp only
  have K1 := (Blk.new w 48 #[.int .i64 ow, .int .i64 te, .int .i64 n, .int .i64 d, .int .i64 fr, .int .i64 en]).alloc (.cells #[.int .i64 ow, .int .i64 te, .int .i64 n, .int .i64 d, .int .i64 fr, .int .i64 en] 48)
  have K2 := Blk.new (w.alloc (.cells #[.int .i64 ow, .int .i64 te, .int .i64 n, .int .i64 d, .int .i64 fr, .int .i64 en] 48)) 48 #[.int .i64 ow, .int .i64 te, .int .i64 n, .int .i64 d, .int .i64 fr, .int .i64 en]
  rw [World.size_alloc] at K2
  have B : Below w.heap.size w ((w.alloc (.cells #[.int .i64 ow, .int .i64 te, .int .i64 n, .int .i64 d, .int .i64 fr, .int .i64 en] 48)).alloc (.cells #[.int .i64 ow, .int .i64 te, .int .i64 n, .int .i64 d, .int .i64 fr, .int .i64 en] 48)) := by go_grown
  obtain ⟨q0, q1, q2, q3, q4, q5⟩ := cells6 K1
  obtain ⟨r0, r1, r2, r3, r4, r5⟩ := cells6 K2
  have b0 : (ow != ow) = false := by simp
  have b1 : (te != te) = false := by simp
  have b2 : (fr != fr) = false := by simp
  have b3 : (en != en) = false := by simp
  go_enter Try.func46, Try.ntmps46
  go_wp2_with fail
  refine (leqFrac n d _).mono ?_
  rintro e u1 ⟨rfl, C⟩
  clear q0 q1 q2 q3 q4 q5 r0 r1 r2 r3 r4 r5
  replace B := bel_tr B C
  replace K1 := K1.next C
  replace K2 := K2.next C
  clear C
  obtain ⟨q0, q1, q2, q3, q4, q5⟩ := cells6 K1
  obtain ⟨r0, r1, r2, r3, r4, r5⟩ := cells6 K2
  go_wp2_with fail
  go_ret
  exact ⟨rfl, B⟩
set_option maxRecDepth 100000 in
set_option maxHeartbeats 6000000 in
/-- laws.eqLeaseS of two readings of the same leases -/
theorem leqLs (a b : Option Addr) (ca cb : Nat) (ls : List Lr) (w : World) (ha : IsLs w a ls) (hb : IsLs w b ls) (hn : ls.length ≤ 1048576) :
    Calls Try.prog 16 #[.slice a ls.length ca, .slice b ls.length cb] w fun e w' => e = .returned (.bool true) ∧ Below w.heap.size w w' := by
  have HA := Lib.hid ha
  have HB := Lib.hid hb
  clear ha hb
  have B := Below.refl w.heap.size w
  go_enter Try.func16, Try.ntmps16
  go_wp2_with fail
  go_loopw [5] (fun i wr => ∃ k : Nat, k ≤ ls.length ∧ i = .int .i64 k ∧ Below w.heap.size w wr) (fun i _ => ls.length - (intOf i).toNat)
  case atStart => exact ⟨0, Nat.zero_le _, rfl, B⟩
  case round =>
    clear B
    obtain ⟨k, hk, rfl, B⟩ := hrel
    by_cases hlt : k < ls.length
    · rcases ls_below HA.out B with hd0 | ⟨g1, o1, rfl, hg1⟩
      · rw [hd0] at hlt; exact absurd hlt (Nat.not_lt_zero _)
      rcases ls_below HB.out B with hd0 | ⟨g2, o2, rfl, hg2⟩
      · rw [hd0] at hlt; exact absurd hlt (Nat.not_lt_zero _)
      obtain ⟨c0, c1, c2, c3, c4, c5⟩ := hg1 k hlt
      obtain ⟨e0, e1, e2, e3, e4, e5⟩ := hg2 k hlt
      clear hg1 hg2
      generalize ls.getD k lr0 = x at c0 c1 c2 c3 c4 c5 e0 e1 e2 e3 e4 e5
      have lt1 := World.block_lt_of_cell? wr _ c0
      have lt2 := World.block_lt_of_cell? wr _ e0
      have k0 : (0 : Int) ≤ (k : Int) := by omega
      have k1 : (k : Int) < (ls.length : Int) := by omega
      go_wp2_with fail
      have HMK1 := Lib.hid (fun (W : World) (hW : Below wr.heap.size wr W) => (⟨⟨(hW.cell (p := ⟨g1, o1 + k * 6, none⟩) (lt1)).trans c0, (hW.cell (p := ⟨g1, o1 + k * 6 + 1, none⟩) (lt1)).trans c1, (hW.cell (p := ⟨g1, o1 + k * 6 + 2, none⟩) (lt1)).trans c2, (hW.cell (p := ⟨g1, o1 + k * 6 + 3, none⟩) (lt1)).trans c3, (hW.cell (p := ⟨g1, o1 + k * 6 + 4, none⟩) (lt1)).trans c4, (hW.cell (p := ⟨g1, o1 + k * 6 + 5, none⟩) (lt1)).trans c5, (hW.cell (p := ⟨g2, o2 + k * 6, none⟩) (lt2)).trans e0, (hW.cell (p := ⟨g2, o2 + k * 6 + 1, none⟩) (lt2)).trans e1, (hW.cell (p := ⟨g2, o2 + k * 6 + 2, none⟩) (lt2)).trans e2, (hW.cell (p := ⟨g2, o2 + k * 6 + 3, none⟩) (lt2)).trans e3, (hW.cell (p := ⟨g2, o2 + k * 6 + 4, none⟩) (lt2)).trans e4, (hW.cell (p := ⟨g2, o2 + k * 6 + 5, none⟩) (lt2)).trans e5⟩, hW⟩ : (W.cell? ⟨g1, o1 + k * 6, none⟩ = some (.int .i64 x.ow) ∧ W.cell? ⟨g1, o1 + k * 6 + 1, none⟩ = some (.int .i64 x.te) ∧ W.cell? ⟨g1, o1 + k * 6 + 2, none⟩ = some (.int .i64 x.n) ∧ W.cell? ⟨g1, o1 + k * 6 + 3, none⟩ = some (.int .i64 x.d) ∧ W.cell? ⟨g1, o1 + k * 6 + 4, none⟩ = some (.int .i64 x.fr) ∧ W.cell? ⟨g1, o1 + k * 6 + 5, none⟩ = some (.int .i64 x.en) ∧ W.cell? ⟨g2, o2 + k * 6, none⟩ = some (.int .i64 x.ow) ∧ W.cell? ⟨g2, o2 + k * 6 + 1, none⟩ = some (.int .i64 x.te) ∧ W.cell? ⟨g2, o2 + k * 6 + 2, none⟩ = some (.int .i64 x.n) ∧ W.cell? ⟨g2, o2 + k * 6 + 3, none⟩ = some (.int .i64 x.d) ∧ W.cell? ⟨g2, o2 + k * 6 + 4, none⟩ = some (.int .i64 x.fr) ∧ W.cell? ⟨g2, o2 + k * 6 + 5, none⟩ = some (.int .i64 x.en)) ∧ Below wr.heap.size wr W))
      refine wp_region_held_drew (S := (fun w' => (w'.cell? ⟨g1, o1 + k * 6, none⟩ = some (.int .i64 x.ow) ∧ w'.cell? ⟨g1, o1 + k * 6 + 1, none⟩ = some (.int .i64 x.te) ∧ w'.cell? ⟨g1, o1 + k * 6 + 2, none⟩ = some (.int .i64 x.n) ∧ w'.cell? ⟨g1, o1 + k * 6 + 3, none⟩ = some (.int .i64 x.d) ∧ w'.cell? ⟨g1, o1 + k * 6 + 4, none⟩ = some (.int .i64 x.fr) ∧ w'.cell? ⟨g1, o1 + k * 6 + 5, none⟩ = some (.int .i64 x.en) ∧ w'.cell? ⟨g2, o2 + k * 6, none⟩ = some (.int .i64 x.ow) ∧ w'.cell? ⟨g2, o2 + k * 6 + 1, none⟩ = some (.int .i64 x.te) ∧ w'.cell? ⟨g2, o2 + k * 6 + 2, none⟩ = some (.int .i64 x.n) ∧ w'.cell? ⟨g2, o2 + k * 6 + 3, none⟩ = some (.int .i64 x.d) ∧ w'.cell? ⟨g2, o2 + k * 6 + 4, none⟩ = some (.int .i64 x.fr) ∧ w'.cell? ⟨g2, o2 + k * 6 + 5, none⟩ = some (.int .i64 x.en)) ∧ Below wr.heap.size wr w')) (by kernel_rfl) ?_ (fun hHeld => ?_)
      · exact ⟨⟨c0, c1, c2, c3, c4, c5, e0, e1, e2, e3, e4, e5⟩, (Below.refl _ _).drew⟩
      refine wpAnyH_take (i := 0) (oi := ?ooa2_) (v := ?vva2_) ?hia2_ (by kernel_rfl) ?h3a2_ ?h4a2_ ?h5a2_ ?h6a2_ (by assumption) ?h8a2_
      case hia2_ => (simp only [List.getElem?_toArray, List.getElem?_cons_succ, List.getElem?_cons_zero]; rfl)
      case h3a2_ => kernel_rfl
      case h4a2_ => kernel_rfl
      case h6a2_ => (refine Or.inl ⟨by rfl, ?_⟩; intro w hSw; (try dsimp only at hSw); (go_simp <;> with_reducible rfl))
      case h5a2_ => exact fun _ _ _ h => h
      try simp only [Act.put, List.setIfInBounds_toArray, List.set_cons_zero, List.set_cons_succ]
      refine wpAnyH_take (i := 1) (oi := ?ooa3_) (v := ?vva3_) ?hia3_ (by kernel_rfl) ?h3a3_ ?h4a3_ ?h5a3_ ?h6a3_ (by assumption) ?h8a3_
      case hia3_ => (simp only [List.getElem?_toArray, List.getElem?_cons_succ, List.getElem?_cons_zero]; rfl)
      case h3a3_ => kernel_rfl
      case h4a3_ => kernel_rfl
      case h6a3_ => (refine Or.inl ⟨by rfl, ?_⟩; intro w hSw; (try dsimp only at hSw); (go_simp <;> with_reducible rfl))
      case h5a3_ => exact fun _ _ _ h => h
      try simp only [Act.put, List.setIfInBounds_toArray, List.set_cons_zero, List.set_cons_succ]
      refine wpAnyH_take (i := 2) (oi := ?ooa4_) (v := ?vva4_) ?hia4_ (by kernel_rfl) ?h3a4_ ?h4a4_ ?h5a4_ ?h6a4_ (by assumption) ?h8a4_
      case hia4_ => (simp only [List.getElem?_toArray, List.getElem?_cons_succ, List.getElem?_cons_zero]; rfl)
      case h3a4_ => kernel_rfl
      case h4a4_ => kernel_rfl
      case h6a4_ => (refine Or.inl ⟨by rfl, ?_⟩; intro w hSw; (try dsimp only at hSw); (go_simp <;> with_reducible rfl))
      case h5a4_ => exact fun _ _ _ h => h
      try simp only [Act.put, List.setIfInBounds_toArray, List.set_cons_zero, List.set_cons_succ]
      refine wpAnyH_take (i := 3) (oi := ?ooa5_) (v := ?vva5_) ?hia5_ (by kernel_rfl) ?h3a5_ ?h4a5_ ?h5a5_ ?h6a5_ (by assumption) ?h8a5_
      case hia5_ => (simp only [List.getElem?_toArray, List.getElem?_cons_succ, List.getElem?_cons_zero]; rfl)
      case h3a5_ => kernel_rfl
      case h4a5_ => kernel_rfl
      case h6a5_ => (refine Or.inl ⟨by rfl, ?_⟩; intro w hSw; (try dsimp only at hSw); (go_simp <;> with_reducible rfl))
      case h5a5_ => exact fun _ _ _ h => h
      try simp only [Act.put, List.setIfInBounds_toArray, List.set_cons_zero, List.set_cons_succ]
      refine wpAnyH_take (i := 4) (oi := ?ooa6_) (v := ?vva6_) ?hia6_ (by kernel_rfl) ?h3a6_ ?h4a6_ ?h5a6_ ?h6a6_ (by assumption) ?h8a6_
      case hia6_ => (simp only [List.getElem?_toArray, List.getElem?_cons_succ, List.getElem?_cons_zero]; rfl)
      case h3a6_ => kernel_rfl
      case h4a6_ => kernel_rfl
      case h6a6_ => (refine Or.inl ⟨by rfl, ?_⟩; intro w hSw; (try dsimp only at hSw); (go_simp <;> with_reducible rfl))
      case h5a6_ => exact fun _ _ _ h => h
      try simp only [Act.put, List.setIfInBounds_toArray, List.set_cons_zero, List.set_cons_succ]
      refine wpAnyH_take (i := 5) (oi := ?ooa7_) (v := ?vva7_) ?hia7_ (by kernel_rfl) ?h3a7_ ?h4a7_ ?h5a7_ ?h6a7_ (by assumption) ?h8a7_
      case hia7_ => (simp only [List.getElem?_toArray, List.getElem?_cons_succ, List.getElem?_cons_zero]; rfl)
      case h3a7_ => kernel_rfl
      case h4a7_ => kernel_rfl
      case h6a7_ => (refine Or.inl ⟨by rfl, ?_⟩; intro w hSw; (try dsimp only at hSw); (go_simp <;> with_reducible rfl))
      case h5a7_ => exact fun _ _ _ h => h
      try simp only [Act.put, List.setIfInBounds_toArray, List.set_cons_zero, List.set_cons_succ]
      refine wpAnyH_take (i := 6) (oi := ?ooa8_) (v := ?vva8_) ?hia8_ (by kernel_rfl) ?h3a8_ ?h4a8_ ?h5a8_ ?h6a8_ (by assumption) ?h8a8_
      case hia8_ => (simp only [List.getElem?_toArray, List.getElem?_cons_succ, List.getElem?_cons_zero]; rfl)
      case h3a8_ => kernel_rfl
      case h4a8_ => kernel_rfl
      case h6a8_ => (refine Or.inl ⟨by rfl, ?_⟩; intro w hSw; (try dsimp only at hSw); (go_simp <;> with_reducible rfl))
      case h5a8_ => exact fun _ _ _ h => h
      try simp only [Act.put, List.setIfInBounds_toArray, List.set_cons_zero, List.set_cons_succ]
      refine wpAnyH_take (i := 7) (oi := ?ooa9_) (v := ?vva9_) ?hia9_ (by kernel_rfl) ?h3a9_ ?h4a9_ ?h5a9_ ?h6a9_ (by assumption) ?h8a9_
      case hia9_ => (simp only [List.getElem?_toArray, List.getElem?_cons_succ, List.getElem?_cons_zero]; rfl)
      case h3a9_ => kernel_rfl
      case h4a9_ => kernel_rfl
      case h6a9_ => (refine Or.inl ⟨by rfl, ?_⟩; intro w hSw; (try dsimp only at hSw); (go_simp <;> with_reducible rfl))
      case h5a9_ => exact fun _ _ _ h => h
      try simp only [Act.put, List.setIfInBounds_toArray, List.set_cons_zero, List.set_cons_succ]
      refine wpAnyH_ready (rs := [8]) (by kernel_rfl) (by simp) (AllReadyH.cons (o := ?ooa10_q0) ?hia10_q0 (fun K hK => ?hka10_q0) AllReadyH.nil)
      case hia10_q0 => (simp only [List.getElem?_toArray, List.getElem?_cons_succ, List.getElem?_cons_zero]; rfl)
      case hka10_q0 =>
        (rw [if_pos (by rfl)]; go_simp; refine (leqLr x _).mono ?_; rintro e q_ ⟨rfl, hb⟩; go_wp2_with fail; refine hK.out _ _ (HMK1.out _ (bel_tr hHeld.2 hb)) (fun hHeld => ?_); clear hK K)
        try simp only [Act.put, List.setIfInBounds_toArray, List.set_cons_zero, List.set_cons_succ]
        refine wpAnyH_take (i := 9) (oi := ?ooa11_) (v := ?vva11_) ?hia11_ (by kernel_rfl) ?h3a11_ ?h4a11_ ?h5a11_ ?h6a11_ (by assumption) ?h8a11_
        case hia11_ => (simp only [List.getElem?_toArray, List.getElem?_cons_succ, List.getElem?_cons_zero]; rfl)
        case h3a11_ => kernel_rfl
        case h4a11_ => kernel_rfl
        case h6a11_ => (refine Or.inl ⟨by rfl, ?_⟩; intro w hSw; (try dsimp only at hSw); (go_simp <;> with_reducible rfl))
        case h5a11_ => exact fun _ _ _ h => h
        try simp only [Act.put, List.setIfInBounds_toArray, List.set_cons_zero, List.set_cons_succ]
        refine wpAnyH_done (by kernel_rfl) ?_ _
        clear HMK1
        have B2 := bel_tr B hHeld.2
        clear hHeld
        go_wp2_with fail
        go_roundw
        case rel => exact ⟨k + 1, by omega, by go_num, B2⟩
        case measure => simp [intOf]; omega
    · go_wp2_with fail
      go_ret
      exact ⟨rfl, B⟩
end Go.Proofs.Ythagafkjlecagab
