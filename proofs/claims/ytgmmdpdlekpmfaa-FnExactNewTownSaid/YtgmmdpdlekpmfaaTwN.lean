/- NewTown, by both. No condition. -/
import Derived.Test.YtgmmdpdlekpmfaaTwU
namespace Go.Proofs.Ytgmmdpdlekpmfaa
open Go.RowKit
set_option linter.unusedSimpArgs false
set_option linter.unusedVariables false
set_option maxRecDepth 100000 in
set_option maxHeartbeats 4000000 in
/-- impl.NewTown -/
theorem iNewTown (o r rt : Int) (w : World) :
    Calls Try.prog 18 #[.int .i64 o, .int .i64 r, .int .i64 rt] w (OutTw w (newT o r rt)) := by
  obtain ⟨b1, e1⟩ : ∃ b, inB3 o 1 999 = b := ⟨_, rfl⟩
  obtain ⟨b2, e2⟩ : ∃ b, inB3 r 0 20000 = b := ⟨_, rfl⟩
  obtain ⟨b3, e3⟩ : ∃ b, inB3 rt 0 500 = b := ⟨_, rfl⟩
  have E1 := Lib.hid e1
  have E2 := Lib.hid e2
  have E3 := Lib.hid e3
  obtain ⟨R, hR⟩ : ∃ R, newT o r rt = R := ⟨_, rfl⟩
  rw [hR]
  unfold newT at hR
  rw [e1, e2, e3] at hR
  have HR := Lib.hid hR
  clear e1 e2 e3 hR
  have B : Below w.heap.size w (w.alloc (.cells #[.slice none 0 0, .slice none 0 0, .slice none 0 0, .int .i64 0, .int .i64 0, .slice none 0 0, .int .i64 0, .int .i64 0, .int .i64 0, .int .i64 0] 38)) := (Below.refl _ w).alloc (Nat.le_refl _) _
  have K := Blk.new w 38 #[.slice none 0 0, .slice none 0 0, .slice none 0 0, .int .i64 0, .int .i64 0, .slice none 0 0, .int .i64 0, .int .i64 0, .int .i64 0, .int .i64 0]
  go_enter Try.func18, Try.ntmps18
  go_wp2_with fail
  refine (iowner3 o _).mono ?_
  rintro e u ⟨rfl, rfl⟩
  rw [E1.out]
  cases b1 with
  | false =>
    go_wp2_with fail
    obtain ⟨q0, q1, q2, q3, q4, q5, q6, q7, q8, q9⟩ := town_cells K
    refine bodyPost_ret (v := twV TA.zero Tw.zero) (by simp [results, Try.results18, go_sem, q0, q1, q2, q3, q4, q5, q6, q7, q8, q9, twV, TA.zero, Tw.zero]) rfl ⟨TA.zero, by rw [← HR.out]; rfl, by rw [← HR.out]; exact TwO.zero _ _, B⟩
  | true =>
    go_wp2_with fail
    refine (iwithin3 r 20000 _).mono ?_
    rintro e u ⟨rfl, rfl⟩
    rw [E2.out]
    cases b2 with
    | false =>
      go_wp2_with fail
      obtain ⟨q0, q1, q2, q3, q4, q5, q6, q7, q8, q9⟩ := town_cells K
      refine bodyPost_ret (v := twV TA.zero Tw.zero) (by simp [results, Try.results18, go_sem, q0, q1, q2, q3, q4, q5, q6, q7, q8, q9, twV, TA.zero, Tw.zero]) rfl ⟨TA.zero, by rw [← HR.out]; rfl, by rw [← HR.out]; exact TwO.zero _ _, B⟩
    | true =>
      go_wp2_with fail
      refine (iwithin3 rt 500 _).mono ?_
      rintro e u ⟨rfl, rfl⟩
      rw [E3.out]
      cases b3 with
      | false =>
        go_wp2_with fail
        obtain ⟨q0, q1, q2, q3, q4, q5, q6, q7, q8, q9⟩ := town_cells K
        refine bodyPost_ret (v := twV TA.zero Tw.zero) (by simp [results, Try.results18, go_sem, q0, q1, q2, q3, q4, q5, q6, q7, q8, q9, twV, TA.zero, Tw.zero]) rfl ⟨TA.zero, by rw [← HR.out]; rfl, by rw [← HR.out]; exact TwO.zero _ _, B⟩
      | true =>
        go_wp2_with fail
        have K1 := Blk.new w 38 #[.slice (some ⟨w.heap.size + 1, 0, none⟩) 1 1, .slice (some ⟨w.heap.size + 1 + 1, 0, none⟩) 1 1, .slice (some ⟨w.heap.size + 1 + 1 + 1, 0, none⟩) 1 1, .int .i64 r, .int .i64 0, .slice none 0 0, .int .i64 rt, .int .i64 0, .int .i64 0, .int .i64 0]
        have B1 : Below w.heap.size w (w.alloc (.cells #[.slice (some ⟨w.heap.size + 1, 0, none⟩) 1 1, .slice (some ⟨w.heap.size + 1 + 1, 0, none⟩) 1 1, .slice (some ⟨w.heap.size + 1 + 1 + 1, 0, none⟩) 1 1, .int .i64 r, .int .i64 0, .slice none 0 0, .int .i64 rt, .int .i64 0, .int .i64 0, .int .i64 0] 38)) := (Below.refl _ w).alloc (Nat.le_refl _) _
        have z1 : (w.alloc (.cells #[.slice (some ⟨w.heap.size + 1, 0, none⟩) 1 1, .slice (some ⟨w.heap.size + 1 + 1, 0, none⟩) 1 1, .slice (some ⟨w.heap.size + 1 + 1 + 1, 0, none⟩) 1 1, .int .i64 r, .int .i64 0, .slice none 0 0, .int .i64 rt, .int .i64 0, .int .i64 0, .int .i64 0] 38)).heap.size = w.heap.size + 1 := by simp
        generalize w.alloc (.cells #[.slice (some ⟨w.heap.size + 1, 0, none⟩) 1 1, .slice (some ⟨w.heap.size + 1 + 1, 0, none⟩) 1 1, .slice (some ⟨w.heap.size + 1 + 1 + 1, 0, none⟩) 1 1, .int .i64 r, .int .i64 0, .slice none 0 0, .int .i64 rt, .int .i64 0, .int .i64 0, .int .i64 0] 38) = W1 at K1 B1 z1 ⊢
        have F1 : Flat (W1.alloc (.cells #[.int .i64 o, .int .i64 1, .int .i64 1] 97)) W1.heap.size 97 [o, 1, 1] := flatN_new W1 _ [o, 1, 1]
        rw [z1] at F1
        have K2 := K1.alloc (.cells #[.int .i64 o, .int .i64 1, .int .i64 1] 97)
        have B2 := B1.alloc B1.size (.cells #[.int .i64 o, .int .i64 1, .int .i64 1] 97)
        have z2 : (W1.alloc (.cells #[.int .i64 o, .int .i64 1, .int .i64 1] 97)).heap.size = w.heap.size + 1 + 1 := by simp [z1]
        generalize W1.alloc (.cells #[.int .i64 o, .int .i64 1, .int .i64 1] 97) = W2 at F1 K2 B2 z2 ⊢
        have F2 : Flat (W2.alloc (.cells #[.int .i64 o, .int .i64 24] 99)) W2.heap.size 99 [o, 24] := flatN_new W2 _ [o, 24]
        rw [z2] at F2
        have F1b := flat_alloc F1 (.cells #[.int .i64 o, .int .i64 24] 99)
        have K3 := K2.alloc (.cells #[.int .i64 o, .int .i64 24] 99)
        have B3 := B2.alloc B2.size (.cells #[.int .i64 o, .int .i64 24] 99)
        have z3 : (W2.alloc (.cells #[.int .i64 o, .int .i64 24] 99)).heap.size = w.heap.size + 1 + 1 + 1 := by simp [z2]
        generalize W2.alloc (.cells #[.int .i64 o, .int .i64 24] 99) = W3 at F1b F2 K3 B3 z3 ⊢
        have F3 : Flat (W3.alloc (.cells #[.int .i64 (-1), .int .i64 0, .int .i64 0, .int .i64 500, .int .i64 0] 101)) W3.heap.size 101 [-1, 0, 0, 500, 0] := flatN_new W3 _ [-1, 0, 0, 500, 0]
        rw [z3] at F3
        have F1c := flat_alloc F1b (.cells #[.int .i64 (-1), .int .i64 0, .int .i64 0, .int .i64 500, .int .i64 0] 101)
        have F2c := flat_alloc F2 (.cells #[.int .i64 (-1), .int .i64 0, .int .i64 0, .int .i64 500, .int .i64 0] 101)
        have K4 := K3.alloc (.cells #[.int .i64 (-1), .int .i64 0, .int .i64 0, .int .i64 500, .int .i64 0] 101)
        have B4 := B3.alloc B3.size (.cells #[.int .i64 (-1), .int .i64 0, .int .i64 0, .int .i64 500, .int .i64 0] 101)
        generalize W3.alloc (.cells #[.int .i64 (-1), .int .i64 0, .int .i64 0, .int .i64 500, .int .i64 0] 101) = W4 at F1c F2c F3 K4 B4 ⊢
        obtain ⟨q0, q1, q2, q3, q4, q5, q6, q7, q8, q9⟩ := town_cells K4
        have HT : (⟨[(o, 1, 1)], [(o, 24)], [(-1, 0, 0, 500, 0)], r, 0, [], rt, 0, 0, 0⟩ : Tw) = R := HR.out
        refine bodyPost_ret (v := twV ⟨some ⟨w.heap.size + 1, 0, none⟩, 1, some ⟨w.heap.size + 1 + 1, 0, none⟩, 1, some ⟨w.heap.size + 1 + 1 + 1, 0, none⟩, 1, none, 0⟩ R) (by rw [← HT]; simp [results, Try.results18, go_sem, q0, q1, q2, q3, q4, q5, q6, q7, q8, q9, twV]) rfl ⟨_, rfl, ?_, B4⟩
        rw [← HT]
        exact ⟨.inr ⟨_, _, rfl, by omega, F1c, Nat.le_refl _⟩, by simp, .inr ⟨_, _, rfl, by omega, F2c, Nat.le_refl _⟩, by simp, .inr ⟨_, _, rfl, by omega, F3, Nat.le_refl _⟩, by simp, .inl ⟨rfl, rfl⟩, by simp⟩
set_option maxRecDepth 100000 in
set_option maxHeartbeats 4000000 in
/-- spec.NewTown -/
theorem sNewTown (o r rt : Int) (w : World) :
    Calls Try.prog 17 #[.int .i64 o, .int .i64 r, .int .i64 rt] w (OutTw w (newT o r rt)) := by
  obtain ⟨b1, e1⟩ : ∃ b, inB3 o 1 999 = b := ⟨_, rfl⟩
  obtain ⟨b2, e2⟩ : ∃ b, inB3 r 0 20000 = b := ⟨_, rfl⟩
  obtain ⟨b3, e3⟩ : ∃ b, inB3 rt 0 500 = b := ⟨_, rfl⟩
  have E1 := Lib.hid e1
  have E2 := Lib.hid e2
  have E3 := Lib.hid e3
  obtain ⟨R, hR⟩ : ∃ R, newT o r rt = R := ⟨_, rfl⟩
  rw [hR]
  unfold newT at hR
  rw [e1, e2, e3] at hR
  have HR := Lib.hid hR
  clear e1 e2 e3 hR
  have B : Below w.heap.size w (w.alloc (.cells #[.slice none 0 0, .slice none 0 0, .slice none 0 0, .int .i64 0, .int .i64 0, .slice none 0 0, .int .i64 0, .int .i64 0, .int .i64 0, .int .i64 0] 38)) := (Below.refl _ w).alloc (Nat.le_refl _) _
  have K := Blk.new w 38 #[.slice none 0 0, .slice none 0 0, .slice none 0 0, .int .i64 0, .int .i64 0, .slice none 0 0, .int .i64 0, .int .i64 0, .int .i64 0, .int .i64 0]
  go_enter Try.func17, Try.ntmps17
  go_wp2_with fail
  refine (srange3 o 1 999 _).mono ?_
  rintro e u ⟨rfl, rfl⟩
  rw [E1.out]
  cases b1 with
  | false =>
    go_wp2_with fail
    obtain ⟨q0, q1, q2, q3, q4, q5, q6, q7, q8, q9⟩ := town_cells K
    refine bodyPost_ret (v := twV TA.zero Tw.zero) (by simp [results, Try.results17, go_sem, q0, q1, q2, q3, q4, q5, q6, q7, q8, q9, twV, TA.zero, Tw.zero]) rfl ⟨TA.zero, by rw [← HR.out]; rfl, by rw [← HR.out]; exact TwO.zero _ _, B⟩
  | true =>
    go_wp2_with fail
    refine (srange3 r 0 20000 _).mono ?_
    rintro e u ⟨rfl, rfl⟩
    rw [E2.out]
    cases b2 with
    | false =>
      go_wp2_with fail
      obtain ⟨q0, q1, q2, q3, q4, q5, q6, q7, q8, q9⟩ := town_cells K
      refine bodyPost_ret (v := twV TA.zero Tw.zero) (by simp [results, Try.results17, go_sem, q0, q1, q2, q3, q4, q5, q6, q7, q8, q9, twV, TA.zero, Tw.zero]) rfl ⟨TA.zero, by rw [← HR.out]; rfl, by rw [← HR.out]; exact TwO.zero _ _, B⟩
    | true =>
      go_wp2_with fail
      refine (srange3 rt 0 500 _).mono ?_
      rintro e u ⟨rfl, rfl⟩
      rw [E3.out]
      cases b3 with
      | false =>
        go_wp2_with fail
        obtain ⟨q0, q1, q2, q3, q4, q5, q6, q7, q8, q9⟩ := town_cells K
        refine bodyPost_ret (v := twV TA.zero Tw.zero) (by simp [results, Try.results17, go_sem, q0, q1, q2, q3, q4, q5, q6, q7, q8, q9, twV, TA.zero, Tw.zero]) rfl ⟨TA.zero, by rw [← HR.out]; rfl, by rw [← HR.out]; exact TwO.zero _ _, B⟩
      | true =>
        go_wp2_with fail
        have K1 := Blk.new w 38 #[.slice (some ⟨w.heap.size + 1, 0, none⟩) 1 1, .slice (some ⟨w.heap.size + 1 + 1, 0, none⟩) 1 1, .slice (some ⟨w.heap.size + 1 + 1 + 1, 0, none⟩) 1 1, .int .i64 r, .int .i64 0, .slice none 0 0, .int .i64 rt, .int .i64 0, .int .i64 0, .int .i64 0]
        have B1 : Below w.heap.size w (w.alloc (.cells #[.slice (some ⟨w.heap.size + 1, 0, none⟩) 1 1, .slice (some ⟨w.heap.size + 1 + 1, 0, none⟩) 1 1, .slice (some ⟨w.heap.size + 1 + 1 + 1, 0, none⟩) 1 1, .int .i64 r, .int .i64 0, .slice none 0 0, .int .i64 rt, .int .i64 0, .int .i64 0, .int .i64 0] 38)) := (Below.refl _ w).alloc (Nat.le_refl _) _
        have z1 : (w.alloc (.cells #[.slice (some ⟨w.heap.size + 1, 0, none⟩) 1 1, .slice (some ⟨w.heap.size + 1 + 1, 0, none⟩) 1 1, .slice (some ⟨w.heap.size + 1 + 1 + 1, 0, none⟩) 1 1, .int .i64 r, .int .i64 0, .slice none 0 0, .int .i64 rt, .int .i64 0, .int .i64 0, .int .i64 0] 38)).heap.size = w.heap.size + 1 := by simp
        generalize w.alloc (.cells #[.slice (some ⟨w.heap.size + 1, 0, none⟩) 1 1, .slice (some ⟨w.heap.size + 1 + 1, 0, none⟩) 1 1, .slice (some ⟨w.heap.size + 1 + 1 + 1, 0, none⟩) 1 1, .int .i64 r, .int .i64 0, .slice none 0 0, .int .i64 rt, .int .i64 0, .int .i64 0, .int .i64 0] 38) = W1 at K1 B1 z1 ⊢
        have F1 : Flat (W1.alloc (.cells #[.int .i64 o, .int .i64 1, .int .i64 1] 97)) W1.heap.size 97 [o, 1, 1] := flatN_new W1 _ [o, 1, 1]
        rw [z1] at F1
        have K2 := K1.alloc (.cells #[.int .i64 o, .int .i64 1, .int .i64 1] 97)
        have B2 := B1.alloc B1.size (.cells #[.int .i64 o, .int .i64 1, .int .i64 1] 97)
        have z2 : (W1.alloc (.cells #[.int .i64 o, .int .i64 1, .int .i64 1] 97)).heap.size = w.heap.size + 1 + 1 := by simp [z1]
        generalize W1.alloc (.cells #[.int .i64 o, .int .i64 1, .int .i64 1] 97) = W2 at F1 K2 B2 z2 ⊢
        have F2 : Flat (W2.alloc (.cells #[.int .i64 o, .int .i64 24] 99)) W2.heap.size 99 [o, 24] := flatN_new W2 _ [o, 24]
        rw [z2] at F2
        have F1b := flat_alloc F1 (.cells #[.int .i64 o, .int .i64 24] 99)
        have K3 := K2.alloc (.cells #[.int .i64 o, .int .i64 24] 99)
        have B3 := B2.alloc B2.size (.cells #[.int .i64 o, .int .i64 24] 99)
        have z3 : (W2.alloc (.cells #[.int .i64 o, .int .i64 24] 99)).heap.size = w.heap.size + 1 + 1 + 1 := by simp [z2]
        generalize W2.alloc (.cells #[.int .i64 o, .int .i64 24] 99) = W3 at F1b F2 K3 B3 z3 ⊢
        have F3 : Flat (W3.alloc (.cells #[.int .i64 (-1), .int .i64 0, .int .i64 0, .int .i64 500, .int .i64 0] 101)) W3.heap.size 101 [-1, 0, 0, 500, 0] := flatN_new W3 _ [-1, 0, 0, 500, 0]
        rw [z3] at F3
        have F1c := flat_alloc F1b (.cells #[.int .i64 (-1), .int .i64 0, .int .i64 0, .int .i64 500, .int .i64 0] 101)
        have F2c := flat_alloc F2 (.cells #[.int .i64 (-1), .int .i64 0, .int .i64 0, .int .i64 500, .int .i64 0] 101)
        have K4 := K3.alloc (.cells #[.int .i64 (-1), .int .i64 0, .int .i64 0, .int .i64 500, .int .i64 0] 101)
        have B4 := B3.alloc B3.size (.cells #[.int .i64 (-1), .int .i64 0, .int .i64 0, .int .i64 500, .int .i64 0] 101)
        generalize W3.alloc (.cells #[.int .i64 (-1), .int .i64 0, .int .i64 0, .int .i64 500, .int .i64 0] 101) = W4 at F1c F2c F3 K4 B4 ⊢
        obtain ⟨q0, q1, q2, q3, q4, q5, q6, q7, q8, q9⟩ := town_cells K4
        have HT : (⟨[(o, 1, 1)], [(o, 24)], [(-1, 0, 0, 500, 0)], r, 0, [], rt, 0, 0, 0⟩ : Tw) = R := HR.out
        refine bodyPost_ret (v := twV ⟨some ⟨w.heap.size + 1, 0, none⟩, 1, some ⟨w.heap.size + 1 + 1, 0, none⟩, 1, some ⟨w.heap.size + 1 + 1 + 1, 0, none⟩, 1, none, 0⟩ R) (by rw [← HT]; simp [results, Try.results17, go_sem, q0, q1, q2, q3, q4, q5, q6, q7, q8, q9, twV]) rfl ⟨_, rfl, ?_, B4⟩
        rw [← HT]
        exact ⟨.inr ⟨_, _, rfl, by omega, F1c, Nat.le_refl _⟩, by simp, .inr ⟨_, _, rfl, by omega, F2c, Nat.le_refl _⟩, by simp, .inr ⟨_, _, rfl, by omega, F3, Nat.le_refl _⟩, by simp, .inl ⟨rfl, rfl⟩, by simp⟩
theorem newT_small (o r rt : Int) : (newT o r rt).hs.length ≤ 1 ∧ (newT o r rt).ts.length ≤ 1 ∧ (newT o r rt).ns.length ≤ 1 ∧ (newT o r rt).ac.length ≤ 1 := by
  unfold newT
  split
  · exact ⟨Nat.le_refl _, Nat.le_refl _, Nat.le_refl _, Nat.zero_le _⟩
  · exact ⟨Nat.zero_le _, Nat.zero_le _, Nat.zero_le _, Nat.zero_le _⟩
end Go.Proofs.Ytgmmdpdlekpmfaa
