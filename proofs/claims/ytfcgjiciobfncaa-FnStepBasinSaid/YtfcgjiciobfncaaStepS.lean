/- One hour of a basin, by the model. No condition. -/
import Derived.Test.YtfcgjiciobfncaaBasS
namespace Go.Proofs.Ytfcgjiciobfncaa
open Go.RowKit
set_option linter.unusedSimpArgs false
set_option linter.unusedVariables false
theorem stV_form (r h c w : Int) : ∃ x y u v, stV r h c w = .tuple #[.agg #[.int .i64 x, .int .i64 y], .int .i64 u, .int .i64 v] := by
  unfold stV; split
  · exact ⟨_, _, _, _, rfl⟩
  · exact ⟨_, _, _, _, rfl⟩
set_option maxHeartbeats 2000000 in
/-- spec.StepBasin -/
theorem sStep (r h c q : Int) (w : World) :
    Calls Try.prog 22 #[.agg #[.int .i64 r, .int .i64 h], .int .i64 c, .int .i64 q] w fun e w' => e = .returned (stV r h c q) ∧ Below w.heap.size w w' := by
  have CV := fun W => svb r h W
  cases hv : vbB r h with
  | false =>
    rw [hv] at CV
    rw [stV_no (stB_no (.inl hv))]
    clear hv
    go_enter Try.func22, Try.ntmps22
    go_wp2_with fail
    refine (CV _).mono ?_
    rintro e w1 ⟨rfl, hB⟩
    have K := (Blk.new (w.alloc (.cells #[.int .i64 r, .int .i64 h] 24)) 24 #[.int .i64 0, .int .i64 0]).next hB
    have J := ((Blk.new w 24 #[.int .i64 r, .int .i64 h]).alloc (.cells #[.int .i64 0, .int .i64 0] 24)).next hB
    have B : Below w.heap.size w w1 := bel_tr (by go_grown) hB
    rw [World.size_alloc] at K
    have hK := Lib.hid K
    obtain ⟨s0, s1, s2, s3, s4⟩ := blk_two K
    obtain ⟨j0, j1, _, _, _⟩ := blk_two J
    clear K hB J
    go_wp2_with fail
    refine bodyPost_ret (v := .tuple #[.agg #[.int .i64 0, .int .i64 0], .int .i64 0, .int .i64 0]) (by simp [results, Try.results22, go_sem, s0, s1]) rfl ⟨rfl, by go_grown⟩
  | true =>
    rw [hv] at CV
    by_cases h1 : c < 0 ∨ 500 < c
    · rw [stV_no (stB_no (.inr (.inl h1)))]
      clear hv
      go_enter Try.func22, Try.ntmps22
      go_wp2_with fail
      refine (CV _).mono ?_
      rintro e w1 ⟨rfl, hB⟩
      have K := (Blk.new (w.alloc (.cells #[.int .i64 r, .int .i64 h] 24)) 24 #[.int .i64 0, .int .i64 0]).next hB
      have J := ((Blk.new w 24 #[.int .i64 r, .int .i64 h]).alloc (.cells #[.int .i64 0, .int .i64 0] 24)).next hB
      have B : Below w.heap.size w w1 := bel_tr (by go_grown) hB
      rw [World.size_alloc] at K
      have hK := Lib.hid K
      obtain ⟨s0, s1, s2, s3, s4⟩ := blk_two K
      obtain ⟨j0, j1, _, _, _⟩ := blk_two J
      clear K hB J
      go_wp2_with fail
      refine (inRange_no c 0 500 _ h1).mono ?_
      rintro e w' ⟨rfl, rfl⟩
      go_wp2_with fail
      refine bodyPost_ret (v := .tuple #[.agg #[.int .i64 0, .int .i64 0], .int .i64 0, .int .i64 0]) (by simp [results, Try.results22, go_sem, s0, s1]) rfl ⟨rfl, by go_grown⟩
    by_cases h2 : q < 0 ∨ 500 < q
    · rw [stV_no (stB_no (.inr (.inr h2)))]
      have c0 : 0 ≤ c := by omega
      have c1 : c ≤ 500 := by omega
      clear hv h1
      go_enter Try.func22, Try.ntmps22
      go_wp2_with fail
      refine (CV _).mono ?_
      rintro e w1 ⟨rfl, hB⟩
      have K := (Blk.new (w.alloc (.cells #[.int .i64 r, .int .i64 h] 24)) 24 #[.int .i64 0, .int .i64 0]).next hB
      have J := ((Blk.new w 24 #[.int .i64 r, .int .i64 h]).alloc (.cells #[.int .i64 0, .int .i64 0] 24)).next hB
      have B : Below w.heap.size w w1 := bel_tr (by go_grown) hB
      rw [World.size_alloc] at K
      have hK := Lib.hid K
      obtain ⟨s0, s1, s2, s3, s4⟩ := blk_two K
      obtain ⟨j0, j1, _, _, _⟩ := blk_two J
      clear K hB J
      go_wp2_with fail
      refine (inRange_yes c 0 500 _ c0 c1).mono ?_
      rintro e w' ⟨rfl, rfl⟩
      go_wp2_with fail
      refine (inRange_no q 0 500 _ h2).mono ?_
      rintro e w' ⟨rfl, rfl⟩
      go_wp2_with fail
      refine bodyPost_ret (v := .tuple #[.agg #[.int .i64 0, .int .i64 0], .int .i64 0, .int .i64 0]) (by simp [results, Try.results22, go_sem, s0, s1]) rfl ⟨rfl, by go_grown⟩
    have c0 : 0 ≤ c := by omega
    have c1 : c ≤ 500 := by omega
    have q0 : 0 ≤ q := by omega
    have q1 : q ≤ 500 := by omega
    rw [stV_yes (stB_yes hv ⟨c0, c1⟩ ⟨q0, q1⟩)]
    have CH := fun W => sHour r h c q W hv ⟨c0, c1⟩ ⟨q0, q1⟩
    generalize stepH r h c q = s_ at CH
    generalize giveH h c q = g_ at CH
    generalize spillH r h c q = p_ at CH
    clear hv h1 h2
    go_enter Try.func22, Try.ntmps22
    go_wp2_with fail
    refine (CV _).mono ?_
    rintro e w1 ⟨rfl, hB⟩
    have K := (Blk.new (w.alloc (.cells #[.int .i64 r, .int .i64 h] 24)) 24 #[.int .i64 0, .int .i64 0]).next hB
    have J := ((Blk.new w 24 #[.int .i64 r, .int .i64 h]).alloc (.cells #[.int .i64 0, .int .i64 0] 24)).next hB
    have B : Below w.heap.size w w1 := bel_tr (by go_grown) hB
    rw [World.size_alloc] at K
    have hK := Lib.hid K
    obtain ⟨s0, s1, s2, s3, s4⟩ := blk_two K
    obtain ⟨j0, j1, _, _, _⟩ := blk_two J
    clear K hB J
    go_wp2_with fail
    refine (inRange_yes c 0 500 _ c0 c1).mono ?_
    rintro e w' ⟨rfl, rfl⟩
    go_wp2_with fail
    refine (inRange_yes q 0 500 _ q0 q1).mono ?_
    rintro e w' ⟨rfl, rfl⟩
    go_wp2_with fail
    refine (CH _).mono ?_
    rintro e w2 ⟨rfl, C⟩
    have B2 := bel_tr B C
    have K2 := hK.out.next C
    clear s0 s1 s2 s3 s4 j0 j1 C
    obtain ⟨s0, s1, s2, s3, s4⟩ := blk_two K2
    obtain ⟨f0, f1, _, _, _⟩ := blk_two (K2.two (.int .i64 r) (.int .i64 s_))
    go_wp2_with fail
    refine bodyPost_ret (v := .tuple #[.agg #[.int .i64 r, .int .i64 s_], .int .i64 g_, .int .i64 p_]) (by simp [results, Try.results22, go_sem, f0, f1]) rfl ⟨rfl, by go_grown⟩
end Go.Proofs.Ytfcgjiciobfncaa
