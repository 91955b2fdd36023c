/- Basins by the program: what is valid, one hour. Condition: at most 1048576 numbers. -/
import Derived.Test.YtigapnbpgbfbhacBasP
import Derived.Test.YtigapnbpgbfbhacVfl
import Derived.Test.YtigapnbpgbfbhacGrA
namespace Go.Proofs.Ytigapnbpgbfbhac
open Go.RowKit
set_option linter.unusedSimpArgs false
set_option linter.unusedVariables false
/-- impl.ValidBasin -/
theorem iVB (r h : Int) (w : World) :
    Calls Try.prog 55 #[.agg #[.int .i64 r, .int .i64 h]] w fun e w' => e = .returned (.bool (vbB r h)) ∧ Below w.heap.size w w' := by
  by_cases a : r < 0 ∨ 20000 < r
  · rw [vb_no (by omega)]
    go_enter Try.func55, Try.ntmps55
    go_wp2_with fail
    refine (iwithin_no r 20000 _ a).mono ?_
    rintro e w' ⟨rfl, rfl⟩
    go_wp2_with fail
    go_ret
    exact ⟨rfl, by go_grown⟩
  · have a1 : 0 ≤ r := by omega
    have a2 : r ≤ 20000 := by omega
    by_cases b : h < 0 ∨ r < h
    · rw [vb_no (by omega)]
      clear a
      go_enter Try.func55, Try.ntmps55
      go_wp2_with fail
      refine (iwithin_yes r 20000 _ a1 a2).mono ?_
      rintro e w' ⟨rfl, rfl⟩
      go_wp2_with fail
      refine (iwithin_no h r _ b).mono ?_
      rintro e w' ⟨rfl, rfl⟩
      go_wp2_with fail
      go_ret
      exact ⟨rfl, by go_grown⟩
    · have b1 : 0 ≤ h := by omega
      have b2 : h ≤ r := by omega
      rw [vb_iff.2 ⟨a1, a2, b1, b2⟩]
      clear a b
      go_enter Try.func55, Try.ntmps55
      go_wp2_with fail
      refine (iwithin_yes r 20000 _ a1 a2).mono ?_
      rintro e w' ⟨rfl, rfl⟩
      go_wp2_with fail
      refine (iwithin_yes h r _ b1 b2).mono ?_
      rintro e w' ⟨rfl, rfl⟩
      go_wp2_with fail
      go_ret
      exact ⟨rfl, by go_grown⟩
/-- impl.lesser -/
theorem ilesser (a b : Int) (w : World) :
    Calls Try.prog 72 #[.int .i64 a, .int .i64 b] w fun e w' => e = .returned (.int .i64 (min a b)) ∧ w = w' := by
  by_cases h : a < b
  · rw [show min a b = a from by omega]
    go_enter Try.func72, Try.ntmps72
    go_wp2_with fail
    go_ret
    exact ⟨rfl, rfl⟩
  · rw [show min a b = b from by omega]
    have e1 : decide (a < b) = false := decide_eq_false h
    clear h
    go_enter Try.func72, Try.ntmps72
    go_wp2_with fail
    go_ret
    exact ⟨rfl, rfl⟩
/-- impl.areHourPairs -/
theorem iPairs (a b : Option Addr) (ca cb : Nat) (cs ws : List Int) (w : World) (ha : IsInts w a cs) (hb : IsInts w b ws) (hc : cs.length ≤ 1048576) (hw : ws.length ≤ 1048576) :
    Calls Try.prog 69 #[.slice a cs.length ca, .slice b ws.length cb] w fun e w' => e = .returned (.bool (vdB cs ws)) ∧ w = w' := by
  have CA := iHours a ca cs w ha hc
  have CB := iHours b cb ws w hb hw
  unfold vdB
  change Calls _ _ _ _ fun e w' => e = .returned (.bool (vfl cs)) ∧ w = w' at CA
  change Calls _ _ _ _ fun e w' => e = .returned (.bool (vfl ws)) ∧ w = w' at CB
  clear ha hb
  by_cases hl : cs.length = ws.length
  · rw [decide_eq_true hl]
    have e1 : ((cs.length : Int) == (ws.length : Int)) = true := by rw [hl]; simp
    have HL := Lib.hid hl
    clear hl
    obtain ⟨x, hx⟩ : ∃ x, vfl cs = x := ⟨_, rfl⟩
    obtain ⟨y, hy⟩ : ∃ y, vfl ws = y := ⟨_, rfl⟩
    rw [hx, hy]
    rw [hx] at CA
    rw [hy] at CB
    clear hx hy
    cases x with
    | false =>
      go_enter Try.func69, Try.ntmps69
      go_wp2_with fail
      refine CA.mono ?_
      rintro e w' ⟨rfl, rfl⟩
      go_wp2_with fail
      go_ret
      exact ⟨rfl, rfl⟩
    | true =>
      go_enter Try.func69, Try.ntmps69
      go_wp2_with fail
      refine CA.mono ?_
      rintro e w' ⟨rfl, rfl⟩
      go_wp2_with fail
      refine CB.mono ?_
      rintro e w' ⟨rfl, rfl⟩
      go_wp2_with fail
      go_ret
      exact ⟨ret_bool (by simp), rfl⟩
  · rw [decide_eq_false hl, Bool.and_false, Bool.and_false]
    have e1 : ((cs.length : Int) == (ws.length : Int)) = false := by rw [beq_eq_false_iff_ne]; omega
    clear hl CA CB
    go_enter Try.func69, Try.ntmps69
    go_wp2_with fail
    go_ret
    exact ⟨rfl, rfl⟩
/-- impl.canRun -/
theorem iCanRun (r h : Int) (a b : Option Addr) (ca cb : Nat) (cs ws : List Int) (w : World) (ha : IsInts w a cs) (hb : IsInts w b ws) (hc : cs.length ≤ 1048576) (hw : ws.length ≤ 1048576) :
    Calls Try.prog 62 #[.agg #[.int .i64 r, .int .i64 h], .slice a cs.length ca, .slice b ws.length cb] w fun e w' => e = .returned (.bool (runBa r h cs ws)) ∧ Below w.heap.size w w' := by
  have CV := fun W => iVB r h W
  have CP := fun (W : World) (hW : Below w.heap.size w W) => iPairs a b ca cb cs ws W (ints_below ha hW) (ints_below hb hW) hc hw
  unfold runBa
  obtain ⟨x, hx⟩ : ∃ x, vbB r h = x := ⟨_, rfl⟩
  obtain ⟨y, hy⟩ : ∃ y, vdB cs ws = y := ⟨_, rfl⟩
  rw [hx] at CV
  rw [hy] at CP
  rw [hx, hy]
  have HP := Lib.hid CP
  clear hx hy CP ha hb
  cases x with
  | false =>
    go_enter Try.func62, Try.ntmps62
    go_wp2_with fail
    refine (CV _).mono ?_
    rintro e w1 ⟨rfl, hB⟩
    go_wp2_with fail
    go_ret
    exact ⟨rfl, bel_tr (by go_grown) hB⟩
  | true =>
    go_enter Try.func62, Try.ntmps62
    go_wp2_with fail
    refine (CV _).mono ?_
    rintro e w1 ⟨rfl, hB⟩
    have B : Below w.heap.size w w1 := bel_tr (by go_grown) hB
    go_wp2_with fail
    refine (HP.out w1 B).mono ?_
    rintro e w' ⟨rfl, rfl⟩
    go_wp2_with fail
    go_ret
    exact ⟨ret_bool (by simp), B⟩
/-- what StepBasin tells -/
def stB (r h c w : Int) : Bool := vbB r h && (decide (0 ≤ c) && decide (c ≤ 500)) && (decide (0 ≤ w) && decide (w ≤ 500))
def stV (r h c w : Int) : Value := if stB r h c w then .tuple #[.agg #[.int .i64 r, .int .i64 (stepH r h c w)], .int .i64 (giveH h c w), .int .i64 (spillH r h c w)] else .tuple #[.agg #[.int .i64 0, .int .i64 0], .int .i64 0, .int .i64 0]
theorem stV_no {r h c w : Int} (e : stB r h c w = false) : stV r h c w = .tuple #[.agg #[.int .i64 0, .int .i64 0], .int .i64 0, .int .i64 0] := by unfold stV; rw [e]; rfl
theorem stV_yes {r h c w : Int} (e : stB r h c w = true) : stV r h c w = .tuple #[.agg #[.int .i64 r, .int .i64 (stepH r h c w)], .int .i64 (giveH h c w), .int .i64 (spillH r h c w)] := by unfold stV; rw [e]; rfl
theorem stB_no {r h c w : Int} (e : vbB r h = false ∨ (c < 0 ∨ 500 < c) ∨ (w < 0 ∨ 500 < w)) : stB r h c w = false := by
  unfold stB
  rcases e with e | e | e
  · rw [e]; rfl
  · rw [show (decide (0 ≤ c) && decide (c ≤ 500)) = false from by simp; omega]; simp
  · rw [show (decide (0 ≤ w) && decide (w ≤ 500)) = false from by simp; omega]; simp
theorem stB_yes {r h c w : Int} (e : vbB r h = true) (a : 0 ≤ c ∧ c ≤ 500) (b : 0 ≤ w ∧ w ≤ 500) : stB r h c w = true := by
  unfold stB; rw [e, decide_eq_true a.1, decide_eq_true a.2, decide_eq_true b.1, decide_eq_true b.2]; rfl
set_option maxHeartbeats 2000000 in
/-- impl.StepBasin -/
theorem iStep (r h c q : Int) (w : World) :
    Calls Try.prog 70 #[.agg #[.int .i64 r, .int .i64 h], .int .i64 c, .int .i64 q] w fun e w' => e = .returned (stV r h c q) ∧ Below w.heap.size w w' := by
  have CV := fun W => iVB r h W
  cases hv : vbB r h with
  | false =>
    rw [hv] at CV
    rw [stV_no (stB_no (.inl hv))]
    clear hv
    go_enter Try.func70, Try.ntmps70
    go_wp2_with fail
    refine (CV _).mono ?_
    rintro e w1 ⟨rfl, hB⟩
    have K := (Blk.new (w.alloc (.cells #[.int .i64 r, .int .i64 h] 51)) 51 #[.int .i64 0, .int .i64 0]).next hB
    have J := ((Blk.new w 51 #[.int .i64 r, .int .i64 h]).alloc (.cells #[.int .i64 0, .int .i64 0] 51)).next hB
    have B : Below w.heap.size w w1 := bel_tr (by go_grown) hB
    rw [World.size_alloc] at K
    have hK := Lib.hid K
    obtain ⟨s0, s1, s2, s3, s4⟩ := blk_two K
    obtain ⟨j0, j1, _, _, _⟩ := blk_two J
    clear K hB J
    go_wp2_with fail
    refine bodyPost_ret (v := .tuple #[.agg #[.int .i64 0, .int .i64 0], .int .i64 0, .int .i64 0]) (by simp [results, Try.results70, go_sem, s0, s1]) rfl ⟨rfl, by go_grown⟩
  | true =>
    rw [hv] at CV
    by_cases h1 : c < 0 ∨ 500 < c
    · rw [stV_no (stB_no (.inr (.inl h1)))]
      clear hv
      go_enter Try.func70, Try.ntmps70
      go_wp2_with fail
      refine (CV _).mono ?_
      rintro e w1 ⟨rfl, hB⟩
      have K := (Blk.new (w.alloc (.cells #[.int .i64 r, .int .i64 h] 51)) 51 #[.int .i64 0, .int .i64 0]).next hB
      have J := ((Blk.new w 51 #[.int .i64 r, .int .i64 h]).alloc (.cells #[.int .i64 0, .int .i64 0] 51)).next hB
      have B : Below w.heap.size w w1 := bel_tr (by go_grown) hB
      rw [World.size_alloc] at K
      have hK := Lib.hid K
      obtain ⟨s0, s1, s2, s3, s4⟩ := blk_two K
      obtain ⟨j0, j1, _, _, _⟩ := blk_two J
      clear K hB J
      go_wp2_with fail
      refine (iwithin_no c 500 _ h1).mono ?_
      rintro e w' ⟨rfl, rfl⟩
      go_wp2_with fail
      refine bodyPost_ret (v := .tuple #[.agg #[.int .i64 0, .int .i64 0], .int .i64 0, .int .i64 0]) (by simp [results, Try.results70, go_sem, s0, s1]) rfl ⟨rfl, by go_grown⟩
    have h1 : 0 ≤ c ∧ c ≤ 500 := by omega
    by_cases h2 : q < 0 ∨ 500 < q
    · rw [stV_no (stB_no (.inr (.inr h2)))]
      clear hv
      go_enter Try.func70, Try.ntmps70
      go_wp2_with fail
      refine (CV _).mono ?_
      rintro e w1 ⟨rfl, hB⟩
      have K := (Blk.new (w.alloc (.cells #[.int .i64 r, .int .i64 h] 51)) 51 #[.int .i64 0, .int .i64 0]).next hB
      have J := ((Blk.new w 51 #[.int .i64 r, .int .i64 h]).alloc (.cells #[.int .i64 0, .int .i64 0] 51)).next hB
      have B : Below w.heap.size w w1 := bel_tr (by go_grown) hB
      rw [World.size_alloc] at K
      have hK := Lib.hid K
      obtain ⟨s0, s1, s2, s3, s4⟩ := blk_two K
      obtain ⟨j0, j1, _, _, _⟩ := blk_two J
      clear K hB J
      go_wp2_with fail
      refine (iwithin_yes c 500 _ h1.1 h1.2).mono ?_
      rintro e w' ⟨rfl, rfl⟩
      go_wp2_with fail
      refine (iwithin_no q 500 _ h2).mono ?_
      rintro e w' ⟨rfl, rfl⟩
      go_wp2_with fail
      refine bodyPost_ret (v := .tuple #[.agg #[.int .i64 0, .int .i64 0], .int .i64 0, .int .i64 0]) (by simp [results, Try.results70, go_sem, s0, s1]) rfl ⟨rfl, by go_grown⟩
    have h2 : 0 ≤ q ∧ q ≤ 500 := by omega
    obtain ⟨r0, r1, r2, r3⟩ := vb_iff.1 hv
    have HV := Lib.hid (stV_yes (stB_yes hv h1 h2))
    obtain ⟨c0, c1⟩ := h1
    obtain ⟨q0, q1⟩ := h2
    clear hv
    obtain ⟨g, hg⟩ : ∃ g, giveH h c q = g := ⟨_, rfl⟩
    obtain ⟨s, hs⟩ : ∃ s, stepH r h c q = s := ⟨_, rfl⟩
    have hgd : min q (h + c) = g := hg
    have hsd : min (h + c - g) r = s := by rw [← hs, ← hg]; unfold stepH; omega
    have HG := Lib.hid hg
    have HS := Lib.hid hs
    have g0 : 0 ≤ g := by omega
    have g1 : g ≤ q := by omega
    have g2 : g ≤ h + c := by omega
    have C1 := fun W => ilesser q (h + c) W
    have C2 := fun W => ilesser (h + c - g) r W
    rw [hgd] at C1
    rw [hsd] at C2
    have s0 : 0 ≤ s := by omega
    have s1 : s ≤ h + c - g := by omega
    clear hg hs hgd hsd
    go_enter Try.func70, Try.ntmps70
    go_wp2_with fail
    refine (CV _).mono ?_
    rintro e w1 ⟨rfl, hB⟩
    have K := (Blk.new (w.alloc (.cells #[.int .i64 r, .int .i64 h] 51)) 51 #[.int .i64 0, .int .i64 0]).next hB
    have J := ((Blk.new w 51 #[.int .i64 r, .int .i64 h]).alloc (.cells #[.int .i64 0, .int .i64 0] 51)).next hB
    have B : Below w.heap.size w w1 := bel_tr (by go_grown) hB
    rw [World.size_alloc] at K
    have hK := Lib.hid K
    obtain ⟨s0, s1, s2, s3, s4⟩ := blk_two K
    obtain ⟨j0, j1, _, _, _⟩ := blk_two J
    clear K hB J
    go_wp2_with fail
    refine (iwithin_yes c 500 _ c0 c1).mono ?_
    rintro e w' ⟨rfl, rfl⟩
    go_wp2_with fail
    refine (iwithin_yes q 500 _ q0 q1).mono ?_
    rintro e w' ⟨rfl, rfl⟩
    go_wp2_with fail
    refine (C1 _).mono ?_
    rintro e w' ⟨rfl, rfl⟩
    go_wp2_with fail
    refine (C2 _).mono ?_
    rintro e w' ⟨rfl, rfl⟩
    go_wp2_with fail
    obtain ⟨f0, f1, _, _, _⟩ := blk_two (hK.out.two (.int .i64 r) (.int .i64 s))
    refine bodyPost_ret (v := .tuple #[.agg #[.int .i64 r, .int .i64 s], .int .i64 g, .int .i64 (h + c - g - s)]) (by simp [results, Try.results70, go_sem, f0, f1]) rfl ⟨?_, by go_grown⟩
    rw [HV.out, HS.out]
    unfold spillH
    rw [HS.out, HG.out]
end Go.Proofs.Ytigapnbpgbfbhac
