/- Least rooms and waters, by the program. Condition: at most 1048576 numbers. -/
import Derived.Test.YtfcgjiciobfncaaRunT
import Derived.Test.YtfcgjiciobfncaaBis
import Derived.Deep.RegionHeld3
namespace Go.Proofs.Ytfcgjiciobfncaa
open Go.RowKit
set_option linter.unusedSimpArgs false
set_option linter.unusedVariables false
set_option maxRecDepth 100000 in
set_option maxHeartbeats 4000000 in
/-- impl.LeastRoom -/
theorem iLroom (n : Int) (a b : Option Addr) (ca cb : Nat) (cs ws : List Int) (w : World) (ha : IsInts w a cs) (hb : IsInts w b ws) (hc : cs.length ≤ 1048576) (hw : ws.length ≤ 1048576) :
    Calls Try.prog 36 #[.int .i64 n, .slice a cs.length ca, .slice b ws.length cb] w fun e w' => e = .returned (.int .i64 (lroomV n cs ws)) ∧ Below w.heap.size w w' := by
  have CT := iShort 20000 n a b ca cb cs ws w ha hb hc hw
  by_cases hs : shortV 20000 n cs ws = 0
  · obtain ⟨hrun, hsz⟩ := short_zero hs
    rw [hs] at CT
    have CAT : ∀ (r h : Int), runBa r h cs ws = true → ∀ W : World, Below w.heap.size w W → Calls Try.prog 33 #[.agg #[.int .i64 r, .int .i64 h], .slice a cs.length ca, .slice b ws.length cb] W fun e w' => e = .returned (.int .i64 (shortB r h (hrs cs ws))) ∧ Below W.heap.size W w' := fun r h e W hW => by
      have := iShort r h a b ca cb cs ws W (ints_below ha hW) (ints_below hb hW) hc hw
      rw [(short_at e).1] at this; exact this
    have HCAT := Lib.hid CAT
    clear CAT
    have HTOP : Hid (roomOk n cs ws 20000 = true) := decide_eq_true hsz
    have HRUN := Lib.hid hrun
    obtain ⟨r0, r1, r2, r3⟩ := (run_is hrun).1
    clear hs hsz hrun ha hb
    go_enter Try.func36, Try.ntmps36
    go_wp2_with fail
    refine (CT).mono ?_
    rintro e w1 ⟨rfl, C⟩
    have HB0 := Lib.hid C
    clear C CT
    go_wp2_with fail
    go_loopw [7, 8] (fun a1 a2 wr => ∃ lo hi : Int, a1 = .int .i64 lo ∧ a2 = .int .i64 hi ∧ n ≤ lo ∧ lo ≤ hi ∧ hi ≤ 20000 ∧ Hid (roomOk n cs ws hi = true ∧ (∀ x, n ≤ x → x < lo → roomOk n cs ws x = false) ∧ Below w.heap.size w wr)) (fun a1 a2 _ => (intOf a2 - intOf a1).toNat)
    case atStart => exact ⟨n, 20000, rfl, rfl, Int.le_refl _, by omega, Int.le_refl _, HTOP.out, (fun x h1 h2 => by omega), HB0.out⟩
    case round =>
      obtain ⟨lo, hi, rfl, rfl, l1, l2, l3, HR⟩ := hrel
      by_cases hlt : lo < hi
      · obtain ⟨m, hm⟩ : ∃ m, (lo + hi) / 2 = m := ⟨_, rfl⟩
        have m1 : lo ≤ m := by omega
        have m2 : m < hi := by omega
        have w1_ : IntKind.i64.wrap (lo + hi) = lo + hi := by rw [IntKind.wrap_i64]; omega
        have w2_ : Int.tdiv (lo + hi) 2 = m := by rw [Int.tdiv_eq_ediv_of_nonneg (by omega)]; exact hm
        have w3_ : IntKind.i64.wrap m = m := by rw [IntKind.wrap_i64]; omega
        have w4_ : IntKind.i64.wrap (m + 1) = m + 1 := by rw [IntKind.wrap_i64]; omega
        have hrun := run_at (r' := m) (h' := n) HRUN.out (by omega) (by omega) (by omega) (by omega)
        have hsn := (short_at hrun).2
        have CM := HCAT.out m n hrun wr HR.out.2.2
        have hp : roomOk n cs ws m = decide (shortB m n (hrs cs ws) = 0) := rfl
        generalize shortB m n (hrs cs ws) = sv at hsn CM hp
        have HP := Lib.hid hp
        have HM := Lib.hid hm
        clear hrun hp hm
        by_cases hz : sv = 0
        · have e1 : decide (0 < sv) = false := decide_eq_false (by omega)
          have HN : Hid (roomOk n cs ws m = true ∧ (∀ x, n ≤ x → x < lo → roomOk n cs ws x = false)) := ⟨by rw [HP.out]; exact decide_eq_true hz, HR.out.2.1⟩
          have HBR := Lib.hid HR.out.2.2
          clear HR HP
          go_wp2_with fail
          refine CM.mono ?_
          rintro e w2 ⟨rfl, C⟩
          have hB2 := bel_tr HBR.out C
          clear C
          go_wp2_with fail
          go_roundw
          case rel => exact ⟨lo, m, rfl, by simp [w2_, w3_], l1, m1, by omega, HN.out.1, HN.out.2, hB2⟩
          case measure => simp [intOf, w2_, w3_]; omega
        · have e1 : decide (0 < sv) = true := decide_eq_true (by omega)
          have HN : Hid (roomOk n cs ws hi = true ∧ (∀ x, n ≤ x → x < m + 1 → roomOk n cs ws x = false)) := ⟨HR.out.1, bis_lo (up_room HRUN.out) (by rw [HP.out]; exact decide_eq_false hz) (by omega)⟩
          have HBR := Lib.hid HR.out.2.2
          clear HR HP
          go_wp2_with fail
          refine CM.mono ?_
          rintro e w2 ⟨rfl, C⟩
          have hB2 := bel_tr HBR.out C
          clear C
          go_wp2_with fail
          go_roundw
          case rel => exact ⟨m + 1, hi, by simp [w2_, w3_, w4_], rfl, by omega, by omega, l3, HN.out.1, HN.out.2, hB2⟩
          case measure => simp [intOf, w2_, w3_, w4_]; omega
      · obtain rfl : lo = hi := by omega
        have HV : Hid (lroomV n cs ws = lo) := lroom_yes HRUN.out l1 l3 HR.out.1 HR.out.2.1
        have HBR := Lib.hid HR.out.2.2
        clear HR
        go_wp2_with fail
        go_ret
        exact ⟨ret_int HV.out.symm, HBR.out⟩
  · have HN := Lib.hid (lroom_no hs)
    have e1 : (shortV 20000 n cs ws == 0) = false := by rw [beq_eq_false_iff_ne]; exact hs
    have e2 : (shortV 20000 n cs ws != 0) = true := by rw [bne_iff_ne]; exact hs
    generalize shortV 20000 n cs ws = sv at CT e1 e2 hs
    clear ha hb
    go_enter Try.func36, Try.ntmps36
    go_wp2_with fail
    refine (CT).mono ?_
    rintro e w1 ⟨rfl, C⟩
    go_wp2_with fail
    go_ret
    exact ⟨ret_int HN.out.symm, C⟩
set_option maxRecDepth 100000 in
set_option maxHeartbeats 4000000 in
/-- impl.LeastHeld -/
theorem iLheld (n : Int) (a b : Option Addr) (ca cb : Nat) (cs ws : List Int) (w : World) (ha : IsInts w a cs) (hb : IsInts w b ws) (hc : cs.length ≤ 1048576) (hw : ws.length ≤ 1048576) :
    Calls Try.prog 39 #[.int .i64 n, .slice a cs.length ca, .slice b ws.length cb] w fun e w' => e = .returned (.int .i64 (lheldV n cs ws)) ∧ Below w.heap.size w w' := by
  have CT := iShort n n a b ca cb cs ws w ha hb hc hw
  by_cases hs : shortV n n cs ws = 0
  · obtain ⟨hrun, hsz⟩ := short_zero hs
    rw [hs] at CT
    have CAT : ∀ (r h : Int), runBa r h cs ws = true → ∀ W : World, Below w.heap.size w W → Calls Try.prog 33 #[.agg #[.int .i64 r, .int .i64 h], .slice a cs.length ca, .slice b ws.length cb] W fun e w' => e = .returned (.int .i64 (shortB r h (hrs cs ws))) ∧ Below W.heap.size W w' := fun r h e W hW => by
      have := iShort r h a b ca cb cs ws W (ints_below ha hW) (ints_below hb hW) hc hw
      rw [(short_at e).1] at this; exact this
    have HCAT := Lib.hid CAT
    clear CAT
    have HTOP : Hid (heldOk n cs ws n = true) := decide_eq_true hsz
    have HRUN := Lib.hid hrun
    obtain ⟨r0, r1, r2, r3⟩ := (run_is hrun).1
    clear hs hsz hrun ha hb
    go_enter Try.func39, Try.ntmps39
    go_wp2_with fail
    refine (CT).mono ?_
    rintro e w1 ⟨rfl, C⟩
    have HB0 := Lib.hid C
    clear C CT
    go_wp2_with fail
    go_loopw [7, 8] (fun a1 a2 wr => ∃ lo hi : Int, a1 = .int .i64 lo ∧ a2 = .int .i64 hi ∧ 0 ≤ lo ∧ lo ≤ hi ∧ hi ≤ n ∧ Hid (heldOk n cs ws hi = true ∧ (∀ x, 0 ≤ x → x < lo → heldOk n cs ws x = false) ∧ Below w.heap.size w wr)) (fun a1 a2 _ => (intOf a2 - intOf a1).toNat)
    case atStart => exact ⟨0, n, rfl, rfl, Int.le_refl _, by omega, Int.le_refl _, HTOP.out, (fun x h1 h2 => by omega), HB0.out⟩
    case round =>
      obtain ⟨lo, hi, rfl, rfl, l1, l2, l3, HR⟩ := hrel
      by_cases hlt : lo < hi
      · obtain ⟨m, hm⟩ : ∃ m, (lo + hi) / 2 = m := ⟨_, rfl⟩
        have m1 : lo ≤ m := by omega
        have m2 : m < hi := by omega
        have w1_ : IntKind.i64.wrap (lo + hi) = lo + hi := by rw [IntKind.wrap_i64]; omega
        have w2_ : Int.tdiv (lo + hi) 2 = m := by rw [Int.tdiv_eq_ediv_of_nonneg (by omega)]; exact hm
        have w3_ : IntKind.i64.wrap m = m := by rw [IntKind.wrap_i64]; omega
        have w4_ : IntKind.i64.wrap (m + 1) = m + 1 := by rw [IntKind.wrap_i64]; omega
        have hrun := run_at (r' := n) (h' := m) HRUN.out (by omega) (by omega) (by omega) (by omega)
        have hsn := (short_at hrun).2
        have CM := HCAT.out n m hrun wr HR.out.2.2
        have hp : heldOk n cs ws m = decide (shortB n m (hrs cs ws) = 0) := rfl
        generalize shortB n m (hrs cs ws) = sv at hsn CM hp
        have HP := Lib.hid hp
        have HM := Lib.hid hm
        clear hrun hp hm
        by_cases hz : sv = 0
        · have e1 : decide (0 < sv) = false := decide_eq_false (by omega)
          have HN : Hid (heldOk n cs ws m = true ∧ (∀ x, 0 ≤ x → x < lo → heldOk n cs ws x = false)) := ⟨by rw [HP.out]; exact decide_eq_true hz, HR.out.2.1⟩
          have HBR := Lib.hid HR.out.2.2
          clear HR HP
          go_wp2_with fail
          refine CM.mono ?_
          rintro e w2 ⟨rfl, C⟩
          have hB2 := bel_tr HBR.out C
          clear C
          go_wp2_with fail
          go_roundw
          case rel => exact ⟨lo, m, rfl, by simp [w2_, w3_], l1, m1, by omega, HN.out.1, HN.out.2, hB2⟩
          case measure => simp [intOf, w2_, w3_]; omega
        · have e1 : decide (0 < sv) = true := decide_eq_true (by omega)
          have HN : Hid (heldOk n cs ws hi = true ∧ (∀ x, 0 ≤ x → x < m + 1 → heldOk n cs ws x = false)) := ⟨HR.out.1, bis_lo (up_held HRUN.out) (by rw [HP.out]; exact decide_eq_false hz) (by omega)⟩
          have HBR := Lib.hid HR.out.2.2
          clear HR HP
          go_wp2_with fail
          refine CM.mono ?_
          rintro e w2 ⟨rfl, C⟩
          have hB2 := bel_tr HBR.out C
          clear C
          go_wp2_with fail
          go_roundw
          case rel => exact ⟨m + 1, hi, by simp [w2_, w3_, w4_], rfl, by omega, by omega, l3, HN.out.1, HN.out.2, hB2⟩
          case measure => simp [intOf, w2_, w3_, w4_]; omega
      · obtain rfl : lo = hi := by omega
        have HV : Hid (lheldV n cs ws = lo) := lheld_yes HRUN.out l1 l3 HR.out.1 HR.out.2.1
        have HBR := Lib.hid HR.out.2.2
        clear HR
        go_wp2_with fail
        go_ret
        exact ⟨ret_int HV.out.symm, HBR.out⟩
  · have HN := Lib.hid (lheld_no hs)
    have e1 : (shortV n n cs ws == 0) = false := by rw [beq_eq_false_iff_ne]; exact hs
    have e2 : (shortV n n cs ws != 0) = true := by rw [bne_iff_ne]; exact hs
    generalize shortV n n cs ws = sv at CT e1 e2 hs
    clear ha hb
    go_enter Try.func39, Try.ntmps39
    go_wp2_with fail
    refine (CT).mono ?_
    rintro e w1 ⟨rfl, C⟩
    go_wp2_with fail
    go_ret
    exact ⟨ret_int HN.out.symm, C⟩
end Go.Proofs.Ytfcgjiciobfncaa
