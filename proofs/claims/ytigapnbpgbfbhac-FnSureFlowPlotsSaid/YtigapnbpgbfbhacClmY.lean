/- Claims by the model: orders, and by turns. Condition: at most 1048576 numbers. -/
import Derived.Test.YtigapnbpgbfbhacClmS
import Derived.Test.YtigapnbpgbfbhacClmN
import Derived.Test.YtigapnbpgbfbhacClmK
import Derived.Deep.RegionHeld3
namespace Go.Proofs.Ytigapnbpgbfbhac
open Go.RowKit
set_option linter.unusedSimpArgs false
set_option linter.unusedVariables false
/-- the place of a number from the place k on, -1 where it isn't there -/
def plcFN : List Int → Int → Nat → Int
  | [], _, _ => -1
  | h :: t, x, k => if h = x then (k : Int) else plcFN t x (k + 1)
def plcVN (r : List Int) (x : Int) : Int := plcFN r x 0
theorem plcFN_at (x : Int) : ∀ (r : List Int) (b k : Nat), k < r.length → (∀ j, j < k → r.getD j 0 ≠ x) → r.getD k 0 = x → plcFN r x b = ((b + k : Nat) : Int) := by
  intro r
  induction r with
  | nil => intro b k h; exact absurd h (Nat.not_lt_zero _)
  | cons h t ih =>
    intro b k hk hno he
    cases k with
    | zero =>
      have he' : h = x := he
      show (if h = x then (b : Int) else _) = _
      rw [if_pos he']; rfl
    | succ k =>
      have h0 : h ≠ x := hno 0 (by omega)
      show (if h = x then (b : Int) else plcFN t x (b + 1)) = _
      rw [if_neg h0, ih (b + 1) k (by simpa using hk) (fun j hj => hno (j + 1) (by omega)) he]
      congr 1; omega
theorem plcFN_no (x : Int) : ∀ (r : List Int) (b : Nat), (∀ j, j < r.length → r.getD j 0 ≠ x) → plcFN r x b = -1 := by
  intro r
  induction r with
  | nil => intro b _; rfl
  | cons h t ih =>
    intro b hno
    have h0 : h ≠ x := hno 0 (by simp)
    show (if h = x then (b : Int) else plcFN t x (b + 1)) = _
    rw [if_neg h0]
    exact ih (b + 1) (fun j hj => hno (j + 1) (by simpa using hj))
theorem plcN_at {r : List Int} {x : Int} {k : Nat} (hk : k < r.length) (hno : ∀ j, j < k → r.getD j 0 ≠ x) (he : r.getD k 0 = x) : plcVN r x = (k : Int) := by
  unfold plcVN; rw [plcFN_at x r 0 k hk hno he, Nat.zero_add]
theorem plcN_no {r : List Int} {x : Int} (hno : ∀ j, j < r.length → r.getD j 0 ≠ x) : plcVN r x = -1 := plcFN_no x r 0 hno
theorem ret_plcN {z y : Int} (h : z = y) : Ending.returned (.int .i64 z) = Ending.returned (.int .i64 y) := by rw [h]

set_option maxHeartbeats 1000000 in
theorem splaceN (a : Option Addr) (cap m : Nat) (zs : List Int) (n : Int) (w : World) (h : IsInts w a zs) (hl : zs.length = m) (hn : m ≤ 1048576) :
    Calls Try.prog 47 #[.slice a m cap, .int .i64 n] w fun e w' => e = .returned (.int .i64 (plcVN zs n)) ∧ w = w' := by
  subst hl
  rcases h with rfl | ⟨g, o, rfl, hc⟩
  · go_enter Try.func47, Try.ntmps47
    go_wp2
    go_rounds 1
    go_ret
    exact ⟨rfl, rfl⟩
  · have HC := Lib.hid hc
    clear hc
    go_enter Try.func47, Try.ntmps47
    go_wp2
    go_loop [5] (fun i => ∃ k : Nat, k ≤ zs.length ∧ i = .int .i64 k ∧ Hid (∀ j, j < k → zs.getD j 0 ≠ n)) (fun i => zs.length - (intOf i).toNat)
    case atStart => exact ⟨0, Nat.zero_le _, rfl, fun j hj => by omega⟩
    case round =>
      obtain ⟨k, hk, rfl, HK⟩ := hrel
      by_cases hlt : k < zs.length
      · have hc := HC.out k hlt
        obtain ⟨x, hx⟩ : ∃ x, zs.getD k 0 = x := ⟨_, rfl⟩
        have HX := Lib.hid hx
        rw [hx] at hc
        clear hx
        by_cases e : x = n
        · have HP := Lib.hid (plcN_at hlt HK.out (HX.out.trans e))
          have e9 : (x == n) = true := by simpa using e
          clear e
          go_wp2
          go_ret
          exact ⟨ret_plcN HP.out.symm, rfl⟩
        · have e9 : (x == n) = false := by simpa using e
          have H2 : Hid (∀ j, j < k + 1 → zs.getD j 0 ≠ n) := fun j hj => by
            by_cases ej : j = k
            · subst ej; rw [HX.out]; exact e
            · exact HK.out j (by omega)
          clear e
          go_wp2
          go_round
          case rel => exact ⟨k + 1, by omega, by go_num, H2⟩
          case measure => simp [intOf]; omega
      · obtain rfl : k = zs.length := by omega
        have HP := Lib.hid (plcN_no HK.out)
        go_wp2
        go_ret
        exact ⟨ret_plcN HP.out.symm, rfl⟩

theorem ord_noN {n : Nat} {r : List Int} {k : Nat} (hk : k < r.length) (h : okW n r k = false) : ordB n r = false := by
  unfold ordB
  rw [Bool.and_eq_false_iff]
  exact .inr (rng_no hk h)
theorem ord_lenN {n : Nat} {r : List Int} (h : r.length ≠ n) : ordB n r = false := by unfold ordB; rw [decide_eq_false h]; rfl
theorem ord_yesN {n : Nat} {r : List Int} (h : r.length = n) (h2 : ∀ k, k < r.length → okW n r k = true) : ordB n r = true := by
  unfold ordB; rw [decide_eq_true h, rng_yes h2]; rfl
theorem okW_yesN {n : Nat} {r : List Int} {k : Nat} (h1 : 0 ≤ r.getD k 0) (h2 : r.getD k 0 < (n : Int)) (h3 : r.getD k 0 ∉ r.take k) : okW n r k = true := by
  unfold okW; rw [decide_eq_true h1, decide_eq_true h2, decide_eq_true h3]; rfl
theorem okW_no1N {n : Nat} {r : List Int} {k : Nat} (h : r.getD k 0 < 0 ∨ (n : Int) ≤ r.getD k 0) : okW n r k = false := by
  unfold okW
  rcases h with h | h
  · rw [decide_eq_false (by omega)]; rfl
  · rw [decide_eq_false (by omega : ¬ r.getD k 0 < (n : Int)), Bool.and_false]; rfl
theorem okW_no2N {n : Nat} {r : List Int} {k : Nat} (h : r.getD k 0 ∈ r.take k) : okW n r k = false := by
  unfold okW
  rw [decide_eq_false (show ¬ (r.getD k 0 ∉ r.take k) from fun c => c h), Bool.and_false]
end Go.Proofs.Ytigapnbpgbfbhac
