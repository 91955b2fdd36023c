/- The rank of a turn among the wishes of a trader, by the program and by the model. Condition: at most 1048576 lists. -/
import Derived.Test.YtdlbjmhjaljlfabWishS
namespace Go.Proofs.Ytdlbjmhjaljlfab
open Go.RowKit
set_option linter.unusedSimpArgs false
set_option linter.unusedVariables false
/-- the place of a number from the place k on, -1 where it isn't there -/
def plcF : List Int → Int → Nat → Int
  | [], _, _ => -1
  | h :: t, x, k => if h = x then (k : Int) else plcF t x (k + 1)
def plcV (r : List Int) (x : Int) : Int := plcF r x 0
theorem plcF_at (x : Int) : ∀ (r : List Int) (b k : Nat), k < r.length → (∀ j, j < k → r.getD j 0 ≠ x) → r.getD k 0 = x → plcF r x b = ((b + k : Nat) : Int) := by
  intro r
  induction r with
  | nil => intro b k h; exact absurd h (Nat.not_lt_zero _)
  | cons h t ih =>
    intro b k hk hno he
    cases k with
    | zero =>
      have he' : h = x := he
      show (if h = x then (b : Int) else _) = _
      rw [if_pos he']; rfl
    | succ k =>
      have h0 : h ≠ x := hno 0 (by omega)
      show (if h = x then (b : Int) else plcF t x (b + 1)) = _
      rw [if_neg h0, ih (b + 1) k (by simpa using hk) (fun j hj => hno (j + 1) (by omega)) he]
      congr 1; omega
theorem plcF_no (x : Int) : ∀ (r : List Int) (b : Nat), (∀ j, j < r.length → r.getD j 0 ≠ x) → plcF r x b = -1 := by
  intro r
  induction r with
  | nil => intro b _; rfl
  | cons h t ih =>
    intro b hno
    have h0 : h ≠ x := hno 0 (by simp)
    show (if h = x then (b : Int) else plcF t x (b + 1)) = _
    rw [if_neg h0]
    exact ih (b + 1) (fun j hj => hno (j + 1) (by simpa using hj))
theorem plc_at {r : List Int} {x : Int} {k : Nat} (hk : k < r.length) (hno : ∀ j, j < k → r.getD j 0 ≠ x) (he : r.getD k 0 = x) : plcV r x = (k : Int) := by
  unfold plcV; rw [plcF_at x r 0 k hk hno he, Nat.zero_add]
theorem plc_no {r : List Int} {x : Int} (hno : ∀ j, j < r.length → r.getD j 0 ≠ x) : plcV r x = -1 := plcF_no x r 0 hno
def inR (rs : List (List Int)) (i : Int) : Bool := decide (0 ≤ i) && decide (i < (rs.length : Int))
/-- the rank of a turn -/
def rkV (rs : List (List Int)) (i x : Int) : Int := if wishB rs && inR rs i then plcV (rs.getD i.toNat []) x else -1
theorem rk_no {rs : List (List Int)} {i x : Int} (h : wishB rs = false ∨ inR rs i = false) : rkV rs i x = -1 := by
  unfold rkV
  rcases h with h | h <;> rw [h] <;> simp
theorem rk_yes {rs : List (List Int)} {i : Nat} {x : Int} (h : wishB rs = true) (hi : i < rs.length) : rkV rs (i : Int) x = plcV (rs.getD i []) x := by
  unfold rkV inR
  rw [h, decide_eq_true (by omega : (0 : Int) ≤ (i : Int)), decide_eq_true (by omega : (i : Int) < (rs.length : Int)), Int.toNat_natCast]; rfl
theorem ret_plc {z y : Int} (h : z = y) : Ending.returned (.int .i64 z) = Ending.returned (.int .i64 y) := by rw [h]

set_option maxHeartbeats 1000000 in
theorem splaceV (a : Option Addr) (cap m : Nat) (zs : List Int) (n : Int) (w : World) (h : IsInts w a zs) (hl : zs.length = m) (hn : m ≤ 1048576) :
    Calls Try.prog 76 #[.slice a m cap, .int .i64 n] w fun e w' => e = .returned (.int .i64 (plcV zs n)) ∧ w = w' := by
  subst hl
  rcases h with rfl | ⟨g, o, rfl, hc⟩
  · go_enter Try.func76, Try.ntmps76
    go_wp2
    go_rounds 1
    go_ret
    exact ⟨rfl, rfl⟩
  · have HC := Lib.hid hc
    clear hc
    go_enter Try.func76, Try.ntmps76
    go_wp2
    go_loop [5] (fun i => ∃ k : Nat, k ≤ zs.length ∧ i = .int .i64 k ∧ Hid (∀ j, j < k → zs.getD j 0 ≠ n)) (fun i => zs.length - (intOf i).toNat)
    case atStart => exact ⟨0, Nat.zero_le _, rfl, fun j hj => by omega⟩
    case round =>
      obtain ⟨k, hk, rfl, HK⟩ := hrel
      by_cases hlt : k < zs.length
      · have hc := HC.out k hlt
        obtain ⟨x, hx⟩ : ∃ x, zs.getD k 0 = x := ⟨_, rfl⟩
        have HX := Lib.hid hx
        rw [hx] at hc
        clear hx
        by_cases e : x = n
        · have HP := Lib.hid (plc_at hlt HK.out (HX.out.trans e))
          have e9 : (x == n) = true := by simpa using e
          clear e
          go_wp2
          go_ret
          exact ⟨ret_plc HP.out.symm, rfl⟩
        · have e9 : (x == n) = false := by simpa using e
          have H2 : Hid (∀ j, j < k + 1 → zs.getD j 0 ≠ n) := fun j hj => by
            by_cases ej : j = k
            · subst ej; rw [HX.out]; exact e
            · exact HK.out j (by omega)
          clear e
          go_wp2
          go_round
          case rel => exact ⟨k + 1, by omega, by go_num, H2⟩
          case measure => simp [intOf]; omega
      · obtain rfl : k = zs.length := by omega
        have HP := Lib.hid (plc_no HK.out)
        go_wp2
        go_ret
        exact ⟨ret_plc HP.out.symm, rfl⟩

end Go.Proofs.Ytdlbjmhjaljlfab
