/- Lists of wishes, and whether they are valid, by the program. Condition: at most 1048576 lists. -/
import Derived.Test.YtdlbjmhjaljlfabWishP
import Derived.Test.YtdlbjmhjaljlfabHeirs
namespace Go.Proofs.Ytdlbjmhjaljlfab
open Go.RowKit
set_option linter.unusedSimpArgs false
set_option linter.unusedVariables false

/-- at a lie the lists rs, in this world -/
def IsRows (w : World) (a : Option Addr) (rs : List (List Int)) : Prop := rs = [] ∨ ∃ g o, a = some ⟨g, o, none⟩ ∧ ∀ i, i < rs.length → ∃ A cap, w.cell? ⟨g, o + i, none⟩ = some (.slice A (rs.getD i []).length cap) ∧ (rs.getD i []).length ≤ cap ∧ IsInts w A (rs.getD i [])
theorem rows_below {w w' : World} {a : Option Addr} {rs : List (List Int)} (h : IsRows w a rs) (hB : Below w.heap.size w w') : IsRows w' a rs := by
  rcases h with h | ⟨g, o, ha, hc⟩
  · exact .inl h
  · refine .inr ⟨g, o, ha, fun i hi => ?_⟩
    obtain ⟨A, cap, c, hl, hi2⟩ := hc i hi
    exact ⟨A, cap, (hB.cell (World.block_lt_of_cell? w _ c)).trans c, hl, ints_below hi2 hB⟩
theorem has_no {n : Nat} {r : List Int} {k : Nat} (hk : k < n) (h : (k : Int) ∉ r) : hasB n r = false := by
  unfold hasB
  rw [Bool.and_eq_false_iff]
  exact .inr (rng_no hk (decide_eq_false h))
theorem has_len {n : Nat} {r : List Int} (h : r.length ≠ n) : hasB n r = false := by
  unfold hasB; rw [decide_eq_false h]; rfl
theorem has_yes {n : Nat} {r : List Int} (h : r.length = n) (h2 : ∀ k : Nat, k < n → (k : Int) ∈ r) : hasB n r = true := by
  unfold hasB; rw [decide_eq_true h, rng_yes fun j hj => decide_eq_true (h2 j hj)]; rfl

set_option maxHeartbeats 2000000 in
theorem iord (A : Option Addr) (cap m n : Nat) (r : List Int) (w : World) (h : IsInts w A r) (hl : r.length = m) (hn : n ≤ 1048576) :
    Calls Try.prog 45 #[.slice A m cap, .int .i64 (n : Int)] w fun e w' => e = .returned (.bool (hasB n r)) ∧ w = w' := by
  by_cases e : m = n
  · subst e
    have HH := fun i W => ihas A cap m r i W
    have HI := Lib.hid h
    have HL := Lib.hid hl
    clear h hl
    go_enter Try.func45, Try.ntmps45
    go_wp2_with fail
    go_loopw [5] (fun i wr => ∃ k : Nat, k ≤ m ∧ i = .int .i64 k ∧ (∀ j : Nat, j < k → (j : Int) ∈ r) ∧ wr = w) (fun i _ => m - (intOf i).toNat)
    case atStart => exact ⟨0, Nat.zero_le _, rfl, fun j hj => absurd hj (Nat.not_lt_zero _), rfl⟩
    case round =>
      obtain ⟨k, hk, rfl, hall, rfl⟩ := hrel
      by_cases hlt : k < m
      · have HC := HH (k : Int) wr HI.out HL.out hn
        by_cases hm : (k : Int) ∈ r
        · rw [decide_eq_true hm] at HC
          have H2 : Hid (∀ j : Nat, j < k + 1 → (j : Int) ∈ r) := fun j hj => by
            by_cases c : j = k
            · subst c; exact hm
            · exact hall j (by omega)
          clear HH hall hm
          go_wp2_with fail
          refine HC.mono ?_
          rintro e w' ⟨rfl, rfl⟩
          clear HC
          go_wp2_with fail
          go_roundw
          case rel => exact ⟨k + 1, by omega, by go_num, H2.out, by trivial⟩
          case measure => simp [intOf]; omega
        · rw [decide_eq_false hm] at HC
          have HN := Lib.hid (has_no hlt hm)
          clear HH hall hm
          go_wp2_with fail
          refine HC.mono ?_
          rintro e w' ⟨rfl, rfl⟩
          clear HC
          go_wp2_with fail
          go_ret
          exact ⟨ret_bool HN.out.symm, rfl⟩
      · obtain rfl : k = m := by omega
        have HN := Lib.hid (has_yes HL.out hall)
        clear HH hall
        go_wp2_with fail
        go_ret
        exact ⟨ret_bool HN.out.symm, rfl⟩
  · have e1 : ((m : Int) != (n : Int)) = true := by simp; omega
    have HN := Lib.hid (has_len (n := n) (r := r) (by rw [hl]; exact e))
    clear e h hl
    go_enter Try.func45, Try.ntmps45
    go_wp2_with fail
    go_ret
    exact ⟨ret_bool HN.out.symm, rfl⟩

theorem wish_no1 {rs : List (List Int)} (h : 8 < rs.length) : wishB rs = false := by unfold wishB; rw [decide_eq_false (by omega)]; rfl
theorem rows_mem {rs : List (List Int)} {k : Nat} (h : k < rs.length) : rs.getD k [] ∈ rs := by
  rw [List.getD_eq_getElem?_getD, List.getElem?_eq_getElem h]; exact List.getElem_mem _
theorem wish_no2 {rs : List (List Int)} {k : Nat} (h : k < rs.length) (h2 : ordB rs.length (rs.getD k []) = false) : wishB rs = false := by
  unfold wishB
  rw [Bool.and_eq_false_iff]
  refine .inr ?_
  rw [Bool.eq_false_iff]
  intro c
  rw [List.all_eq_true] at c
  rw [c _ (rows_mem h)] at h2
  cases h2
theorem wish_yes {rs : List (List Int)} (h : rs.length ≤ 8) (h2 : ∀ k, k < rs.length → ordB rs.length (rs.getD k []) = true) : wishB rs = true := by
  unfold wishB
  rw [decide_eq_true h, Bool.true_and, List.all_eq_true]
  intro x hx
  obtain ⟨k, hk, e⟩ := List.mem_iff_getElem.1 hx
  have := h2 k hk
  rwa [List.getD_eq_getElem?_getD, List.getElem?_eq_getElem hk, Option.getD_some, e] at this

set_option maxHeartbeats 2000000 in
theorem iVW (a : Option Addr) (cap : Nat) (rs : List (List Int)) (w : World) (h : IsRows w a rs) (hn : rs.length ≤ 1048576) :
    Calls Try.prog 19 #[.slice a rs.length cap] w fun e w' => e = .returned (.bool (wishB rs)) ∧ w = w' := by
  by_cases h8 : 8 < rs.length
  · have e1 : decide ((8 : Int) < (rs.length : Int)) = true := decide_eq_true (by omega)
    have HN := Lib.hid (wish_no1 h8)
    clear h8 h
    go_enter Try.func19, Try.ntmps19
    go_wp2_with fail
    go_ret
    exact ⟨ret_bool HN.out.symm, rfl⟩
  · have e1 : decide ((8 : Int) < (rs.length : Int)) = false := decide_eq_false (by omega)
    have H8 : Hid (rs.length ≤ 8) := by show rs.length ≤ 8; omega
    have HI := Lib.hid h
    clear h8 h
    go_enter Try.func19, Try.ntmps19
    go_wp2_with fail
    go_loopw [10] (fun i wr => ∃ k : Nat, k ≤ rs.length ∧ i = .int .i64 k ∧ (∀ j, j < k → ordB rs.length (rs.getD j []) = true) ∧ wr = w) (fun i _ => rs.length - (intOf i).toNat)
    case atStart => exact ⟨0, Nat.zero_le _, rfl, fun j hj => absurd hj (Nat.not_lt_zero _), rfl⟩
    case round =>
      obtain ⟨k, hk, rfl, hall, rfl⟩ := hrel
      by_cases hlt : k < rs.length
      · have hcl : IsRows wr a rs := HI.out
        rcases hcl with rfl | ⟨g, o, rfl, hc⟩
        · simp at hlt
        obtain ⟨A, cp, c0, hlc, hin⟩ := hc k hlt
        have HC := iord A cp (rs.getD k []).length rs.length (rs.getD k []) wr hin rfl hn
        rw [has_ord] at HC
        have HA := Lib.hid hall
        cases ho : ordB rs.length (rs.getD k []) with
        | true =>
          rw [ho] at HC
          have H2 : Hid (∀ j, j < k + 1 → ordB rs.length (rs.getD j []) = true) := fun j hj => by
            by_cases c : j = k
            · subst c; exact ho
            · exact HA.out j (by omega)
          clear hall hc hin ho
          generalize (rs.getD k []).length = m at c0 HC
          go_wp2_with fail
          refine HC.mono ?_
          rintro e w' ⟨rfl, rfl⟩
          clear HC
          go_wp2_with fail
          go_roundw
          case rel => exact ⟨k + 1, by omega, by go_num, H2.out, by trivial⟩
          case measure => simp [intOf]; omega
        | false =>
          rw [ho] at HC
          have HN := Lib.hid (wish_no2 hlt ho)
          clear hall hc hin ho
          generalize (rs.getD k []).length = m at c0 HC
          go_wp2_with fail
          refine HC.mono ?_
          rintro e w' ⟨rfl, rfl⟩
          clear HC
          go_wp2_with fail
          go_ret
          exact ⟨ret_bool HN.out.symm, rfl⟩
      · obtain rfl : k = rs.length := by omega
        have HN := Lib.hid (wish_yes H8.out hall)
        clear hall
        go_wp2_with fail
        go_ret
        exact ⟨ret_bool HN.out.symm, rfl⟩
end Go.Proofs.Ytdlbjmhjaljlfab
