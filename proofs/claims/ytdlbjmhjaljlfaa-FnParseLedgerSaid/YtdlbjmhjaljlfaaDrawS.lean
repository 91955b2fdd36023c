/- The texts that the laws draw: of, mutate, DrawParseFrac. Conditions: the reader has read at most 80000 numbers before; texts of at most 1000 bytes. -/
import Derived.Test.YtdlbjmhjaljlfaaDrawT
namespace Go.Proofs.Ytdlbjmhjaljlfaa
open Go.RowKit

/-- what one of some texts leaves -/
def Ofd (w : World) (b : Nat) (P : Int) (e : Ending) (w' : World) : Prop := ∃ t : ByteArray, e = .returned (.string t) ∧ t.size ≤ 1 ∧ Rd w' b P ∧ w.grownBy w' (some b)
theorem of_any (b g n cap : Nat) (P : Int) (w : World) (h : Rd w b P) (hP : P ≤ 100000) (hgb : g ≠ b) (hgs : g < w.heap.size) (hn : 1 ≤ n) (hn' : n ≤ 1000)
    (hc : ∀ i, i < n → ∃ t : ByteArray, w.cell? ⟨g, i, none⟩ = some (.string t) ∧ t.size ≤ 1) :
    Calls Try.prog 110 #[.pointer (some ⟨b, 0, none⟩), .slice (some ⟨g, 0, none⟩) n cap] w (Ofd w b (P + 1)) := by
  go_enter Try.func110, Try.ntmps110
  go_wp2_with fail
  refine (pick_any b P n _ h hP).mono ?_
  rintro e w' ⟨v, rfl, hv, hR, hG⟩
  have hvn : v < n := by omega
  have hvi : (v : Int) < (n : Int) := by omega
  obtain ⟨t, hz, z0⟩ := hc v hvn
  have hz' := (g_cell (o := v) hG hgs hgb).trans hz
  clear hz hc hv
  go_wp2
  go_ret
  exact ⟨t, rfl, z0, hR, hG⟩
theorem lit_strs (w : World) (ts : List ByteArray) (t : TypeId) (hz : ∀ z ∈ ts, z.size ≤ 1) :
    ∀ i, i < ts.length → ∃ z : ByteArray, (w.alloc (.cells (ts.map Value.string).toArray t)).cell? ⟨w.heap.size, i, none⟩ = some (.string z) ∧ z.size ≤ 1 := by
  intro i hi'
  refine ⟨ts[i], ?_, hz _ (List.getElem_mem hi')⟩
  simp [World.cell?_alloc_new, hi']
/-- one of some texts that have just been made -/
theorem of_lit (b n : Nat) (P : Int) (ts : List ByteArray) (t : TypeId) (w : World) (h : Rd w b P) (hP : P ≤ 100000) (hb : b < w.heap.size) (hl : ts.length = n) (hn : 1 ≤ n) (hn' : n ≤ 1000) (hz : ∀ z ∈ ts, z.size ≤ 1) :
    Calls Try.prog 110 #[.pointer (some ⟨b, 0, none⟩), .slice (some ⟨w.heap.size, 0, none⟩) n n] (w.alloc (.cells (ts.map Value.string).toArray t)) (Ofd w b (P + 1)) := by
  refine (of_any b w.heap.size n n P _ (rd_alloc h hb _) hP (by omega) (by simp) hn hn' (by rw [← hl]; exact lit_strs w ts t hz)).mono ?_
  rintro e w' ⟨v, rfl, v0, hR, hG⟩
  exact ⟨v, rfl, v0, hR, g_new hG⟩
theorem add_any (a b : ByteArray) (w : World) (ha : a.size ≤ 100000) (hb : b.size ≤ 100000) : (Op.stringOp .add a b).run Try.prog w = .ok (.string (a ++ b)) w := run_string_add_sum w a b (by omega)
theorem app_size (a b : ByteArray) : (a ++ b).size = a.size + b.size := ByteArray.size_append
theorem ext_len (s : ByteArray) (a b : Nat) (h : a ≤ b) (hb : b ≤ s.size) : (s.extract a b).size = b - a := by
  rw [← bt_len, ext_data, List.length_take, List.length_drop, bt_len]; omega
/-- what mutate leaves -/
def Mutd (w : World) (b : Nat) (P : Int) (m : Nat) (e : Ending) (w' : World) : Prop := ∃ t : ByteArray, e = .returned (.string t) ∧ t.size ≤ m ∧ Rd w' b P ∧ w.grownBy w' (some b)
set_option maxHeartbeats 8000000 in
theorem smutate (b : Nat) (P : Int) (s : ByteArray) (w : World) (h : Rd w b P) (hP : P ≤ 80000) (hb : b < w.heap.size) (hs : s.size ≤ 1000) :
    Calls Try.prog 74 #[.pointer (some ⟨b, 0, none⟩), .string s] w (Mutd w b (P + 3) (s.size + 1)) := by
  go_enter Try.func74, Try.ntmps74
  go_wp2_with fail
  refine (pick_any b P ((s.size : Int) + 1) _ h (by omega)).mono ?_
  rintro e w1 ⟨k, rfl, hk, hR1, hG1⟩
  have hb1 := Nat.lt_of_lt_of_le hb hG1.size
  have hkn : k ≤ s.size := by omega
  clear hk h
  go_wp2_with fail
  refine (pick_any b _ 5 _ hR1 (by omega)).mono ?_
  rintro e w2 ⟨v, rfl, hv, hR2, hG2⟩
  have hb2 := Nat.lt_of_lt_of_le hb1 hG2.size
  have G2 := g_trans hG1 hG2
  clear hG1 hG2 hR1
  have hv5 : (v : Int) < 5 := by omega
  clear hv
  by_cases v3 : v = 3
  · have e0 : ((v : Int) == 0) = false := by simp [v3]
    have e1 : ((v : Int) == 1) = false := by simp [v3]
    have e2 : ((v : Int) == 2) = false := by simp [v3]
    have e3 : ((v : Int) == 3) = true := by simp [v3]
    clear v3 hv5
    go_wp2_with fail
    refine (of_lit b 4 _ [{ data := #[48] }, { data := #[32] }, { data := #[10] }, { data := #[120] }] _ w2 hR2 (by omega) hb2 rfl (by omega) (by omega) (fun z hz => by simp at hz; rcases hz with rfl | rfl | rfl | rfl <;> decide)).mono ?_
    rintro e w3 ⟨t, rfl, t1, hR3, hG3⟩
    have G3 := g_trans G2 hG3
    have hadd := add_any s t w3 (by omega) (by omega)
    have HX := Lib.hid (app_size s t)
    generalize s ++ t = x at *
    clear hG3 G2
    go_wp2_with fail
    go_ret
    exact ⟨x, rfl, by have := HX.out; omega, rd_up hR3 (by omega), G3⟩
  · by_cases v2 : v = 2
    · have e0 : ((v : Int) == 0) = false := by simp [v2]
      have e1 : ((v : Int) == 1) = false := by simp [v2]
      have e2 : ((v : Int) == 2) = true := by simp [v2]
      clear v2 v3 hv5
      have hx := ext_size s 0 k
      go_wp2_with fail
      go_ret
      exact ⟨_, rfl, by omega, rd_up hR2 (by omega), G2⟩
    · by_cases v4 : v = 4
      · have e0 : ((v : Int) == 0) = false := by simp [v4]
        have e1 : ((v : Int) == 1) = false := by simp [v4]
        have e2 : ((v : Int) == 2) = false := by simp [v4]
        have e3 : ((v : Int) == 3) = false := by simp [v4]
        clear v2 v3 v4 hv5
        go_wp2_with fail
        go_ret
        exact ⟨s, rfl, by omega, rd_up hR2 (by omega), G2⟩
      · have hv1 : v = 0 ∨ v = 1 := by omega
        have e01 : (((v : Int) == 0) || ((v : Int) == 1)) = true := by rcases hv1 with h | h <;> subst h <;> rfl
        clear v2 v3 v4 hv5
        by_cases hlt : k < s.size
        · have hx1 := ext_len s 0 k (by omega) (by omega)
          have hx2 := ext_len s (k + 1) s.size (by omega) (by omega)
          have t1 : ((k : Int) + 1).toNat = k + 1 := by omega
          generalize hA : s.extract 0 k = A at *
          generalize hD : s.extract (k + 1) s.size = D at *
          rcases hv1 with rfl | rfl
          · have q0 : (0 : Int) ≤ (k : Int) := by omega
            have q1 : (k : Int) ≤ (s.size : Int) := by omega
            have q2 : (0 : Int) ≤ (k : Int) + 1 := by omega
            have q3 : (k : Int) + 1 ≤ (s.size : Int) := by omega
            have q4 : IntKind.i64.wrap ((k : Int) + 1) = (k : Int) + 1 := by rw [IntKind.wrap_i64]; omega
            have HL : Hid (∀ z ∈ ([{ data := #[48] }, { data := #[49] }, { data := #[32] }, { data := #[47] }, { data := #[104] }, { data := #[10] }, { data := #[50] }] : List ByteArray), z.size ≤ 1) := fun z hz => by simp at hz; rcases hz with rfl | rfl | rfl | rfl | rfl | rfl | rfl <;> decide
            go_wp2_with fail
            go_region_held3 (fun _ => True) (exact trivial) (first | (go_at_call 110; refine (of_lit b 7 _ [{ data := #[48] }, { data := #[49] }, { data := #[32] }, { data := #[47] }, { data := #[104] }, { data := #[10] }, { data := #[50] }] _ w2.drew hR2 (by omega) hb2 rfl (by omega) (by omega) HL.out).mono ?_; rintro e w3 ⟨t, rfl, t1, hR3, hG3⟩; have ha1 := fun w => add_any A t w (by omega) (by omega); have ha2 := fun w => add_any (A ++ t) D w (by rw [app_size]; omega) (by omega)))
            all_goals (
              have G3 : w.grownBy w3 (some b) := g_trans G2 ⟨hG3.os, hG3.tape, hG3.output, hG3.size, hG3.block⟩
              have HX := Lib.hid (app_size (A ++ t) D)
              have HY := Lib.hid (app_size A t)
              go_wp2_with fail
              go_ret
              exact ⟨_, rfl, by have := HX.out; have := HY.out; omega, rd_up hR3 (by omega), G3⟩)
          · have q0 : (0 : Int) ≤ (k : Int) := by omega
            have q1 : (k : Int) ≤ (s.size : Int) := by omega
            have q2 : (0 : Int) ≤ (k : Int) + 1 := by omega
            have q3 : (k : Int) + 1 ≤ (s.size : Int) := by omega
            have q4 : IntKind.i64.wrap ((k : Int) + 1) = (k : Int) + 1 := by rw [IntKind.wrap_i64]; omega
            have HL : Hid (∀ z ∈ ([{ data := #[48] }, { data := #[49] }, { data := #[32] }, { data := #[47] }, { data := #[104] }, { data := #[10] }, { data := #[50] }] : List ByteArray), z.size ≤ 1) := fun z hz => by simp at hz; rcases hz with rfl | rfl | rfl | rfl | rfl | rfl | rfl <;> decide
            go_wp2_with fail
            go_region_held3 (fun _ => True) (exact trivial) (first | (go_at_call 110; refine (of_lit b 7 _ [{ data := #[48] }, { data := #[49] }, { data := #[32] }, { data := #[47] }, { data := #[104] }, { data := #[10] }, { data := #[50] }] _ w2.drew hR2 (by omega) hb2 rfl (by omega) (by omega) HL.out).mono ?_; rintro e w3 ⟨t, rfl, t1, hR3, hG3⟩; have ha1 := fun w => add_any A t w (by omega) (by omega); have ha2 := fun w => add_any (A ++ t) D w (by rw [app_size]; omega) (by omega)))
            all_goals (
              have G3 : w.grownBy w3 (some b) := g_trans G2 ⟨hG3.os, hG3.tape, hG3.output, hG3.size, hG3.block⟩
              have HX := Lib.hid (app_size (A ++ t) D)
              have HY := Lib.hid (app_size A t)
              go_wp2_with fail
              go_ret
              exact ⟨_, rfl, by have := HX.out; have := HY.out; omega, rd_up hR3 (by omega), G3⟩)
        · rcases hv1 with rfl | rfl
          · go_wp2_with fail
            go_ret
            exact ⟨s, rfl, by omega, rd_up hR2 (by omega), G2⟩
          · go_wp2_with fail
            go_ret
            exact ⟨s, rfl, by omega, rd_up hR2 (by omega), G2⟩
theorem frT_len {n d : Int} (h : n ≤ 1000000000000000) (h2 : d ≤ 1000000000000000) : (frT n d).size ≤ 100 := by
  rw [frT_size]
  have a := dec_len19 (m := n.toNat) (by omega)
  have b := dec_len19 (m := d.toNat) (by omega)
  omega
/-- what DrawParseFrac leaves -/
def DrawnS (w : World) (e : Ending) (w' : World) : Prop := ∃ s : ByteArray, e = .returned (.string s) ∧ s.size ≤ 1001 ∧ Below w.heap.size w w'
end Go.Proofs.Ytdlbjmhjaljlfaa
