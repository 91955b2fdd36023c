/- spec.ParseFrac. Condition: a text of at most 4294967296 bytes. -/
import Derived.Test.YtdlbjmhjaljlfaaSplitT
namespace Go.Proofs.Ytdlbjmhjaljlfaa
open Go.RowKit

def TwoS (p q : Addr) (x y : Value) (w' : World) : Prop := w'.cell? p = some x ∧ w'.cell? q = some y
theorem twoS_below {p q : Addr} {x y : Value} {W W' : World} (h : TwoS p q x y W) (hb : Below W.heap.size W W') : TwoS p q x y W' :=
  ⟨(hb.cell (World.block_lt_of_cell? W _ h.1)).trans h.1, (hb.cell (World.block_lt_of_cell? W _ h.2)).trans h.2⟩
theorem twoS_alloc {p q : Addr} {x y : Value} {W : World} (o : Obj) (h : TwoS p q x y W) : TwoS p q x y (W.alloc o) := twoS_below h ((Below.refl _ _).alloc (Nat.le_refl _) _)
theorem twoS_drew {p q : Addr} {x y : Value} {W : World} (h : TwoS p q x y W) : TwoS p q x y W.drew := h
theorem pok_two {s : ByteArray} {k j : Nat} (hi : idxI 47 s = k) (hj : k < j) (hjs : j < s.size) (h : bt s j = 47) : pok s = false := by
  obtain ⟨e1, _, _⟩ := pok_at hi
  rw [e1]
  have : rdS 1000000 (s.extract (k + 1) s.size) = -1 := by
    refine rdS_not (k := j - (k + 1)) ?_ (.inl ?_)
    · rw [← bt_len, ext_data, List.length_take, List.length_drop, bt_len]; omega
    · rw [bt_ext s _ _ _ (by omega), show k + 1 + (j - (k + 1)) = j by omega, h]; omega
  rw [this]
  exact vf_no (by omega)
/-- a second byte c, or none -/
theorem later_or (c : Int) (s : ByteArray) (k : Nat) : (∃ j, k < j ∧ j < s.size ∧ bt s j = c) ∨ ∀ j, k < j → j < s.size → bt s j ≠ c := by
  by_cases h : ∃ j, k < j ∧ j < s.size ∧ bt s j = c
  · exact .inl h
  · exact .inr fun j h1 h2 h3 => h ⟨j, h1, h2, h3⟩
set_option maxHeartbeats 2000000 in
/-- the text is cut into another number of parts than two -/
theorem sPar_no (s : ByteArray) (w : World) (h : s.size ≤ 4294967296) (hp : pok s = false) (hl : (cutS 47 s).length ≠ 2) :
    Calls Try.prog 76 #[.string s] w fun e w' => e = .returned (frV (pok s) (pnum s) (pden s)) ∧ Below w.heap.size w w' := by
  have HP := Lib.hid hp
  have hl1 : ((cutS 47 s).length : Int) ≠ 2 := by omega
  have hl2 : (((cutS 47 s).length : Int) == 2) = false := by rw [beq_eq_false_iff_ne]; exact hl1
  have hl0 : 0 < (cutS 47 s).length := by unfold cutS; simp
  clear hl1
  go_enter Try.func76, Try.ntmps76
  go_wp2_with fail
  refine (ssplit s 47 _ h).mono ?_
  rintro e w1 ⟨v, rfl, hO, hB⟩
  obtain ⟨g, cp, rfl, lg, ltg⟩ := hO.form hl0
  clear hO
  have hB1 : Below w.heap.size w w1 := bel_tr (by go_grown) hB
  obtain ⟨d0, d1, g0, g1, hy⟩ := c2_below (c2_new w (.int .i64 0) (.int .i64 0) 36) hB
  clear hB
  generalize (cutS 47 s).length = n at *
  go_wp2_with fail
  refine bodyPost_ret (v := .tuple #[.agg #[.int .i64 0, .int .i64 0], .bool false]) (by simp [results, Try.results76, go_sem, d0, d1]) rfl ⟨frV_no' HP.out, by go_grown⟩
set_option maxHeartbeats 2000000 in
theorem sPar_two (s : ByteArray) (w : World) (h : s.size ≤ 4294967296) (A D : ByteArray) (hc : cutS 47 s = [A, D]) (hpk : pok s = Wsh.vfB (rdS 1000000 A) (rdS 1000000 D)) (hpn : pnum s = rdS 1000000 A) (hpd : pden s = rdS 1000000 D) (za : A.size ≤ 4294967296) (zd : D.size ≤ 4294967296) :
    Calls Try.prog 76 #[.string s] w fun e w' => e = .returned (frV (pok s) (pnum s) (pden s)) ∧ Below w.heap.size w w' := by
  rw [hpk, hpn, hpd]
  have HC := Lib.hid hc
  clear hpk hpn hpd hc
  go_enter Try.func76, Try.ntmps76
  go_wp2_with fail
  refine (ssplit s 47 _ h).mono ?_
  rintro e w1 ⟨v, rfl, hO, hB⟩
  rw [HC.out] at hO
  obtain ⟨g, cp, rfl, lg, ltg⟩ := hO.form (by simp)
  have hS0 : TwoS ⟨g, 0, none⟩ ⟨g, 1, none⟩ (.string A) (.string D) w1 := ⟨hO.cellAt 0 (by simp), hO.cellAt 1 (by simp)⟩
  clear hO
  have hB1 : Below w.heap.size w w1 := bel_tr (by go_grown) hB
  have k1 := c2_below (c2_new w (.int .i64 0) (.int .i64 0) 36) hB
  clear hB
  simp only [List.length_cons, List.length_nil]
  have hSz := k1.2.2.2.2
  unfold TwoS at hS0
  go_wp2_with fail
  go_region_held3 (fun w' => w'.cell? ⟨g, 0, none⟩ = some (.string A) ∧ w'.cell? ⟨g, 1, none⟩ = some (.string D)) (first | exact hS0 | exact twoS_drew hS0 | assumption | exact twoS_alloc _ (by assumption) | exact twoS_drew (twoS_alloc _ hS0) | exact twoS_drew (by assumption)) (first | (go_at_call_of 77 (Value.string A); refine (sread A _ za).mono ?_; rintro e w' ⟨rfl, rfl⟩) | (go_at_call_of 77 (Value.string D); refine (sread D _ zd).mono ?_; rintro e w' ⟨rfl, rfl⟩))
  all_goals (
    go_wp2_with fail
    refine (svalid (rdS 1000000 A) (rdS 1000000 D) _).mono ?_
    rintro e w2 ⟨rfl, hb⟩
    obtain ⟨c0, c1, f0, f1, hz⟩ := c2_below (c2_drew (c2_new w1 (.int .i64 (rdS 1000000 A)) (.int .i64 (rdS 1000000 D)) _)) hb
    obtain ⟨d0, d1, g0, g1, hy⟩ := c2_below (c2_drew (c2_alloc k1 (.cells #[.int .i64 (rdS 1000000 A), .int .i64 (rdS 1000000 D)] 36))) hb
    have hB2 : Below w.heap.size w w2 := bel_tr (by go_grown) hb
    clear hb
    cases hv : Wsh.vfB (rdS 1000000 A) (rdS 1000000 D) with
    | false =>
      go_wp2_with fail
      refine bodyPost_ret (v := .tuple #[.agg #[.int .i64 0, .int .i64 0], .bool false]) (by simp [results, Try.results76, go_sem, d0, d1]) rfl ⟨frV_no' hv, by go_grown⟩
    | true =>
      go_wp2_with fail
      refine bodyPost_ret (v := .tuple #[.agg #[.int .i64 (rdS 1000000 A), .int .i64 (rdS 1000000 D)], .bool true]) (by simp [results, Try.results76, go_sem, d0, d1]) rfl ⟨frV_yes' hv rfl rfl, by go_grown⟩)
/-- spec.parseFrac -/
theorem sparse (s : ByteArray) (w : World) (h : s.size ≤ 4294967296) :
    Calls Try.prog 76 #[.string s] w fun e w' => e = .returned (frV (pok s) (pnum s) (pden s)) ∧ Below w.heap.size w w' := by
  rcases idx_or 47 s with ⟨k, hk, hb, hbn, hi⟩ | ⟨hbn, hi⟩
  · rcases later_or 47 s k with ⟨j, hj, hjs, hjb⟩ | hno
    · refine sPar_no s w h (pok_two hi hj hjs hjb) ?_
      have := cut_more hb hbn hj hjs hjb
      exact fun e => by rw [show ((47 : Nat) : Int) = 47 from rfl] at this; omega
    · obtain ⟨e1, e2, e3⟩ := pok_at hi
      exact sPar_two s w h _ _ (cut_one hk hb hbn hno) e1 e2 e3 (Nat.le_trans (ext_size _ _ _) h) (Nat.le_trans (ext_size _ _ _) h)
  · refine sPar_no s w h (pok_no hi) ?_
    have := cut_none (c := 47) (s := s) hbn
    rw [this]; simp
end Go.Proofs.Ytdlbjmhjaljlfaa
