/- The weights that the laws draw. Condition: the reader has read at most 80000 numbers before. -/
import Derived.Test.YtigapnbpgbfbhabRestS
namespace Go.Proofs.Ytigapnbpgbfbhab
open Go.RowKit

/-- what someWeights leaves -/
def SomeW (w : World) (b : Nat) (P : Int) (e : Ending) (w' : World) : Prop := ∃ (v : Value) (k : Nat) (xs : List Int), e = .returned v ∧ 1 ≤ k ∧ k ≤ 12 ∧ w'.ownsRow w.heap.size 3 1 v k (xs.map (Value.int .i64)) ∧ xs.length = k ∧ (∀ z ∈ xs, 0 ≤ z ∧ z ≤ 1000) ∧ Rd w' b (P + 1 + 2 * (k : Int)) ∧ w.grownBy w' (some b)

set_option maxHeartbeats 2000000 in
theorem someW (b : Nat) (P : Int) (w : World) (h : Rd w b P) (hP : P ≤ 80000) (hb : b < w.heap.size) :
    Calls Try.prog 62 #[.pointer (some ⟨b, 0, none⟩)] w (SomeW w b P) := by
  obtain ⟨i0, hi, hz0, hz1, hz2⟩ := info_parts infoInt
  go_enter Try.func62, Try.ntmps62
  go_wp2_with fail
  have hO : (w.alloc (.cells #[] 3)).ownsRow w.heap.size 3 1 (.slice (some ⟨w.heap.size, 0, none⟩) 0 0) 0 [] := ⟨by simp, .inr ⟨w.heap.size, 0, #[], rfl, Nat.le_refl _, Go.Deep.blk_alloc_new _ _, Nat.le_refl _, by unfold maxLen; omega, rfl, rfl⟩⟩
  have HO := Lib.hid hO
  have HR := Lib.hid (rd_alloc h hb (.cells #[] 3))
  have HG := Lib.hid (World.grownBy_alloc w (.cells #[] 3) (some b))
  clear hO h
  have hs : w.heap.size + 1 = (w.alloc (.cells #[] 3)).heap.size := by simp
  rw [hs]
  generalize w.alloc (.cells #[] 3) = w1 at *
  have hb1 : b < w1.heap.size := by omega
  refine (one_lit b 7 P 1 12 [3, 4, 2, 5, 1, 8, 12] _ w1 HR.out (by omega) hb1 rfl (by omega) (by omega) (by simp)).mono ?_
  rintro e w2 ⟨m, rfl, m0, m1, hR2, hG2⟩
  have HO2 := Lib.hid (HO.out.kept hG2 (.inr (by simp [Value.ownBlock]; omega)))
  have HR2 := Lib.hid hR2
  have HG2 := Lib.hid (g_trans HG.out hG2)
  have hs2 : w.heap.size < w2.heap.size := by have := hG2.size; omega
  clear hG2 hR2 HO HR HG
  go_wp2_with fail
  go_loopw [3, 4] (fun v l wr => ∃ (k : Nat) (xs : List Int), (k : Int) ≤ m ∧ l = .int .i64 (m - k) ∧ wr.ownsRow w.heap.size 3 1 v k (xs.map (Value.int .i64)) ∧ xs.length = k ∧ (∀ z ∈ xs, 0 ≤ z ∧ z ≤ 1000) ∧ Rd wr b (P + 1 + 2 * (k : Int)) ∧ w.grownBy wr (some b) ∧ w.heap.size < wr.heap.size) (fun _ l _ => (intOf l).toNat)
  case atStart => exact ⟨0, [], by omega, by go_num, HO2.out, rfl, by simp, by simpa using HR2.out, HG2.out, hs2⟩
  case round =>
    obtain ⟨k, xs, hk, rfl, hown, hxl, hxs, hR, hG, hsz⟩ := hrel
    by_cases hlt : (k : Int) < m
    · have HX := Lib.hid (And.intro hxl hxs)
      have HO := Lib.hid hown
      have HG := Lib.hid hG
      have HR := Lib.hid hR
      clear hown hxl hxs hG hR
      go_wp2_with fail
      have hbr : b < wr.heap.size := by omega
      refine (pick_any b _ 100 _ HR.out (by omega)).mono ?_
      rintro e w3 ⟨v, rfl, hv, hR3, hG3⟩
      have hb3 := Nat.lt_of_lt_of_le hbr hG3.size
      have hv100 : (v : Int) < 100 := by omega
      clear hv
      have hO3 := HO.out.kept hG3 (.inr (by intro h; have := (HO.out.lt b h).1; omega))
      have G3 := g_trans HG.out hG3
      go_wp2_with fail
      refine (one_lit b 8 _ 0 1000 [1, 2, 3, 10, 0, 7, 1 + (v : Int), 1000] _ w3 hR3 (by omega) hb3 rfl (by omega) (by omega) (by simp; omega)).mono ?_
      rintro e w4 ⟨d, rfl, d0, d1, hR4, hG4⟩
      have hO4 := hO3.kept hG4 (.inr (by intro h; have := (hO3.lt b h).1; omega))
      have G4 := g_trans G3 hG4
      have hs4 : w.heap.size < w4.heap.size := by have := hG3.size; have := hG4.size; omega
      clear hO3 G3 hG3 hG4 hR3
      go_wp2_with (first | (at_builtin; refine wpList_append_own _ rfl _ _ 23 rfl w.heap.size 3 i0 (.int .i64 0) 1 8 Try.underlying23 hi hz0 hz1 hz2 rfl (by decide) _ _ _ rfl (hO4.alloc _) ⟨w4.heap.size, 0, none⟩ 1 1 [.int .i64 d] rfl rfl (cell_one_new _ _ _) (fun x hx => by simp at hx; subst hx; rfl) (by unfold maxLen; omega) (by omega) (by simp; omega) ?_; intro v' w5 hown' hgrow5 hnil5))
      have hB5 : Below w.heap.size w4 w5 := ((Below.refl _ w4).alloc (Nat.le_of_lt hs4) _).grown hgrow5 (by simp; omega) (fun q hq => (hO4.lt q hq).1)
      clear hgrow5 hnil5
      obtain ⟨R5, G5⟩ := rd_end (P := P + 1 + 2 * ((k + 1 : Nat) : Int)) hb hR4 (by omega) G4 hB5
      refine ⟨⟨k + 1, xs ++ [d], by omega, by go_num, ?_, by simp [HX.out.1], fun z hz => ?_, R5, G5, by have := hB5.size; omega⟩, by simp [intOf]; omega⟩
      · rw [List.map_append]; exact hown'
      · rcases List.mem_append.1 hz with h | h
        · exact HX.out.2 z h
        · simp at h; omega
    · have e : (k : Int) = m := by omega
      go_wp2_with fail
      go_ret
      exact ⟨_, k, xs, rfl, by omega, by omega, hown, hxl, hxs, hR, hG⟩

/-- what anyWeights leaves -/
def AnyW (w : World) (b : Nat) (P : Int) (e : Ending) (w' : World) : Prop := ∃ (a : Option Addr) (cap : Nat) (xs : List Int), e = .returned (.slice a xs.length cap) ∧ xs.length ≤ 12 ∧ IsInts w' a xs ∧ (∀ z ∈ xs, -1 ≤ z ∧ z ≤ 1001) ∧ Rd w' b (P + 30) ∧ w.grownBy w' (some b)
set_option maxHeartbeats 2000000 in
theorem anyW (b : Nat) (P : Int) (w : World) (h : Rd w b P) (hP : P ≤ 80000) (hb : b < w.heap.size) :
    Calls Try.prog 45 #[.pointer (some ⟨b, 0, none⟩)] w (AnyW w b P) := by
  go_enter Try.func45, Try.ntmps45
  go_wp2_with fail
  refine (someW b P _ h hP hb).mono ?_
  rintro e w1 ⟨v, k, xs, rfl, k1, k12, hO, hxl, hxs, hR1, hG1⟩
  have hb1 := Nat.lt_of_lt_of_le hb hG1.size
  obtain ⟨g, cp, rfl, lg, ltg⟩ := hO.form (by omega)
  have hmk := run_make_row' (P := Try.prog) 23 3 (.int .i64 0) 8 Try.underlying23 infoInt rfl .i64 .i64 k (by omega) (by omega)
  go_wp2_with fail
  refine (pick_any b _ 16 _ hR1 (by omega)).mono ?_
  rintro e w2 ⟨p, rfl, hp, hR2, hG2⟩
  have hb2 := Nat.lt_of_lt_of_le hb1 hG2.size
  have hO2 := hO.kept hG2 (.inr (by simp [Value.ownBlock]; omega))
  have G2 := g_trans hG1 hG2
  clear hO hG1 hG2 hR1
  by_cases p0 : p = 0
  · have e0 : ((p : Int) == 0) = true := by simp [p0]
    clear p0 hp
    clear hmk
    go_wp2_with fail
    refine (one_lit b 2 _ (-1) 1001 [-1, 1001] _ w2 hR2 (by omega) hb2 rfl (by omega) (by omega) (by simp)).mono ?_
    rintro e w3 ⟨d, rfl, d0, d1, hR3, hG3⟩
    have hO3 := hO2.kept hG3 (.inr (by simp [Value.ownBlock]; omega))
    have G3 := g_trans G2 hG3
    have hc0 := hO3.cellAt 0 (by omega)
    obtain ⟨x0, hx0⟩ : ∃ x0, (xs.map (Value.int .i64))[0]? = some x0 := by rw [List.getElem?_eq_getElem (by simp; omega)]; exact ⟨_, rfl⟩
    rw [hx0] at hc0
    have hf0 := hO3.frozenAt 0
    have hS := (hO3.stored 0 (.int .i64 d)).1
    rw [show (xs.map (Value.int .i64)).set 0 (.int .i64 d) = (xs.set 0 d).map (Value.int .i64) by rw [List.map_set]] at hS
    have hB : Below w.heap.size w3 (w3.setCell ⟨g, 0, none⟩ (.int .i64 d)) := (Below.refl _ _).setCell lg _
    have hfin := rd_end (P := P + 30) hb (rd_up (P' := P + 30) hR3 (by omega)) rfl G3 hB
    have HS := Lib.hid (And.intro hS hfin)
    clear hS hfin hB hO3 hO2 hG3 G3 G2 hR3 hR2 hx0
    go_wp2_with fail
    go_ret
    refine ⟨some ⟨g, 0, none⟩, cp, xs.set 0 d, by rw [List.length_set, hxl]; rfl, by rw [List.length_set, hxl]; exact k12, own_isints HS.out.1 (by rw [List.length_set, hxl]), fun z hz => ?_, HS.out.2.1, HS.out.2.2⟩
    rcases List.mem_or_eq_of_mem_set hz with h | h
    · have := hxs z h; omega
    · omega
  · have e0 : ((p : Int) == 0) = false := by simp; omega
    by_cases p1 : p = 1
    · have e1 : ((p : Int) == 1) = true := by simp [p1]
      clear p0 p1 hp
      have hfin := rd_end (P := P + 30) hb (rd_up (P' := P + 30) hR2 (by omega)) rfl G2 ((Below.refl w.heap.size w2).alloc G2.size (.cells (madeCells #[.int .i64 0] k) 3))
      have HF := Lib.hid hfin
      clear hfin hR2 G2
      go_wp2_with fail
      go_ret
      refine ⟨some ⟨w2.heap.size, 0, none⟩, k, List.replicate k 0, by rw [List.length_replicate]; rfl, by rw [List.length_replicate]; exact k12, row_ints ?_, fun z hz => by rw [List.eq_of_mem_replicate hz]; omega, HF.out.1, HF.out.2⟩
      unfold Row
      rw [List.length_replicate]
      refine (World.rowIs_made w2 (.int .i64 0) k _).congr (fun i hi => ?_)
      show Value.int .i64 0 = .int .i64 ((List.replicate k (0 : Int)).getD i 0)
      rw [List.getD_eq_getElem?_getD, List.getElem?_replicate]; split <;> rfl
    · have e1 : ((p : Int) == 1) = false := by simp; omega
      by_cases p2 : p = 2
      · have e2 : ((p : Int) == 2) = true := by simp [p2]
        clear p0 p1 p2 hp hmk
        have HF := Lib.hid (And.intro (rd_up (P' := P + 30) hR2 (by omega)) G2)
        clear hR2 G2
        go_wp2_with fail
        go_ret
        exact ⟨none, 0, [], rfl, by simp, .inl rfl, by simp, HF.out.1, HF.out.2⟩
      · have e2 : ((p : Int) == 2) = false := by simp; omega
        clear p0 p1 p2 hp hmk
        have HF := Lib.hid (And.intro (rd_up (P' := P + 30) hR2 (by omega)) G2)
        have HO := Lib.hid hO2
        clear hR2 G2 hO2
        go_wp2_with fail
        go_ret
        exact ⟨some ⟨g, 0, none⟩, cp, xs, by rw [hxl]; rfl, by omega, own_isints HO.out hxl, fun z hz => by have := hxs z hz; omega, HF.out.1, HF.out.2⟩

/-- what DrawQuotasOf leaves -/
def DrawnQ (w : World) (e : Ending) (w' : World) : Prop := ∃ (n : Int) (a : Option Addr) (cap : Nat) (xs : List Int), e = .returned (.tuple #[.int .i64 n, .slice a xs.length cap]) ∧ -1 ≤ n ∧ n ≤ 501 ∧ xs.length ≤ 12 ∧ IsInts w' a xs ∧ (∀ z ∈ xs, -1 ≤ z ∧ z ≤ 1001) ∧ Below w.heap.size w w'
theorem g_made {w w1 w2 : World} (h : Below w.heap.size w w1) (hG : w1.grownBy w2 (some w.heap.size)) : Below w.heap.size w w2 := below_grown h hG (Nat.le_refl _)
end Go.Proofs.Ytigapnbpgbfbhab
