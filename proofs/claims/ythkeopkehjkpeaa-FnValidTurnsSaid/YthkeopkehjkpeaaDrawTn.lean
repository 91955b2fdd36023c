/- The rotations that the laws draw. Condition: the reader has read at most 80000 numbers before. -/
import Derived.Test.YthkeopkehjkpeaaMerge
import Derived.Test.YthkeopkehjkpeaaRead
namespace Go.Proofs.Ythkeopkehjkpeaa
open Go.RowKit
set_option linter.unusedSimpArgs false
set_option linter.unusedVariables false

theorem valsTn_set1 : ∀ (ts : List Tn) (k : Nat) (z : Int), k < ts.length → (valsTn ts).set (k * 2) (.int .i64 z) = valsTn (ts.set k (z, (ts.getD k tn0).2)) := by
  intro ts k z hk
  have h := flatTn_set ts k (z, (ts.getD k tn0).2) hk
  have hl := flatTn_len ts
  have e : ((flatTn ts).set (k * 2) z).set (k * 2 + 1) (ts.getD k tn0).2 = (flatTn ts).set (k * 2) z := by
    apply List.ext_getElem?
    intro i
    rw [List.getElem?_set]
    by_cases c : k * 2 + 1 = i
    · subst c
      rw [if_pos rfl, if_pos (by rw [List.length_set]; omega), List.getElem?_set, if_neg (by omega), ← (flatTn_get ts k hk).2, List.getD_eq_getElem?_getD, List.getElem?_eq_getElem (by omega)]; rfl
    · rw [if_neg c]
  dsimp only at h
  rw [e] at h
  unfold valsTn
  rw [← h, List.map_set]

/-- what someTurns leaves -/
def SomeTn (w : World) (b : Nat) (P : Int) (e : Ending) (w' : World) : Prop := ∃ (v : Value) (k : Nat) (xs : List Tn), e = .returned v ∧ 1 ≤ k ∧ k ≤ 6 ∧ w'.ownsRow w.heap.size 31 2 v k (valsTn xs) ∧ xs.length = k ∧ (∀ z ∈ xs, 1 ≤ z.1 ∧ z.1 ≤ 7 ∧ 1 ≤ z.2 ∧ z.2 ≤ 12) ∧ Rd w' b (P + 1 + 3 * (k : Int)) ∧ w.grownBy w' (some b)

set_option maxRecDepth 100000 in
set_option maxHeartbeats 4000000 in
theorem someTn (b : Nat) (P : Int) (w : World) (h : Rd w b P) (hP : P ≤ 80000) (hb : b < w.heap.size) :
    Calls Try.prog 64 #[.pointer (some ⟨b, 0, none⟩)] w (SomeTn w b P) := by
  obtain ⟨i0, hi, hz0, hz1, hz2⟩ := info_parts infoTn
  go_enter Try.func64, Try.ntmps64
  go_wp2_with fail
  have hO : (w.alloc (.cells #[] 31)).ownsRow w.heap.size 31 2 (.slice (some ⟨w.heap.size, 0, none⟩) 0 0) 0 [] := ⟨by simp, .inr ⟨w.heap.size, 0, #[], rfl, Nat.le_refl _, Go.Deep.blk_alloc_new _ _, Nat.le_refl _, by unfold maxLen; omega, rfl, rfl⟩⟩
  have HO := Lib.hid hO
  have HR := Lib.hid (rd_alloc h hb (.cells #[] 31))
  have HG := Lib.hid (World.grownBy_alloc w (.cells #[] 31) (some b))
  clear hO h
  have hs : w.heap.size + 1 = (w.alloc (.cells #[] 31)).heap.size := by simp
  rw [hs]
  generalize w.alloc (.cells #[] 31) = w1 at *
  have hb1 : b < w1.heap.size := by omega
  refine (one_lit b 5 P 1 6 [3, 4, 2, 6, 1] _ w1 HR.out (by omega) hb1 rfl (by omega) (by omega) (by simp)).mono ?_
  rintro e w2 ⟨m, rfl, m0, m1, hR2, hG2⟩
  have HO2 := Lib.hid (HO.out.kept hG2 (.inr (by simp [Value.ownBlock]; omega)))
  have HR2 := Lib.hid hR2
  have HG2 := Lib.hid (g_trans HG.out hG2)
  have hs2 : w.heap.size < w2.heap.size := by have := hG2.size; omega
  clear hG2 hR2 HO HR HG
  go_wp2_with fail
  go_loopw [3, 4] (fun v l wr => ∃ (k : Nat) (xs : List Tn), (k : Int) ≤ m ∧ l = .int .i64 (m - k) ∧ wr.ownsRow w.heap.size 31 2 v k (valsTn xs) ∧ xs.length = k ∧ (∀ z ∈ xs, 1 ≤ z.1 ∧ z.1 ≤ 7 ∧ 1 ≤ z.2 ∧ z.2 ≤ 12) ∧ Rd wr b (P + 1 + 3 * (k : Int)) ∧ w.grownBy wr (some b) ∧ w.heap.size < wr.heap.size) (fun _ l _ => (intOf l).toNat)
  case atStart => exact ⟨0, [], by omega, by go_num, HO2.out, rfl, by simp, by simpa using HR2.out, HG2.out, hs2⟩
  case round =>
    obtain ⟨k, xs, hk, rfl, hown, hxl, hxs, hR, hG, hsz⟩ := hrel
    by_cases hlt : (k : Int) < m
    · have HX := Lib.hid (And.intro hxl hxs)
      have HO := Lib.hid hown
      have HG := Lib.hid hG
      have HR := Lib.hid hR
      clear hown hxl hxs hG hR
      have hbr : b < wr.heap.size := by omega
      go_wp2_with fail
      refine (one_lit b 5 _ 1 7 [1, 2, 3, 4, 7] _ wr HR.out (by omega) hbr rfl (by omega) (by omega) (by simp)).mono ?_
      rintro e w3 ⟨ow, rfl, o0, o1, hR3, hG3⟩
      have hb3 := Nat.lt_of_lt_of_le hbr hG3.size
      have hO3 := HO.out.kept hG3 (.inr (by intro h; have := (HO.out.lt b h).1; omega))
      have G3 := g_trans HG.out hG3
      have hs3 : w.heap.size < w3.heap.size := by have := hG3.size; omega
      clear hG3 HO HR HG
      go_wp2_with fail
      refine (pick_any b _ 12 _ hR3 (by omega)).mono ?_
      rintro e w4 ⟨v, rfl, hv, hR4, hG4⟩
      have hb4 := Nat.lt_of_lt_of_le hb3 hG4.size
      have hv12 : (v : Int) < 12 := by omega
      clear hv
      have hO4 := hO3.kept hG4 (.inr (by intro h; have := (hO3.lt b h).1; omega))
      have G4 := g_trans G3 hG4
      have hs4 : w.heap.size < w4.heap.size := by have := hG4.size; omega
      clear hG4 hO3 hR3 G3
      go_wp2_with fail
      refine (one_lit b 5 _ 1 12 [3, 6, 1, 8, 1 + (v : Int)] _ w4 hR4 (by omega) hb4 rfl (by omega) (by omega) (by simp; omega)).mono ?_
      rintro e w5 ⟨d, rfl, d0, d1, hR5, hG5⟩
      have hO5 := hO4.kept hG5 (.inr (by intro h; have := (hO4.lt b h).1; omega))
      have G5 := g_trans G4 hG5
      have hs5 : w.heap.size < w5.heap.size := by have := hG5.size; omega
      clear hG5 hO4 hR4 G4
      have HR5 := Lib.hid hR5
      have HG5 := Lib.hid G5
      have HO5 := Lib.hid hO5
      clear hR5 G5 hO5
      go_wp2_with (first | (at_builtin; refine wpList_append_own _ rfl (.tmp 13) (.tmp 24) _ rfl w.heap.size 31 i0 _ 2 16 Try.underlying23 hi hz0 hz1 hz2 rfl (by decide) _ _ _ rfl (HO5.out.alloc _) ⟨w5.heap.size, 0, none⟩ 1 1 [.int .i64 ow, .int .i64 d] rfl rfl (new_cells w5 _ _) (valsTn_one [(ow, d)]) (by unfold maxLen; omega) (by omega) (by simp; omega) ?_; intro v' w6 hown' hgrow6 hnil6))
      have hB6 : Below w.heap.size w5 w6 := ((Below.refl _ w5).alloc (Nat.le_of_lt hs5) _).grown hgrow6 (by simp; omega) (fun q hq => (HO5.out.lt q hq).1)
      clear hgrow6 hnil6
      obtain ⟨R6, G6⟩ := rd_end (P := P + 1 + 3 * ((k + 1 : Nat) : Int)) hb (rd_up (P' := P + 1 + 3 * ((k + 1 : Nat) : Int)) HR5.out (by omega)) rfl HG5.out hB6
      refine ⟨⟨k + 1, xs ++ [(ow, d)], by omega, by go_num, ?_, by simp [HX.out.1], fun z hz => ?_, R6, G6, by have := hB6.size; omega⟩, by simp [intOf]; omega⟩
      · rw [valsTn_append]; exact hown'
      · rcases List.mem_append.1 hz with h | h
        · exact HX.out.2 z h
        · simp at h; subst h; exact ⟨o0, o1, d0, d1⟩
    · have e : (k : Int) = m := by omega
      go_wp2_with fail
      go_ret
      exact ⟨_, k, xs, rfl, by omega, by omega, hown, hxl, hxs, hR, hG⟩

/-- what anyTurns leaves -/
def AnyTn (w : World) (b : Nat) (P : Int) (e : Ending) (w' : World) : Prop := ∃ (a : Option Addr) (cap : Nat) (xs : List Tn), e = .returned (.slice a xs.length cap) ∧ xs.length ≤ 6 ∧ xs.length ≤ cap ∧ IsTn w' a xs ∧ (∀ ad, a = some ad → w.heap.size ≤ ad.block) ∧ (∀ z ∈ xs, 0 ≤ z.1 ∧ z.1 ≤ 1000 ∧ 0 ≤ z.2 ∧ z.2 ≤ 337) ∧ Rd w' b (P + 30) ∧ w.grownBy w' (some b)
theorem own_istn {w : World} {base g cp k : Nat} {xs : List Tn} (h : w.ownsRow base 31 2 (.slice (some ⟨g, 0, none⟩) k cp) k (valsTn xs)) (hl : xs.length = k) : IsTn w (some ⟨g, 0, none⟩) xs ∧ k ≤ cp := by
  subst hl
  rcases Flat.own (zs := flatTn xs) h with ⟨hv, _⟩ | ⟨g', cp', hv, _, F, hc⟩
  · cases hv
  · injection hv with e1 e2 e3
    injection e1 with e1
    injection e1 with e1
    subst e1 e3
    exact ⟨F.tn, hc⟩
set_option maxRecDepth 100000 in
set_option maxHeartbeats 4000000 in
theorem anyTn (b : Nat) (P : Int) (w : World) (h : Rd w b P) (hP : P ≤ 80000) (hb : b < w.heap.size) :
    Calls Try.prog 46 #[.pointer (some ⟨b, 0, none⟩)] w (AnyTn w b P) := by
  go_enter Try.func46, Try.ntmps46
  go_wp2_with fail
  refine (someTn b P _ h hP hb).mono ?_
  rintro e w1 ⟨v, k, xs, rfl, k1, k6, hO, hxl, hxs, hR1, hG1⟩
  have hb1 := Nat.lt_of_lt_of_le hb hG1.size
  obtain ⟨g, cp, rfl, lg, ltg⟩ := hO.form (by omega)
  go_wp2_with fail
  refine (pick_any b _ 20 _ hR1 (by omega)).mono ?_
  rintro e w2 ⟨p, rfl, hp, hR2, hG2⟩
  have hb2 := Nat.lt_of_lt_of_le hb1 hG2.size
  have hO2 := hO.kept hG2 (.inr (by simp [Value.ownBlock]; omega))
  have G2 := g_trans hG1 hG2
  clear hO hG1 hG2 hR1
  have bd : ∀ z ∈ xs, 0 ≤ z.1 ∧ z.1 ≤ 1000 ∧ 0 ≤ z.2 ∧ z.2 ≤ 337 := fun z hz => by have := hxs z hz; omega
  have bd0 : 0 ≤ (xs.getD 0 tn0).1 ∧ (xs.getD 0 tn0).1 ≤ 1000 ∧ 0 ≤ (xs.getD 0 tn0).2 ∧ (xs.getD 0 tn0).2 ≤ 337 := bd _ (by rw [getD_lt _ (by omega : 0 < xs.length)]; exact List.getElem_mem _)
  have HBD := Lib.hid bd
  have HBD0 := Lib.hid bd0
  have HXL := Lib.hid hxl
  clear bd bd0 hxs
  by_cases p0 : p = 0
  · have e0 : ((p : Int) == 0) = true := by simp [p0]
    clear p0 hp
    go_wp2_with fail
    refine (one_lit b 3 _ 0 337 [0, 337, 336] _ w2 hR2 (by omega) hb2 rfl (by omega) (by omega) (by simp)).mono ?_
    rintro e w3 ⟨d, rfl, d0, d1, hR3, hG3⟩
    have hO3 := hO2.kept hG3 (.inr (by simp [Value.ownBlock]; omega))
    have G3 := g_trans G2 hG3
    have hc0 := hO3.cellAt 1 (by omega)
    rw [(valsTn_get (xs := xs) (k := 0) (by omega)).2] at hc0
    have hf0 := hO3.frozenAt 1
    have hS := (hO3.stored 1 (.int .i64 d)).1
    rw [valsTn_set2 xs 0 d (by omega)] at hS
    have hB : Below w.heap.size w3 (w3.setCell ⟨g, 1, none⟩ (.int .i64 d)) := (Below.refl _ _).setCell lg _
    have hfin := rd_end (P := P + 30) hb (rd_up (P' := P + 30) hR3 (by omega)) rfl G3 hB
    have HS := Lib.hid (And.intro hS hfin)
    generalize (xs.getD 0 tn0).2 = x0 at hc0
    clear hS hfin hB hO3 hO2 hG3 G3 G2 hR3 hR2 hxl
    go_wp2_with fail
    go_ret
    have hl2 : (xs.set 0 ((xs.getD 0 tn0).1, d)).length = k := by rw [List.length_set]; exact HXL.out
    obtain ⟨I, hcp⟩ := own_istn HS.out.1 hl2
    refine ⟨some ⟨g, 0, none⟩, cp, xs.set 0 ((xs.getD 0 tn0).1, d), by rw [hl2]; rfl, by omega, by omega, I, (fun ad e => by injection e with e; subst e; exact lg), fun z hz => ?_, HS.out.2.1, HS.out.2.2⟩
    rcases List.mem_or_eq_of_mem_set hz with h | h
    · exact HBD.out z h
    · subst h; have := HBD0.out; exact ⟨this.1, this.2.1, d0, d1⟩
  · have e0 : ((p : Int) == 0) = false := by simp; omega
    by_cases p1 : p = 1
    · have e1 : ((p : Int) == 1) = true := by simp [p1]
      clear p0 p1 hp
      go_wp2_with fail
      refine (one_lit b 2 _ 0 1000 [0, 1000] _ w2 hR2 (by omega) hb2 rfl (by omega) (by omega) (by simp)).mono ?_
      rintro e w3 ⟨d, rfl, d0, d1, hR3, hG3⟩
      have hO3 := hO2.kept hG3 (.inr (by simp [Value.ownBlock]; omega))
      have G3 := g_trans G2 hG3
      have hc0 := hO3.cellAt 0 (by omega)
      rw [(valsTn_get (xs := xs) (k := 0) (by omega)).1] at hc0
      have hf0 := hO3.frozenAt 0
      have hS := (hO3.stored 0 (.int .i64 d)).1
      rw [valsTn_set1 xs 0 d (by omega)] at hS
      have hB : Below w.heap.size w3 (w3.setCell ⟨g, 0, none⟩ (.int .i64 d)) := (Below.refl _ _).setCell lg _
      have hfin := rd_end (P := P + 30) hb (rd_up (P' := P + 30) hR3 (by omega)) rfl G3 hB
      have HS := Lib.hid (And.intro hS hfin)
      generalize (xs.getD 0 tn0).1 = x0 at hc0
      clear hS hfin hB hO3 hO2 hG3 G3 G2 hR3 hR2 hxl
      go_wp2_with fail
      go_ret
      have hl2 : (xs.set 0 (d, (xs.getD 0 tn0).2)).length = k := by rw [List.length_set]; exact HXL.out
      obtain ⟨I, hcp⟩ := own_istn HS.out.1 hl2
      refine ⟨some ⟨g, 0, none⟩, cp, xs.set 0 (d, (xs.getD 0 tn0).2), by rw [hl2]; rfl, by omega, by omega, I, (fun ad e => by injection e with e; subst e; exact lg), fun z hz => ?_, HS.out.2.1, HS.out.2.2⟩
      rcases List.mem_or_eq_of_mem_set hz with h | h
      · exact HBD.out z h
      · subst h; have := HBD0.out; exact ⟨d0, d1, this.2.2.1, this.2.2.2⟩
    · have e1 : ((p : Int) == 1) = false := by simp; omega
      by_cases p2 : p = 2
      · have e2 : ((p : Int) == 2) = true := by simp [p2]
        clear p0 p1 p2 hp
        have HF := Lib.hid (And.intro (rd_up (P' := P + 30) hR2 (by omega)) G2)
        clear hR2 G2
        go_wp2_with fail
        go_ret
        exact ⟨none, 0, [], rfl, by simp, Nat.le_refl _, .inl rfl, (fun ad e => by cases e), by simp, HF.out.1, HF.out.2⟩
      · have e2 : ((p : Int) == 2) = false := by simp; omega
        clear p0 p1 p2 hp
        have HF := Lib.hid (And.intro (rd_up (P' := P + 30) hR2 (by omega)) G2)
        have HO := Lib.hid hO2
        clear hR2 G2 hO2
        go_wp2_with fail
        go_ret
        obtain ⟨I, hcp⟩ := own_istn HO.out HXL.out
        exact ⟨some ⟨g, 0, none⟩, cp, xs, by rw [HXL.out]; rfl, by have := HXL.out; omega, by have := HXL.out; omega, I, (fun ad e => by injection e with e; subst e; exact lg), HBD.out, HF.out.1, HF.out.2⟩
theorem tn_grown {w w' : World} {a : Option Addr} {xs : List Tn} {b base : Nat} (h : IsTn w a xs) (hb : ∀ ad, a = some ad → base ≤ ad.block) (hlt : b < base) (hG : w.grownBy w' (some b)) : IsTn w' a xs := by
  rcases h with h | ⟨g, o, ha, hc⟩
  · exact .inl h
  · refine .inr ⟨g, o, ha, fun i hi => ?_⟩
    have hg := hb _ ha
    have hne : g ≠ b := by
      have : base ≤ g := hg
      omega
    obtain ⟨c0, c1⟩ := hc i hi
    exact ⟨(g_cell hG (World.block_lt_of_cell? w _ c0) hne).trans c0, (g_cell hG (World.block_lt_of_cell? w _ c1) hne).trans c1⟩
end Go.Proofs.Ythkeopkehjkpeaa
