/- The divisions that the laws draw; backwards. Condition: at most 1048576 numbers. -/
import Derived.Test.YtlellobigckolaaHigh
namespace Go.Proofs.Ytlellobigckolaa
open Go.RowKit

theorem rev_get (zs : List Int) {k : Nat} (h : k < zs.length) : zs.reverse.getD k 0 = zs.getD (zs.length - 1 - k) 0 := by
  rw [List.getD_eq_getElem?_getD, List.getD_eq_getElem?_getD, List.getElem?_reverse h]
set_option maxHeartbeats 1000000 in
theorem lback (m : Nat) (a : Option Addr) (ca : Nat) (zs : List Int) (w : World) (hl : zs.length = m) (h : IsInts w a zs) (hm : 0 < m) (hn : m ≤ 1048576) :
    Calls Try.prog 43 #[.slice a m ca] w (Lessd m zs.reverse w) := by
  rcases h with rfl | ⟨g, o, rfl, hc⟩
  · exact absurd hm (by simp at hl; omega)
  obtain ⟨ti, hi, hz0, hz1, hz2⟩ := info_parts infoInt
  have HC := Lib.hid hc
  have HRL := Lib.hid (show zs.reverse.length = m by rw [List.length_reverse]; exact hl)
  clear hc
  go_enter Try.func43, Try.ntmps43
  go_wp2_with fail
  go_loopw [3, 4] (fun v i wr => ∃ k : Nat, k ≤ m ∧ i = .int .i64 ((m : Int) - 1 - k) ∧ wr.ownsRow w.heap.size 3 1 v k ((zs.reverse.take k).map (Value.int .i64)) ∧ Below w.heap.size w wr) (fun _ i _ => (intOf i + 1).toNat)
  case atStart => exact ⟨0, Nat.zero_le _, by go_num, ⟨by simp, .inr ⟨w.heap.size, 0, #[], rfl, Nat.le_refl _, Go.Deep.blk_alloc_new _ _, Nat.le_refl _, by unfold maxLen; omega, rfl, rfl⟩⟩, by go_grown⟩
  case round =>
    obtain ⟨k, hk, rfl, hown, hB⟩ := hrel
    have hsz := hB.size
    by_cases hlt : k < m
    · have hc := (hB.cell (p := ⟨g, o + (m - 1 - k), none⟩) (World.block_lt_of_cell? w _ (HC.out (m - 1 - k) (by omega)))).trans (HC.out (m - 1 - k) (by omega))
      have ht := take_map zs.reverse k (by rw [HRL.out]; exact hlt)
      rw [rev_get zs (by omega), hl] at ht
      generalize zs.getD (m - 1 - k) 0 = z at *
      have HT := Lib.hid ht
      clear ht
      obtain ⟨q, hq⟩ : ∃ q : Nat, q = m - 1 - k := ⟨_, rfl⟩
      have hqi : (m : Int) - 1 - k = (q : Int) := by omega
      rw [← hq] at hc
      rw [hqi]
      have HQ := Lib.hid (And.intro hqi (show q < m by omega))
      have i0 : (0 : Int) ≤ (q : Int) := by omega
      have i1 : (q : Int) < (m : Int) := by omega
      clear hq hqi
      go_wp2_with (first | (at_builtin; refine wpList_append_own _ rfl _ _ 22 rfl w.heap.size 3 ti (.int .i64 0) 1 8 Try.underlying22 hi hz0 hz1 hz2 rfl (by decide) _ _ _ rfl (hown.alloc _) ⟨wr.heap.size, 0, none⟩ 1 1 [.int .i64 z] rfl rfl (cell_one_new _ _ _) (fun x hx => by simp at hx; subst hx; rfl) (by unfold maxLen; omega) (by omega) (by simp; omega) ?_; intro v' w3 hown' hgrow3 hnil3))
      have HR : Hid (w3.ownsRow w.heap.size 3 1 v' (k + 1) ((zs.reverse.take (k + 1)).map (Value.int .i64)) ∧ Below w.heap.size w w3) := ⟨by rw [HT.out]; exact hown', (hB.alloc hsz _).grown hgrow3 (by simp; omega) (fun q hq => (hown.lt q hq).1)⟩
      clear hown hown' hgrow3 hnil3 hB
      go_roundw
      case rel => exact ⟨k + 1, by omega, congrArg (Value.int .i64) (by have := HQ.out; omega), HR.out.1, HR.out.2⟩
      case measure => simp [intOf]
    · have HW := Lib.hid hown
      have HB := Lib.hid hB
      have hek : k = m := by omega
      subst hek
      clear hown hB
      have e1 : (k : Int) - 1 - k = -1 := by omega
      rw [e1]
      go_wp2_with fail
      go_ret
      have ho := HW.out
      rw [List.take_of_length_le (by rw [HRL.out]; omega)] at ho
      have hrl := HRL.out
      have ho2 : _ = _ := hrl
      generalize zs.reverse = rs at *
      subst hrl
      obtain ⟨b, cp, hv, hin⟩ := own_ints ho
      exact ⟨b, cp, congrArg Ending.returned hv, hin, HB.out⟩

-- anyW2 begins
/-- what anyWeights leaves, and where it lies -/
def AnyW2 (w : World) (b : Nat) (P : Int) (e : Ending) (w' : World) : Prop := ∃ (a : Option Addr) (cap : Nat) (xs : List Int), e = .returned (.slice a xs.length cap) ∧ xs.length ≤ 12 ∧ IsInts w' a xs ∧ (∀ z ∈ xs, -1 ≤ z ∧ z ≤ 1001) ∧ Rd w' b (P + 30) ∧ w.grownBy w' (some b) ∧ (∀ p, a = some p → w.heap.size ≤ p.block)
set_option maxHeartbeats 2000000 in
theorem anyW2 (b : Nat) (P : Int) (w : World) (h : Rd w b P) (hP : P ≤ 80000) (hb : b < w.heap.size) :
    Calls Try.prog 61 #[.pointer (some ⟨b, 0, none⟩)] w (AnyW2 w b P) := by
  go_enter Try.func61, Try.ntmps61
  go_wp2_with fail
  refine (someW b P _ h hP hb).mono ?_
  rintro e w1 ⟨v, k, xs, rfl, k1, k12, hO, hxl, hxs, hR1, hG1⟩
  have hb1 := Nat.lt_of_lt_of_le hb hG1.size
  obtain ⟨g, cp, rfl, lg, ltg⟩ := hO.form (by omega)
  have hmk := run_make_row' (P := Try.prog) 22 3 (.int .i64 0) 8 Try.underlying22 infoInt rfl .i64 .i64 k (by omega) (by omega)
  go_wp2_with fail
  refine (pick_any b _ 16 _ hR1 (by omega)).mono ?_
  rintro e w2 ⟨p, rfl, hp, hR2, hG2⟩
  have hb2 := Nat.lt_of_lt_of_le hb1 hG2.size
  have hO2 := hO.kept hG2 (.inr (by simp [Value.ownBlock]; omega))
  have G2 := g_trans hG1 hG2
  clear hO hG1 hG2 hR1
  by_cases p0 : p = 0
  · have e0 : ((p : Int) == 0) = true := by simp [p0]
    clear p0 hp
    clear hmk
    go_wp2_with fail
    refine (one_lit b 2 _ (-1) 1001 [-1, 1001] _ w2 hR2 (by omega) hb2 rfl (by omega) (by omega) (by simp)).mono ?_
    rintro e w3 ⟨d, rfl, d0, d1, hR3, hG3⟩
    have hO3 := hO2.kept hG3 (.inr (by simp [Value.ownBlock]; omega))
    have G3 := g_trans G2 hG3
    have hc0 := hO3.cellAt 0 (by omega)
    obtain ⟨x0, hx0⟩ : ∃ x0, (xs.map (Value.int .i64))[0]? = some x0 := by rw [List.getElem?_eq_getElem (by simp; omega)]; exact ⟨_, rfl⟩
    rw [hx0] at hc0
    have hf0 := hO3.frozenAt 0
    have hS := (hO3.stored 0 (.int .i64 d)).1
    rw [show (xs.map (Value.int .i64)).set 0 (.int .i64 d) = (xs.set 0 d).map (Value.int .i64) by rw [List.map_set]] at hS
    have hB : Below w.heap.size w3 (w3.setCell ⟨g, 0, none⟩ (.int .i64 d)) := (Below.refl _ _).setCell lg _
    have hfin := rd_end (P := P + 30) hb (rd_up (P' := P + 30) hR3 (by omega)) rfl G3 hB
    have HS := Lib.hid (And.intro hS hfin)
    clear hS hfin hB hO3 hO2 hG3 G3 G2 hR3 hR2 hx0
    go_wp2_with fail
    go_ret
    refine ⟨some ⟨g, 0, none⟩, cp, xs.set 0 d, by rw [List.length_set, hxl]; rfl, by rw [List.length_set, hxl]; exact k12, own_isints HS.out.1 (by rw [List.length_set, hxl]), fun z hz => ?_, HS.out.2.1, HS.out.2.2, fun p hp => by injection hp with hp; subst hp; exact lg⟩
    rcases List.mem_or_eq_of_mem_set hz with h | h
    · have := hxs z h; omega
    · omega
  · have e0 : ((p : Int) == 0) = false := by simp; omega
    by_cases p1 : p = 1
    · have e1 : ((p : Int) == 1) = true := by simp [p1]
      clear p0 p1 hp
      have hfin := rd_end (P := P + 30) hb (rd_up (P' := P + 30) hR2 (by omega)) rfl G2 ((Below.refl w.heap.size w2).alloc G2.size (.cells (madeCells #[.int .i64 0] k) 3))
      have HF := Lib.hid hfin
      have hw2 := G2.size
      clear hfin hR2 G2
      go_wp2_with fail
      go_ret
      refine ⟨some ⟨w2.heap.size, 0, none⟩, k, List.replicate k 0, by rw [List.length_replicate]; rfl, by rw [List.length_replicate]; exact k12, row_ints ?_, fun z hz => by rw [List.eq_of_mem_replicate hz]; omega, HF.out.1, HF.out.2, fun p hp => by injection hp with hp; subst hp; exact hw2⟩
      unfold Row
      rw [List.length_replicate]
      refine (World.rowIs_made w2 (.int .i64 0) k _).congr (fun i hi => ?_)
      show Value.int .i64 0 = .int .i64 ((List.replicate k (0 : Int)).getD i 0)
      rw [List.getD_eq_getElem?_getD, List.getElem?_replicate]; split <;> rfl
    · have e1 : ((p : Int) == 1) = false := by simp; omega
      by_cases p2 : p = 2
      · have e2 : ((p : Int) == 2) = true := by simp [p2]
        clear p0 p1 p2 hp hmk
        have HF := Lib.hid (And.intro (rd_up (P' := P + 30) hR2 (by omega)) G2)
        clear hR2 G2
        go_wp2_with fail
        go_ret
        exact ⟨none, 0, [], rfl, by simp, .inl rfl, by simp, HF.out.1, HF.out.2, fun p hp => by cases hp⟩
      · have e2 : ((p : Int) == 2) = false := by simp; omega
        clear p0 p1 p2 hp hmk
        have HF := Lib.hid (And.intro (rd_up (P' := P + 30) hR2 (by omega)) G2)
        have HO := Lib.hid hO2
        clear hR2 G2 hO2
        go_wp2_with fail
        go_ret
        exact ⟨some ⟨g, 0, none⟩, cp, xs, by rw [hxl]; rfl, by omega, own_isints HO.out hxl, fun z hz => by have := hxs z hz; omega, HF.out.1, HF.out.2, fun p hp => by injection hp with hp; subst hp; exact lg⟩

-- anyW2 ends
/-- what DrawDistanceOf leaves -/
def DrawnD (w : World) (e : Ending) (w' : World) : Prop := ∃ (b : Option Addr) (cb : Nat) (gs : List Int) (a : Option Addr) (ca : Nat) (ws : List Int), e = .returned (.tuple #[.slice b ws.length cb, .slice a ws.length ca]) ∧ gs.length = ws.length ∧ ws.length ≤ 12 ∧ IsInts w' b gs ∧ IsInts w' a ws ∧ (∀ z ∈ gs, -1 ≤ z ∧ z ≤ 501) ∧ (∀ z ∈ ws, -1 ≤ z ∧ z ≤ 1001) ∧ Below w.heap.size w w'
set_option maxHeartbeats 2000000 in
theorem drawD (a : Option Addr) (len cap : Nat) (zs : List Int) (w : World) (h : IsRow .u8 w a len cap zs) :
    Calls Try.prog 42 #[.slice a len cap] w (DrawnD w) := by
  obtain ⟨ti, hi, hz0, hz1, hz2⟩ := info_parts infoInt
  go_enter Try.func42, Try.ntmps42
  go_wp2_with fail
  refine (newReader_any a len cap zs _ h).mono ?_
  rintro e w1 ⟨rfl, hR1, hB1, hs1⟩
  go_wp2_with fail
  refine (anyW2 w.heap.size _ _ hR1 (by omega) hs1).mono ?_
  rintro e w2 ⟨b, cp, xs, rfl, hl, hI, hz, hR2, hG2, hlo⟩
  have hB2 := g_made hB1 hG2
  have hs2 := Nat.lt_of_lt_of_le hs1 hG2.size
  have hI2 : xs = [] ∨ ∃ g o, b = some ⟨g, o, none⟩ ∧ g ≠ w.heap.size ∧ ∀ i, i < xs.length → w2.cell? ⟨g, o + i, none⟩ = some (.int .i64 (xs.getD i 0)) := by
    rcases hI with h | ⟨g, o, hb, hc⟩
    · exact .inl h
    · exact .inr ⟨g, o, hb, by have := hlo _ hb; simp at this; omega, hc⟩
  have hkeep : ∀ w', w2.grownBy w' (some w.heap.size) → IsInts w' b xs := fun w' hG => by
    rcases hI2 with h | ⟨g, o, hb, hne, hc⟩
    · exact .inl h
    · exact .inr ⟨g, o, hb, fun i hi => (g_cell hG (World.block_lt_of_cell? w2 _ (hc i hi)) hne).trans (hc i hi)⟩
  have HI := Lib.hid hkeep
  have HZ := Lib.hid hz
  have HR := Lib.hid (rd_alloc hR2 hs2 (.cells #[] 3))
  have HG := Lib.hid (World.grownBy_alloc w2 (.cells #[] 3) (some w.heap.size))
  clear hI hI2 hkeep hlo hz hB1 hG2 hR1 hR2 h
  go_wp2_with fail
  go_loopw [6, 7] (fun v i wr => ∃ (k : Nat) (gs : List Int), k ≤ xs.length ∧ i = .int .i64 k ∧ wr.ownsRow w2.heap.size 3 1 v k (gs.map (Value.int .i64)) ∧ gs.length = k ∧ (∀ z ∈ gs, 0 ≤ z ∧ z ≤ 20) ∧ Rd wr w.heap.size (30 + 2 * (k : Int)) ∧ w2.grownBy wr (some w.heap.size) ∧ w2.heap.size < wr.heap.size) (fun _ i _ => xs.length - (intOf i).toNat)
  case atStart => exact ⟨0, [], Nat.zero_le _, rfl, ⟨by simp, .inr ⟨w2.heap.size, 0, #[], rfl, Nat.le_refl _, Go.Deep.blk_alloc_new _ _, Nat.le_refl _, by unfold maxLen; omega, rfl, rfl⟩⟩, rfl, by simp, by simpa using HR.out, HG.out, by simp⟩
  case round =>
    obtain ⟨k, gs, hk, rfl, hown, hgl, hgz, hR, hG, hsz⟩ := hrel
    by_cases hlt : k < xs.length
    · have HX := Lib.hid (And.intro hgl hgz)
      have HO := Lib.hid hown
      have HG1 := Lib.hid hG
      have hbr : w.heap.size < wr.heap.size := by omega
      clear hown hgl hgz hG
      go_wp2_with fail
      refine (pick_any w.heap.size _ 10 _ hR (by omega)).mono ?_
      rintro e w3 ⟨v, rfl, hv, hR3, hG3⟩
      have hb3 := Nat.lt_of_lt_of_le hbr hG3.size
      have hv10 : (v : Int) < 10 := by omega
      clear hv
      have hO3 := HO.out.kept hG3 (.inr (by intro h; have := (HO.out.lt _ h).1; omega))
      have G3 := g_trans HG1.out hG3
      go_wp2_with fail
      refine (one_lit w.heap.size 4 _ 0 20 [(v : Int), 0, 3, 20] _ w3 hR3 (by omega) hb3 rfl (by omega) (by omega) (by simp; omega)).mono ?_
      rintro e w4 ⟨d, rfl, d0, d1, hR4, hG4⟩
      have hO4 := hO3.kept hG4 (.inr (by intro h; have := (hO3.lt _ h).1; omega))
      have G4 := g_trans G3 hG4
      have hs4 : w2.heap.size < w4.heap.size := by have := hG3.size; have := hG4.size; omega
      clear hO3 G3 hG3 hG4 hR3 hR
      go_wp2_with (first | (at_builtin; refine wpList_append_own _ rfl _ _ 22 rfl w2.heap.size 3 ti (.int .i64 0) 1 8 Try.underlying22 hi hz0 hz1 hz2 rfl (by decide) _ _ _ rfl (hO4.alloc _) ⟨w4.heap.size, 0, none⟩ 1 1 [.int .i64 d] rfl rfl (cell_one_new _ _ _) (fun x hx => by simp at hx; subst hx; rfl) (by unfold maxLen; omega) (by omega) (by simp; omega) ?_; intro v' w5 hown' hgrow5 hnil5))
      have hB5 : Below w2.heap.size w4 w5 := ((Below.refl _ w4).alloc (Nat.le_of_lt hs4) _).grown hgrow5 (by simp; omega) (fun q hq => (hO4.lt q hq).1)
      clear hgrow5 hnil5
      obtain ⟨R5, G5⟩ := rd_end (P := 30 + 2 * ((k + 1 : Nat) : Int)) hs2 hR4 (by omega) G4 hB5
      have HF := Lib.hid (And.intro hown' (And.intro R5 (And.intro G5 hB5.size)))
      clear hown' R5 G5 hB5 hO4 G4 hR4
      go_roundw
      case rel =>
        refine ⟨k + 1, gs ++ [d], by omega, by go_num, ?_, by simp [HX.out.1], fun z hz => ?_, HF.out.2.1, HF.out.2.2.1, by have := HF.out.2.2.2; omega⟩
        · rw [List.map_append]; exact HF.out.1
        · rcases List.mem_append.1 hz with h | h
          · exact HX.out.2 z h
          · simp at h; omega
      case measure => simp [intOf]; omega
    · have hek : xs.length = k := by omega
      have HX := Lib.hid (And.intro hgl hgz)
      have HI2 := Lib.hid (HI.out _ hG)
      have hB := g_made hB2 hG
      by_cases h0 : k = 0
      · have ho := hown
        rw [← hgl] at ho
        obtain ⟨bg, cg, rfl, hIg⟩ := own_ints ho
        have hg0 : gs.length = 0 := by omega
        have hx0 : xs.length = 0 := by omega
        have d0 : decide ((0 : Int) < 0) = false := by decide
        rw [hg0]
        rw [hx0]
        clear ho hown hR hG hx0 hg0
        have hx0 : xs.length = 0 := by omega
        subst h0
        go_wp2_with fail
        go_returns
        exact ⟨bg, cg, gs, b, cp, xs, by rw [hx0]; rfl, by omega, by omega, hIg, HI2.out, fun z hz => by have := HX.out.2 z hz; omega, HZ.out, hB⟩
      · obtain ⟨g, cg, rfl, lg, ltg⟩ := hown.form (by omega)
        have hk0 : (0 : Int) < (k : Int) := by omega
        have HO := Lib.hid hown
        have HG3 := Lib.hid hG
        have hbr : w.heap.size < wr.heap.size := by omega
        have HL := Lib.hid hek
        have hk12 : k ≤ 12 := by omega
        rw [hek]
        clear hown hG hek
        go_wp2_with fail
        refine (pick_any w.heap.size _ 16 _ hR (by omega)).mono ?_
        rintro e w3 ⟨p, rfl, hp, hR3, hG3⟩
        have hb3 := Nat.lt_of_lt_of_le hbr hG3.size
        have hO3 := HO.out.kept hG3 (.inr (by simp [Value.ownBlock]; omega))
        have G3 := g_trans HG3.out hG3
        have HO3 := Lib.hid hO3
        have HG4 := Lib.hid G3
        clear hO3 G3 hG3 hR
        by_cases p0 : p = 0
        · have e0 : ((p : Int) == 0) = true := by simp [p0]
          clear p0 hp
          go_wp2_with fail
          refine (one_lit w.heap.size 2 _ (-1) 501 [-1, 501] _ w3 hR3 (by omega) hb3 rfl (by omega) (by omega) (by simp)).mono ?_
          rintro e w4 ⟨d, rfl, d0, d1, hR4, hG4⟩
          have hO4 := HO3.out.kept hG4 (.inr (by simp [Value.ownBlock]; omega))
          have G4 := g_trans HG4.out hG4
          have hc0 := hO4.cellAt 0 (by omega)
          obtain ⟨x0, hx0⟩ : ∃ x0, (gs.map (Value.int .i64))[0]? = some x0 := by rw [List.getElem?_eq_getElem (by have := HX.out.1; simp; omega)]; exact ⟨_, rfl⟩
          rw [hx0] at hc0
          have hf0 := hO4.frozenAt 0
          have hS := (hO4.stored 0 (.int .i64 d)).1
          rw [show (gs.map (Value.int .i64)).set 0 (.int .i64 d) = (gs.set 0 d).map (Value.int .i64) by rw [List.map_set]] at hS
          have hB5 : Below w2.heap.size w4 (w4.setCell ⟨g, 0, none⟩ (.int .i64 d)) := (Below.refl _ _).setCell lg _
          have hfin := rd_end hs2 hR4 rfl G4 hB5
          have HS := Lib.hid (And.intro hS hfin.2)
          clear hS hfin hB5 hO4 hG4 G4 hR4 hR3 hx0
          go_wp2_with fail
          go_returns
          refine ⟨some ⟨g, 0, none⟩, cg, gs.set 0 d, b, cp, xs, by rw [HL.out]; rfl, by rw [List.length_set, HX.out.1, HL.out], hl, own_isints HS.out.1 (by rw [List.length_set]; exact HX.out.1), HI.out _ HS.out.2, fun z hz => ?_, HZ.out, g_made hB2 HS.out.2⟩
          rcases List.mem_or_eq_of_mem_set hz with h | h
          · have := HX.out.2 z h; omega
          · omega
        · have e0 : ((p : Int) == 0) = false := by simp; omega
          clear p0 hp
          go_wp2_with fail
          go_returns
          exact ⟨some ⟨g, 0, none⟩, cg, gs, b, cp, xs, by rw [HL.out]; rfl, by rw [HX.out.1, HL.out], hl, own_isints HO3.out HX.out.1, HI.out _ HG4.out, fun z hz => by have := HX.out.2 z hz; omega, HZ.out, g_made hB2 HG4.out⟩
end Go.Proofs.Ytlellobigckolaa
