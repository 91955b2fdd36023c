/- The heirs that the laws draw. Condition: the reader has read at most 60000 numbers before. -/
import Derived.Test.YtppnhhnilnikfaaDrawHf
import Derived.Test.YtppnhhnilnikfaaHeirs
namespace Go.Proofs.Ytppnhhnilnikfaa
open Go.RowKit
set_option linter.unusedSimpArgs false
set_option linter.unusedVariables false

theorem own_any {w : World} {base k : Nat} {v : Value} {zs : List Int} (h : w.ownsRow base 3 1 v k (zs.map (Value.int .i64))) (hl : zs.length = k) : ∃ a cap, v = .slice a k cap ∧ k ≤ cap ∧ IsInts w a zs ∧ ∀ ad, a = some ad → base ≤ ad.block := by
  subst hl
  obtain ⟨hlen, h | ⟨g, cap, cur, hv, hg, r⟩⟩ := h
  · refine ⟨none, 0, ?_, ?_, .inl ?_, fun ad e => by cases e⟩
    · rw [h.1]; rw [h.2]
    · rw [h.2]; exact Nat.le_refl _
    · exact List.eq_nil_of_length_eq_zero h.2
  · subst hv
    exact ⟨_, cap, rfl, r.2.1, own_ints0 ⟨hlen, .inr ⟨g, cap, cur, rfl, hg, r⟩⟩, fun ad e => by injection e with e; subst e; exact hg⟩
theorem ints_grown {w w' : World} {a : Option Addr} {zs : List Int} {b base : Nat} (h : IsInts w a zs) (hb : ∀ ad, a = some ad → base ≤ ad.block) (hlt : b < base) (hG : w.grownBy w' (some b)) : IsInts w' a zs := by
  rcases h with h | ⟨g, o, ha, hc⟩
  · exact .inl h
  · refine .inr ⟨g, o, ha, fun i hi => ?_⟩
    have hg := hb _ ha
    have hne : g ≠ b := by
      have : base ≤ g := hg
      omega
    have c0 := hc i hi
    exact (g_cell hG (World.block_lt_of_cell? w _ c0) hne).trans c0

/-- what someHeirs leaves -/
def SomeZ (w : World) (b : Nat) (P : Int) (e : Ending) (w' : World) : Prop := ∃ (a : Option Addr) (cap : Nat) (zs : List Int), e = .returned (.slice a zs.length cap) ∧ zs.length ≤ 4 ∧ zs.length ≤ cap ∧ IsInts w' a zs ∧ (∀ ad, a = some ad → w.heap.size ≤ ad.block) ∧ Rd w' b (P + 30) ∧ w.grownBy w' (some b)
set_option maxRecDepth 100000 in
set_option maxHeartbeats 4000000 in
theorem someZ (b : Nat) (P : Int) (a : Option Addr) (cap base : Nat) (hs : List Hd) (w : World) (h : Rd w b P) (hP : P ≤ 60000) (hb : b < w.heap.size) (hi : IsHs w a hs) (hl : hs.length ≤ 1048576) (ha : ∀ ad, a = some ad → base ≤ ad.block) (hbb : b < base) :
    Calls Try.prog 58 #[.pointer (some ⟨b, 0, none⟩), .slice a hs.length cap] w (SomeZ w b P) := by
  obtain ⟨i0, hii, hz0, hz1, hz2⟩ := info_parts infoInt
  go_enter Try.func58, Try.ntmps58
  go_wp2_with fail
  have hO : (w.alloc (.cells #[] 3)).ownsRow w.heap.size 3 1 (.slice (some ⟨w.heap.size, 0, none⟩) 0 0) 0 [] := ⟨by simp, .inr ⟨w.heap.size, 0, #[], rfl, Nat.le_refl _, Go.Deep.blk_alloc_new _ _, Nat.le_refl _, by unfold maxLen; omega, rfl, rfl⟩⟩
  have HO := Lib.hid hO
  have HR := Lib.hid (rd_alloc h hb (.cells #[] 3))
  have HG := Lib.hid (World.grownBy_alloc w (.cells #[] 3) (some b))
  have HI := Lib.hid hi
  clear hO h hi
  have hs1 : w.heap.size < (w.alloc (.cells #[] 3)).heap.size := by simp
  have hse : w.heap.size + 1 = (w.alloc (.cells #[] 3)).heap.size := by simp
  rw [hse]
  clear hse
  generalize w.alloc (.cells #[] 3) = w1 at *
  have hb1 : b < w1.heap.size := by omega
  refine (one_lit b 5 P 0 4 [2, 3, 1, 4, 0] _ w1 HR.out (by omega) hb1 rfl (by omega) (by omega) (by simp)).mono ?_
  rintro e w2 ⟨m, rfl, m0, m1, hR2, hG2⟩
  have HO2 := Lib.hid (HO.out.kept hG2 (.inr (by simp [Value.ownBlock]; omega)))
  have HR2 := Lib.hid hR2
  have HG2 := Lib.hid (g_trans HG.out hG2)
  have hs2 : w.heap.size < w2.heap.size := by have := hG2.size; omega
  clear hG2 hR2 HO HR HG
  go_wp2_with fail
  go_loopw [5, 6] (fun v l wr => ∃ (n k : Nat) (xs : List Int), (n : Int) ≤ m ∧ k ≤ n ∧ l = .int .i64 (m - n) ∧ wr.ownsRow w.heap.size 3 1 v k (xs.map (Value.int .i64)) ∧ xs.length = k ∧ Rd wr b (P + 1 + 5 * (n : Int)) ∧ w.grownBy wr (some b) ∧ w.heap.size < wr.heap.size) (fun _ l _ => (intOf l).toNat)
  case atStart => exact ⟨0, 0, [], by omega, Nat.le_refl _, by go_num, HO2.out, rfl, by simpa using HR2.out, HG2.out, hs2⟩
  case round =>
    obtain ⟨n, k, xs, hn, hk, rfl, hown, hxl, hR, hG, hsz⟩ := hrel
    by_cases hlt : (n : Int) < m
    · have HX := Lib.hid hxl
      have HO := Lib.hid hown
      have HG := Lib.hid hG
      have HR := Lib.hid hR
      clear hown hxl hG hR
      go_wp2_with fail
      have hbr : b < wr.heap.size := by omega
      refine (anOwner b _ a cap base hs _ HR.out (by omega) hbr (hs_grown HI.out ha hbb HG.out) hl ha hbb).mono ?_
      rintro e w3 ⟨q, rfl, hR3, hG3⟩
      have hb3 := Nat.lt_of_lt_of_le hbr hG3.size
      have hO3 := HO.out.kept hG3 (.inr (by intro h; have := (HO.out.lt b h).1; omega))
      have G3 := g_trans HG.out hG3
      have hs3 : w.heap.size < w3.heap.size := by have := hG3.size; omega
      obtain ⟨av, cv, rfl, hkc, iv, _⟩ := own_any hO3 HX.out
      have HO3 := Lib.hid hO3
      have HG3 := Lib.hid G3
      have HR3 := Lib.hid hR3
      clear hG3 HO HR HG hO3 hR3 G3
      have hP := splace av cv k xs q w3 iv HX.out (by omega)
      go_wp2_with fail
      refine hP.mono ?_
      rintro e w' ⟨pv, rfl, hin, hnot, rfl⟩
      clear hP iv
      by_cases hq : q ∈ xs
      · have p0 := hin hq
        have e1 : decide (pv < 0) = false := decide_eq_false (by omega)
        clear hin hnot hq
        go_wp2_with fail
        refine (pick_any b _ 8 _ HR3.out (by omega)).mono ?_
        rintro e w4 ⟨u, rfl, hu, hR4, hG4⟩
        have HO4 := Lib.hid (HO3.out.kept hG4 (.inr (by intro h; have := (HO3.out.lt b h).1; omega)))
        have HG4 := Lib.hid (g_trans HG3.out hG4)
        have HR4 := Lib.hid hR4
        have hs4 : w.heap.size < w4.heap.size := by have := hG4.size; omega
        clear hu hG4 hR4 HO3 HG3 HR3
        by_cases u0 : u = 0
        · have e2 : ((u : Int) == 0) = true := by simp [u0]
          clear u0
          go_wp2_with (first | (at_builtin; refine wpList_append_own _ rfl (.tmp 28) (.tmp 30) 42 rfl w.heap.size 3 i0 (.int .i64 0) 1 8 Try.underlying42 hii hz0 hz1 hz2 rfl (by decide) _ _ _ rfl (HO4.out.alloc _) ⟨w4.heap.size, 0, none⟩ 1 1 [.int .i64 q] rfl rfl (cell_one_new _ _ _) (fun x hx => by simp at hx; subst hx; rfl) (by unfold maxLen; omega) (by omega) (by simp; omega) ?_; intro v' w5 hown' hgrow5 hnil5))
          have hB5 : Below w.heap.size w4 w5 := ((Below.refl _ w4).alloc (Nat.le_of_lt hs4) _).grown hgrow5 (by simp; omega) (fun z hz => (HO4.out.lt z hz).1)
          clear hgrow5 hnil5
          obtain ⟨R5, G5⟩ := rd_end (P := P + 1 + 5 * ((n + 1 : Nat) : Int)) hb (rd_up (P' := P + 1 + 5 * ((n + 1 : Nat) : Int)) HR4.out (by omega)) rfl HG4.out hB5
          refine ⟨⟨n + 1, k + 1, xs ++ [q], by omega, by omega, by go_num, ?_, by simp [HX.out], R5, G5, by have := hB5.size; omega⟩, by simp [intOf]; omega⟩
          rw [List.map_append]; exact hown'
        · have e2 : ((u : Int) == 0) = false := by simp; omega
          clear u0
          go_wp2_with fail
          exact ⟨⟨n + 1, k, xs, by omega, by omega, by go_num, HO4.out, HX.out, rd_up HR4.out (by omega), HG4.out, hs4⟩, by simp [intOf]; omega⟩
      · obtain rfl := hnot hq
        clear hin hnot hq
        go_wp2_with (first | (at_builtin; refine wpList_append_own _ rfl (.tmp 28) (.tmp 30) 42 rfl w.heap.size 3 i0 (.int .i64 0) 1 8 Try.underlying42 hii hz0 hz1 hz2 rfl (by decide) _ _ _ rfl (HO3.out.alloc _) ⟨w3.heap.size, 0, none⟩ 1 1 [.int .i64 q] rfl rfl (cell_one_new _ _ _) (fun x hx => by simp at hx; subst hx; rfl) (by unfold maxLen; omega) (by omega) (by simp; omega) ?_; intro v' w5 hown' hgrow5 hnil5))
        have hB5 : Below w.heap.size w3 w5 := ((Below.refl _ w3).alloc (Nat.le_of_lt hs3) _).grown hgrow5 (by simp; omega) (fun z hz => (HO3.out.lt z hz).1)
        clear hgrow5 hnil5
        obtain ⟨R5, G5⟩ := rd_end (P := P + 1 + 5 * ((n + 1 : Nat) : Int)) hb (rd_up (P' := P + 1 + 5 * ((n + 1 : Nat) : Int)) HR3.out (by omega)) rfl HG3.out hB5
        refine ⟨⟨n + 1, k + 1, xs ++ [q], by omega, by omega, by go_num, ?_, by simp [HX.out], R5, G5, by have := hB5.size; omega⟩, by simp [intOf]; omega⟩
        rw [List.map_append]; exact hown'
    · have e : (n : Int) = m := by omega
      obtain ⟨av, cv, rfl, hkc, iv, hbl⟩ := own_any hown hxl
      have HF := Lib.hid (And.intro (rd_up (P' := P + 30) hR (by omega)) hG)
      have HIV := Lib.hid iv
      clear hR hG iv hown
      subst hxl
      go_wp2_with fail
      go_ret
      exact ⟨av, cv, xs, rfl, by omega, hkc, HIV.out, hbl, HF.out.1, HF.out.2⟩
end Go.Proofs.Ytppnhhnilnikfaa
