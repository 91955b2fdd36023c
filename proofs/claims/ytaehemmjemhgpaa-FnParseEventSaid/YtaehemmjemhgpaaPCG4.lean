/- Contracts and facts of functions of this program, in build order. Conditions: those stated in each. -/
import Derived.Test.YtaehemmjemhgpaaPCMove
import Derived.Test.YtaehemmjemhgpaaPCG0
import Derived.Test.YtaehemmjemhgpaaPCG1
import Derived.Test.YtaehemmjemhgpaaPCG2
import Derived.Deep.Matrix
import Derived.Deep.RegionHeld3
import Derived.Deep.RegionWith
import Derived.Deep.QuietTactic
import Derived.BigQuiet
import Derived.RegionTactic
set_option maxRecDepth 100000
set_option maxHeartbeats 16000000
namespace Go.Proofs.Ytaehemmjemhgpaa
open Go.RowKit
set_option linter.unusedSimpArgs false
set_option linter.unusedVariables false
def okH (zs : List Int) (owner : Int) (k : Nat) : Bool := decide (1 ≤ zs.getD k 0) && decide (zs.getD k 0 ≤ 999) && decide (zs.getD k 0 ≠ owner) && decide (zs.getD k 0 ∉ zs.take k)
def heirsB (zs : List Int) (owner : Int) : Bool := decide (1 ≤ zs.length) && decide (zs.length ≤ 12) && (List.range zs.length).all (okH zs owner)
theorem okH_def (zs : List Int) (owner : Int) (k : Nat) : okH zs owner k = (decide (1 ≤ zs.getD k 0) && decide (zs.getD k 0 ≤ 999) && decide (zs.getD k 0 ≠ owner) && decide (zs.getD k 0 ∉ zs.take k)) := rfl
theorem heirs_no1 {zs : List Int} {owner : Int} (h : zs.length < 1 ∨ 12 < zs.length) : heirsB zs owner = false := by
 unfold heirsB
 rcases h with h | h
 ·rw [decide_eq_false (by omega : ¬ 1 ≤ zs.length)]; rfl
 ·rw [decide_eq_false (by omega : ¬ zs.length ≤ 12)]; simp
theorem heirs_no2 {zs : List Int} {owner : Int} {k : Nat} (hk : k < zs.length) (h : okH zs owner k = false) : heirsB zs owner = false := by
 unfold heirsB; rw [rng_no hk h]; simp
theorem heirs_yes {zs : List Int} {owner : Int} (h1 : 1 ≤ zs.length) (h2 : zs.length ≤ 12) (h : ∀ j, j < zs.length → okH zs owner j = true) : heirsB zs owner = true := by
 unfold heirsB; rw [decide_eq_true h1, decide_eq_true h2, rng_yes h]; rfl
theorem mem_get {zs : List Int} {n : Int} : n ∈ zs ↔ ∃ j, j < zs.length ∧ zs.getD j 0 = n := by
 constructor
 ·intro h
  obtain ⟨i, hi, e⟩ := List.getElem_of_mem h; exact ⟨i, hi, by rw [List.getD_eq_getElem?_getD, List.getElem?_eq_getElem hi]; exact e⟩
 ·rintro ⟨j, hj, e⟩
  rw [← e]; exact jjh hj
theorem ihas (a : Option Addr) (cap m : Nat) (zs : List Int) (n : Int) (w : World) (h : jqf w a zs) (hl : zs.length = m) (hn : m ≤ 1048576) :
  Calls Try.prog 157 #[.slice a m cap, .int .i64 n] w fun e w' => e = .returned (.bool (decide (n ∈ zs))) ∧ w = w' := by
 subst hl
 rcases h with rfl | ⟨g, o, rfl, hc⟩
 ·go_enter Try.func157, Try.ntmps157
  go_wp2
  go_rounds 1
  go_ret; exact ⟨rfl, rfl⟩
 ·have HC := Lib.hid hc
  clear hc; go_enter Try.func157, Try.ntmps157
  go_wp2
  go_loop [9] (fun i => ∃ k : Nat, k ≤ zs.length ∧ i = .int .i64 k ∧ Hid (∀ j, j < k → zs.getD j 0 ≠ n)) (fun i => zs.length - (intOf i).toNat)
  case atStart => exact ⟨0, Nat.zero_le _, rfl, fun j hj => by omega⟩
  case round =>
   obtain ⟨k, hk, rfl, HK⟩ := hrel
   by_cases hlt : k < zs.length
   ·have hc := HC.out k hlt
    have hy : zs.getD k 0 ≠ n → ∀ j, j < k + 1 → zs.getD j 0 ≠ n := fun e j hj => by
     by_cases ej : j = k
     ·subst ej; exact e
     ·exact HK.out j (by omega)
    have hm : zs.getD k 0 = n → decide (n ∈ zs) = true := fun e => decide_eq_true (mem_get.2 ⟨k, hlt, e⟩)
    generalize zs.getD k 0 = z at hc hy hm; have HY := Lib.hid hy; have HM := Lib.hid hm; clear hy hm
    by_cases e : z = n
    ·have eb : (z == n) = true := by simpa using e
     have HMM := Lib.hid (HM.out e); clear e; go_wp2_with fail; go_ret; exact ⟨jq8 HMM.out.symm, rfl⟩
    ·have eb : (z == n) = false := by simpa using e
     go_wp2_with fail
     go_round
     case rel => exact ⟨k + 1, by omega, by go_num, HY.out e⟩
     case measure => simp [intOf]; omega
   ·have HN : Hid (decide (n ∈ zs) = false) := by
     show _ = _
     rw [decide_eq_false_iff_not, mem_get]; rintro ⟨j, hj, e⟩; exact HK.out j (by omega) e
    go_wp2_with fail; go_ret; exact ⟨jq8 HN.out.symm, rfl⟩
def PlaceV (zs : List Int) (n : Int) (w : World) (e : Ending) (w' : World) : Prop := ∃ v : Int, e = .returned (.int .i64 v) ∧ (n ∈ zs → 0 ≤ v) ∧ (n ∉ zs → v = -1) ∧ w = w'
theorem splace (a : Option Addr) (cap m : Nat) (zs : List Int) (n : Int) (w : World) (h : jqf w a zs) (hl : zs.length = m) (hn : m ≤ 1048576) :
  Calls Try.prog 155 #[.slice a m cap, .int .i64 n] w (PlaceV zs n w) := by
 subst hl
 rcases h with rfl | ⟨g, o, rfl, hc⟩
 ·go_enter Try.func155, Try.ntmps155
  go_wp2
  go_rounds 1
  go_ret; exact ⟨-1, rfl, (fun c => by simp at c), (fun _ => rfl), rfl⟩
 ·have HC := Lib.hid hc
  clear hc; go_enter Try.func155, Try.ntmps155
  go_wp2
  go_loop [5] (fun i => ∃ k : Nat, k ≤ zs.length ∧ i = .int .i64 k ∧ Hid (∀ j, j < k → zs.getD j 0 ≠ n)) (fun i => zs.length - (intOf i).toNat)
  case atStart => exact ⟨0, Nat.zero_le _, rfl, fun j hj => by omega⟩
  case round =>
   obtain ⟨k, hk, rfl, HK⟩ := hrel
   by_cases hlt : k < zs.length
   ·have hc := HC.out k hlt
    have hy : zs.getD k 0 ≠ n → ∀ j, j < k + 1 → zs.getD j 0 ≠ n := fun e j hj => by
     by_cases ej : j = k
     ·subst ej; exact e
     ·exact HK.out j (by omega)
    have hm : zs.getD k 0 = n → n ∈ zs := fun e => mem_get.2 ⟨k, hlt, e⟩
    generalize zs.getD k 0 = z at hc hy hm; have HY := Lib.hid hy; have HM := Lib.hid hm; clear hy hm
    by_cases e : z = n
    ·have eb : (z == n) = true := by simpa using e
     have HMM := Lib.hid (HM.out e); clear e; go_wp2_with fail; go_ret; exact ⟨(k : Int), rfl, (fun _ => by omega), (fun c => absurd HMM.out c), rfl⟩
    ·have eb : (z == n) = false := by simpa using e
     go_wp2_with fail
     go_round
     case rel => exact ⟨k + 1, by omega, by go_num, HY.out e⟩
     case measure => simp [intOf]; omega
   ·have HN : Hid (n ∉ zs) := by
     show _ ∉ _
     rw [mem_get]; rintro ⟨j, hj, e⟩; exact HK.out j (by omega) e
    go_wp2_with fail; go_ret; exact ⟨-1, rfl, (fun c => absurd c HN.out), (fun _ => rfl), rfl⟩
theorem own_any {w : World} {base k : Nat} {v : Value} {zs : List Int} (h : w.ownsRow base 3 1 v k (zs.map (Value.int .i64))) (hl : zs.length = k) : ∃ a cap, v = .slice a k cap ∧ k ≤ cap ∧ jqf w a zs ∧ ∀ ad, a = some ad → base ≤ ad.block := by
 subst hl; obtain ⟨hlen, h | ⟨g, cap, cur, hv, hg, r⟩⟩ := h
 ·refine ⟨none, 0, ?_, ?_, .inl ?_, fun ad e => by cases e⟩
  ·rw [h.1]; rw [h.2]
  ·rw [h.2]; exact Nat.le_refl _
  ·exact List.eq_nil_of_length_eq_zero h.2
 ·subst hv
  exact ⟨_, cap, rfl, r.2.1, own_ints0 ⟨hlen, .inr ⟨g, cap, cur, rfl, hg, r⟩⟩, fun ad e => by injection e with e; subst e; exact hg⟩
theorem ints_grown {w w' : World} {a : Option Addr} {zs : List Int} {b base : Nat} (h : jqf w a zs) (hb : ∀ ad, a = some ad → base ≤ ad.block) (hlt : b < base) (hG : w.grownBy w' (some b)) : jqf w' a zs := by
 rcases h with h | ⟨g, o, ha, hc⟩
 ·exact .inl h
 ·refine .inr ⟨g, o, ha, fun i hi => ?_⟩
  have hg := hb _ ha
  have hne : g ≠ b := by
   have : base ≤ g := hg
   omega
  have c0 := hc i hi; exact (g_cell hG (World.block_lt_of_cell? w _ c0) hne).trans c0
def SomeZ (w : World) (b : Nat) (P : Int) (e : Ending) (w' : World) : Prop := ∃ (a : Option Addr) (cap : Nat) (zs : List Int), e = .returned (.slice a zs.length cap) ∧ zs.length ≤ 4 ∧ zs.length ≤ cap ∧ jqf w' a zs ∧ (∀ ad, a = some ad → w.heap.size ≤ ad.block) ∧ Rd w' b (P + 30) ∧ w.grownBy w' (some b)
theorem someZ (b : Nat) (P : Int) (a : Option Addr) (cap base : Nat) (hs : List Hd) (w : World) (h : Rd w b P) (hP : P ≤ 60000) (hb : b < w.heap.size) (hi : IsHs w a hs) (hl : hs.length ≤ 1048576) (ha : ∀ ad, a = some ad → base ≤ ad.block) (hbb : b < base) :
  Calls Try.prog 111 #[.pointer (some ⟨b, 0, none⟩), .slice a hs.length cap] w (SomeZ w b P) := by
 obtain ⟨i0, hii, hz0, hz1, hz2⟩ := info_parts infoInt; go_enter Try.func111, Try.ntmps111; go_wp2_with fail
 have hO : (w.alloc (.cells #[] 3)).ownsRow w.heap.size 3 1 (.slice (some ⟨w.heap.size, 0, none⟩) 0 0) 0 [] := ⟨by simp, .inr ⟨w.heap.size, 0, #[], rfl, Nat.le_refl _, Go.Deep.blk_alloc_new _ _, Nat.le_refl _, by unfold maxLen; omega, rfl, rfl⟩⟩
 have HO := Lib.hid hO; have HR := Lib.hid (rd_alloc h hb (.cells #[] 3)); have HG := Lib.hid (World.grownBy_alloc w (.cells #[] 3) (some b)); have HI := Lib.hid hi; clear hO h hi
 have hs1 : w.heap.size < (w.alloc (.cells #[] 3)).heap.size := by simp
 have hse : w.heap.size + 1 = (w.alloc (.cells #[] 3)).heap.size := by simp
 rw [hse]; clear hse; generalize w.alloc (.cells #[] 3) = w1 at *
 have hb1 : b < w1.heap.size := by omega
 refine (jv4 b 5 P 0 4 [2, 3, 1, 4, 0] _ w1 HR.out (by omega) hb1 rfl (by omega) (by omega) (by simp)).mono ?_; rintro e w2 ⟨m, rfl, m0, m1, hR2, hG2⟩; have HO2 := Lib.hid (HO.out.kept hG2 (.inr (by simp [Value.ownBlock]; omega))); have HR2 := Lib.hid hR2; have HG2 := Lib.hid (jqe HG.out hG2)
 have hs2 : w.heap.size < w2.heap.size := by have := hG2.size; omega
 clear hG2 hR2 HO HR HG; go_wp2_with fail
 go_loopw [5, 6] (fun v l wr => ∃ (n k : Nat) (xs : List Int), (n : Int) ≤ m ∧ k ≤ n ∧ l = .int .i64 (m - n) ∧ wr.ownsRow w.heap.size 3 1 v k (xs.map (Value.int .i64)) ∧ xs.length = k ∧ Rd wr b (P + 1 + 5 * (n : Int)) ∧ w.grownBy wr (some b) ∧ w.heap.size < wr.heap.size) (fun _ l _ => (intOf l).toNat)
 case atStart => exact ⟨0, 0, [], by omega, Nat.le_refl _, by go_num, HO2.out, rfl, by simpa using HR2.out, HG2.out, hs2⟩
 case round =>
  obtain ⟨n, k, xs, hn, hk, rfl, hown, hxl, hR, hG, hsz⟩ := hrel
  by_cases hlt : (n : Int) < m
  ·have HX := Lib.hid hxl
   have HO := Lib.hid hown; have HG := Lib.hid hG; have HR := Lib.hid hR; clear hown hxl hG hR; go_wp2_with fail
   have hbr : b < wr.heap.size := by omega
   refine (anOwner b _ a cap base hs _ HR.out (by omega) hbr (jj9 HI.out ha hbb HG.out) hl ha hbb).mono ?_; rintro e w3 ⟨q, rfl, hR3, hG3⟩; have hb3 := Nat.lt_of_lt_of_le hbr hG3.size; have hO3 := HO.out.kept hG3 (.inr (by intro h; have := (HO.out.lt b h).1; omega)); have G3 := jqe HG.out hG3
   have hs3 : w.heap.size < w3.heap.size := by have := hG3.size; omega
   obtain ⟨av, cv, rfl, hkc, iv, _⟩ := own_any hO3 HX.out; have HO3 := Lib.hid hO3; have HG3 := Lib.hid G3; have HR3 := Lib.hid hR3; clear hG3 HO HR HG hO3 hR3 G3; have hP := splace av cv k xs q w3 iv HX.out (by omega); go_wp2_with fail; refine hP.mono ?_; rintro e w' ⟨pv, rfl, hin, hnot, rfl⟩; clear hP iv
   by_cases hq : q ∈ xs
   ·have p0 := hin hq
    have e1 : decide (pv < 0) = false := decide_eq_false (by omega); clear hin hnot hq; go_wp2_with fail; refine (jx2 b _ 8 _ HR3.out (by omega)).mono ?_; rintro e w4 ⟨u, rfl, hu, hR4, hG4⟩; have HO4 := Lib.hid (HO3.out.kept hG4 (.inr (by intro h; have := (HO3.out.lt b h).1; omega))); have HG4 := Lib.hid (jqe HG3.out hG4); have HR4 := Lib.hid hR4
    have hs4 : w.heap.size < w4.heap.size := by have := hG4.size; omega
    clear hu hG4 hR4 HO3 HG3 HR3
    by_cases u0 : u = 0
    ·have e2 : ((u : Int) == 0) = true := by simp [u0]
     clear u0
     go_wp2_with (first | (at_builtin; refine wpList_append_own _ rfl (.tmp 28) (.tmp 30) 59 rfl w.heap.size 3 i0 (.int .i64 0) 1 8 Try.underlying59 hii hz0 hz1 hz2 rfl (by decide) _ _ _ rfl (HO4.out.alloc _) ⟨w4.heap.size, 0, none⟩ 1 1 [.int .i64 q] rfl rfl (cell_one_new _ _ _) (fun x hx => by simp at hx; subst hx; rfl) (by unfold maxLen; omega) (by omega) (by simp; omega) ?_; intro v' w5 hown' hgrow5 hnil5))
     have hB5 : Below w.heap.size w4 w5 := ((Below.refl _ w4).alloc (Nat.le_of_lt hs4) _).grown hgrow5 (by simp; omega) (fun z hz => (HO4.out.lt z hz).1); clear hgrow5 hnil5; obtain ⟨R5, G5⟩ := rd_end (P := P + 1 + 5 * ((n + 1 : Nat) : Int)) hb (jxa (P' := P + 1 + 5 * ((n + 1 : Nat) : Int)) HR4.out (by omega)) rfl HG4.out hB5; refine ⟨⟨n + 1, k + 1, xs ++ [q], by omega, by omega, by go_num, ?_, by simp [HX.out], R5, G5, by have := hB5.size; omega⟩, by simp [intOf]; omega⟩; rw [List.map_append]; exact hown'
    ·have e2 : ((u : Int) == 0) = false := by simp; omega
     clear u0; go_wp2_with fail; exact ⟨⟨n + 1, k, xs, by omega, by omega, by go_num, HO4.out, HX.out, jxa HR4.out (by omega), HG4.out, hs4⟩, by simp [intOf]; omega⟩
   ·obtain rfl := hnot hq
    clear hin hnot hq
    go_wp2_with (first | (at_builtin; refine wpList_append_own _ rfl (.tmp 28) (.tmp 30) 59 rfl w.heap.size 3 i0 (.int .i64 0) 1 8 Try.underlying59 hii hz0 hz1 hz2 rfl (by decide) _ _ _ rfl (HO3.out.alloc _) ⟨w3.heap.size, 0, none⟩ 1 1 [.int .i64 q] rfl rfl (cell_one_new _ _ _) (fun x hx => by simp at hx; subst hx; rfl) (by unfold maxLen; omega) (by omega) (by simp; omega) ?_; intro v' w5 hown' hgrow5 hnil5))
    have hB5 : Below w.heap.size w3 w5 := ((Below.refl _ w3).alloc (Nat.le_of_lt hs3) _).grown hgrow5 (by simp; omega) (fun z hz => (HO3.out.lt z hz).1); clear hgrow5 hnil5; obtain ⟨R5, G5⟩ := rd_end (P := P + 1 + 5 * ((n + 1 : Nat) : Int)) hb (jxa (P' := P + 1 + 5 * ((n + 1 : Nat) : Int)) HR3.out (by omega)) rfl HG3.out hB5; refine ⟨⟨n + 1, k + 1, xs ++ [q], by omega, by omega, by go_num, ?_, by simp [HX.out], R5, G5, by have := hB5.size; omega⟩, by simp [intOf]; omega⟩; rw [List.map_append]; exact hown'
  ·have e : (n : Int) = m := by omega
   obtain ⟨av, cv, rfl, hkc, iv, hbl⟩ := own_any hown hxl; have HF := Lib.hid (And.intro (jxa (P' := P + 30) hR (by omega)) hG); have HIV := Lib.hid iv; clear hR hG iv hown; subst hxl; go_wp2_with fail; go_ret; exact ⟨av, cv, xs, rfl, by omega, hkc, HIV.out, hbl, HF.out.1, HF.out.2⟩
theorem jqj {w w' : World} {g b : Nat} {T : TypeId} {cs : Array Value} (h : Blk w g T cs) (hG : w.grownBy w' (some b)) (ne : g ≠ b) : Blk w' g T cs := (hG.block g h.lt (fun e => ne (Option.some.inj e))).trans h
theorem sets6_at {W : World} {B b : Nat} (hb : B ≤ b) (v0 v1 v2 v3 v4 v5 : Value) : Below B W (sets6 W b v0 v1 v2 v3 v4 v5) := ((((((Below.refl B W).setCell (p := ⟨b, 0, none⟩) hb v0).setCell (p := ⟨b, 1, none⟩) hb v1).setCell (p := ⟨b, 2, none⟩) hb v2).setCell (p := ⟨b, 3, none⟩) hb v3).setCell (p := ⟨b, 4, none⟩) hb v4).setCell (p := ⟨b, 5, none⟩) hb v5
theorem jj1 {W : World} {B b : Nat} (hb : B ≤ b) (v0 v1 v2 v3 v4 v5 v6 v7 v8 : Value) : Below B W (jzd W b v0 v1 v2 v3 v4 v5 v6 v7 v8) := (((((((((Below.refl B W).setCell (p := ⟨b, 0, none⟩) hb v0).setCell (p := ⟨b, 1, none⟩) hb v1).setCell (p := ⟨b, 2, none⟩) hb v2).setCell (p := ⟨b, 3, none⟩) hb v3).setCell (p := ⟨b, 4, none⟩) hb v4).setCell (p := ⟨b, 5, none⟩) hb v5).setCell (p := ⟨b, 6, none⟩) hb v6).setCell (p := ⟨b, 7, none⟩) hb v7).setCell (p := ⟨b, 8, none⟩) hb v8
theorem sets6_other {W : World} {b g : Nat} (hn : g ≠ b) (v0 v1 v2 v3 v4 v5 : Value) : (sets6 W b v0 v1 v2 v3 v4 v5).heap[g]? = W.heap[g]? := by
 unfold sets6; rw [Below.heap_setCell _ _ _ g hn, Below.heap_setCell _ _ _ g hn, Below.heap_setCell _ _ _ g hn, Below.heap_setCell _ _ _ g hn, Below.heap_setCell _ _ _ g hn, Below.heap_setCell _ _ _ g hn]
theorem jq3 {W : World} {b g : Nat} (hn : g ≠ b) (v0 v1 v2 v3 v4 v5 v6 v7 v8 : Value) : (jzd W b v0 v1 v2 v3 v4 v5 v6 v7 v8).heap[g]? = W.heap[g]? := by
 unfold jzd; rw [Below.heap_setCell _ _ _ g hn, Below.heap_setCell _ _ _ g hn, Below.heap_setCell _ _ _ g hn, Below.heap_setCell _ _ _ g hn, Below.heap_setCell _ _ _ g hn, Below.heap_setCell _ _ _ g hn, Below.heap_setCell _ _ _ g hn, Below.heap_setCell _ _ _ g hn, Below.heap_setCell _ _ _ g hn]
theorem jj2 {W y : World} {A : Option Addr} {zs : List Int} {B b : Nat} (h : jqf W A zs) (ha : ∀ ad, A = some ad → B ≤ ad.block) (hb : b < B) (hy : ∀ g, g ≠ b → y.heap[g]? = W.heap[g]?) : jqf y A zs := by
 rcases h with h | ⟨g, o, rfl, hc⟩
 ·exact .inl h
 ·have hg := ha _ rfl
  dsimp only at hg; refine .inr ⟨g, o, rfl, fun i hi => ?_⟩; exact (World.cell?_of_block (hy g (by omega))).trans (hc i hi)
theorem jj4 {w V y : World} {b g : Nat} {P : Int} (hR : Rd V b P) (hb : b < w.heap.size) (hG : w.grownBy V (some b)) (hB : Below w.heap.size V y) : Rd y b P ∧ w.grownBy y (some b) := rd_end hb hR rfl hG hB


def RowSS (w : World) (g : Nat) (G : Nat → Nat) (n : Nat) (rs : List (List Int)) : Prop := (w.rowIs g 59 rs.length fun j => if j < n then .slice (some ⟨G j, 0, none⟩) (rs.getD j []).length (rs.getD j []).length else .slice none 0 0) ∧ (∀ j, j < n → g < G j ∧ Row w (G j) (rs.getD j [])) ∧ ∀ i j, i < j → j < n → G i < G j





theorem fS6 {w y : World} {g b : Nat} {t : TypeId} {cs : Array Value} {v0 v1 v2 v3 v4 v5 : Value} (h : Blk w g t cs) (hy : y = World.setCell (World.setCell (World.setCell (World.setCell (World.setCell (World.setCell w ⟨b, 1, none⟩ (v0)) ⟨b, 2, none⟩ (v1)) ⟨b, 3, none⟩ (v2)) ⟨b, 4, none⟩ (v3)) ⟨b, 5, none⟩ (v4)) ⟨b, 6, none⟩ (v5)) (hn : g ≠ b) : Blk y g t cs := by subst hy; exact fS (fS (fS (fS (fS (fS h rfl hn) rfl hn) rfl hn) rfl hn) rfl hn) rfl hn
theorem bS6 {w0 w y : World} {b : Nat} {v0 v1 v2 v3 v4 v5 : Value} (h : Below w0.heap.size w0 w) (hy : y = World.setCell (World.setCell (World.setCell (World.setCell (World.setCell (World.setCell w ⟨b, 1, none⟩ (v0)) ⟨b, 2, none⟩ (v1)) ⟨b, 3, none⟩ (v2)) ⟨b, 4, none⟩ (v3)) ⟨b, 5, none⟩ (v4)) ⟨b, 6, none⟩ (v5)) (hb : w0.heap.size ≤ b) : Below w0.heap.size w0 y := by subst hy; exact bS (bS (bS (bS (bS (bS h rfl hb) rfl hb) rfl hb) rfl hb) rfl hb) rfl hb
theorem S9_1x6 {w y : World} {b : Nat} {t : TypeId} {u0 u1 u2 u3 u4 u5 u6 u7 u8 v0 v1 v2 v3 v4 v5 : Value} (h : Blk w b t #[u0, u1, u2, u3, u4, u5, u6, u7, u8]) (hy : y = World.setCell (World.setCell (World.setCell (World.setCell (World.setCell (World.setCell w ⟨b, 1, none⟩ (v0)) ⟨b, 2, none⟩ (v1)) ⟨b, 3, none⟩ (v2)) ⟨b, 4, none⟩ (v3)) ⟨b, 5, none⟩ (v4)) ⟨b, 6, none⟩ (v5)) : Blk y b t #[u0, v0, v1, v2, v3, v4, v5, u7, u8] := by subst hy; exact S9_6 (S9_5 (S9_4 (S9_3 (S9_2 (S9_1 h rfl) rfl) rfl) rfl) rfl) rfl

theorem iown3 (n : Int) (w : World) :
    Calls Try.prog 119 #[.int .i64 n] w fun e w' => e = .returned (.bool (ownB n)) ∧ w = w' := by
  cases a : ownB n with
  | true => exact iowner_yes n w (own_iff.1 a).1 (own_iff.1 a).2
  | false => exact iowner_no n w (by have : ¬ (1 ≤ n ∧ n ≤ 999) := fun c => by rw [own_iff.2 c] at a; cases a
                                     omega)
theorem isml3 (n : Int) (w : World) :
    Calls Try.prog 83 #[.int .i64 n, .int .i64 9999] w fun e w' => e = .returned (.bool (smlB n)) ∧ w = w' := by
  cases a : smlB n with
  | true => exact iwithin_yes n 9999 w (sml_iff.1 a).1 (sml_iff.1 a).2
  | false => exact iwithin_no n 9999 w (by have : ¬ (0 ≤ n ∧ n ≤ 9999) := fun c => by rw [sml_iff.2 c] at a; cases a
                                           omega)
theorem ispaced (n : Int) (w : World) (h0 : 0 ≤ n) (h : n ≤ 1000000) :
  Calls Try.prog 89 #[.int .i64 n] w fun e w' => e = .returned (.string (txt (spT n))) ∧ w = w' := by
 have l1 := nT_len h0 h; have CD := idecI n w h0 (by omega); have HX : Hid (spT n = 32 :: decL n.toNat) := Lib.hid rfl; unfold nT at l1; generalize decL n.toNat = X at *
 have a1 : ∀ w, (Op.stringOp .add ({ data := #[32] } : ByteArray) (txt X)).run Try.prog w = .ok (.string (txt ([32] ++ X))) w := fun w => jz2 [32] X w (by simp <;> omega)
 go_enter Try.func89, Try.ntmps89; go_wp2_with fail; refine CD.mono ?_; rintro e w' ⟨rfl, rfl⟩; go_wp2_with fail; go_ret; exact ⟨jz1 (by rw [HX.out] <;> rfl), rfl⟩
theorem ifmtH (A : Option Addr) (cz : Nat) (x : Dd) (w : World) (h : jqf w A x.zs) (hn : x.zs.length ≤ 12) (ho : ownB x.o = true) :
    Calls Try.prog 141 #[.agg #[.int .i64 x.k, .int .i64 x.o, .int .i64 x.t, .int .i64 x.n, .int .i64 x.d, .slice A x.zs.length cz]] w fun e w' => e = .returned (.string (txt (hrV x.o x.zs))) ∧ Below w.heap.size w w' := by
  obtain ⟨dk, o, t, n, d, zs⟩ := x; dsimp only at h hn ho ⊢; have B := (Below.refl w.heap.size w).alloc (Nat.le_refl _) (.cells #[.int .i64 dk, .int .i64 o, .int .i64 t, .int .i64 n, .int .i64 d, .slice A zs.length cz] 61); have K := Blk.new w 61 #[.int .i64 dk, .int .i64 o, .int .i64 t, .int .i64 n, .int .i64 d, .slice A zs.length cz]; have hI := jq9 h B; have bo := own_bd ho; clear h ho; generalize hU : w.alloc (.cells #[.int .i64 dk, .int .i64 o, .int .i64 t, .int .i64 n, .int .i64 d, .slice A zs.length cz] 61) = U at B K hI; obtain ⟨q0, q1, q2, q3, q4, q5⟩ := cells6 K; have HU := Lib.hid hU; have HI := Lib.hid hI; have l0 := spT_len (n := o) bo.1 (by omega); have CO := ispaced o U bo.1 (by omega)
  have a0 : ∀ w, (Op.stringOp .add ({ data := #[105, 110, 104, 101, 114, 105, 116] } : ByteArray) (txt (spT o))).run Try.prog w = .ok (.string (txt (hrT o zs 0))) w := fun w => by rw [hr_zero]; exact jz2 kInh (spT o) w (by simp [kInh]; omega)
  have HL := Lib.hid (fun k hk => hr_len (o := o) (zs := zs) ⟨bo.1, by omega⟩ k hk); clear hU hI K bo l0; go_enter Try.func141, Try.ntmps141; go_wp2_with fail; rw [HU.out]; refine CO.mono ?_; rintro e w' ⟨rfl, rfl⟩; go_wp2_with fail; clear CO a0
  go_loop [3, 13] (fun tx i => ∃ k : Nat, k ≤ zs.length ∧ i = .int .i64 k ∧ tx = .string (txt (hrT o zs k)) ∧ Hid (∀ j, j < k → ownB (zs.getD j 0) = true)) (fun _ i => zs.length - (intOf i).toNat)
  case atStart => exact ⟨0, Nat.zero_le _, rfl, rfl, fun j hj => absurd hj (Nat.not_lt_zero _)⟩
  case round =>
    obtain ⟨k, hk, rfl, rfl, HO⟩ := hrel
    by_cases hlt : k < zs.length
    · rcases HI.out with hz | ⟨g, off, rfl, hc⟩
      · rw [hz] at hlt; exact absurd hlt (Nat.not_lt_zero _)
      have c0 := hc k hlt; clear hc
      have hk0 : (0 : Int) ≤ (k : Int) := by omega
      have hk1 : (k : Int) < (zs.length : Int) := by omega
      cases ez : ownB (zs.getD k 0) with
      | false =>
        have HX : Hid ((hrV o zs) = []) := Lib.hid (by unfold hrV; rw [all_not hlt ez]; rfl); have CW := iown3 (zs.getD k 0) U; rw [ez] at CW; clear ez; generalize zs.getD k 0 = z at *; go_wp2_with fail; refine CW.mono ?_; rintro e w' ⟨rfl, rfl⟩; go_wp2_with fail; go_ret; exact ⟨jz1 (by rw [HX.out] <;> rfl), B⟩
      | true =>
        have bz := own_bd ez; have HN := Lib.hid (hr_next (o := o) hlt)
        have HO2 : Hid (∀ j, j < k + 1 → ownB (zs.getD j 0) = true) := fun j hj => by
          by_cases e : j = k
          · subst e; exact ez
          · exact HO.out j (by omega)
        have l1 := HL.out k (fun j hj _ => by have := own_bd (HO.out j hj); omega); have l2 := spT_len (n := zs.getD k 0) bz.1 (by omega); have CW := iown3 (zs.getD k 0) U; have CS := ispaced (zs.getD k 0) U bz.1 (by omega); rw [ez] at CW; clear ez bz; generalize zs.getD k 0 = z at *; generalize hrT o zs k = T at *
        have a1 := fun w => jz2 T (spT z) w (by omega)
        clear l1 l2; generalize spT z = Z at *; go_wp2_with fail; refine CW.mono ?_; rintro e w' ⟨rfl, rfl⟩; go_wp2_with fail; refine CS.mono ?_; rintro e w' ⟨rfl, rfl⟩; go_wp2_with fail
        go_round
        case rel => exact ⟨k + 1, by omega, by go_num, by rw [HN.out], HO2⟩
        case measure => simp [intOf]; omega
    · obtain rfl : k = zs.length := by omega
      have HX : Hid ((hrV o zs) = hrT o zs zs.length) := Lib.hid (by unfold hrV; rw [all_up HO.out]; rfl); go_wp2_with fail; go_ret; exact ⟨jz1 (by rw [HX.out]), B⟩
theorem ifmtD (A : Option Addr) (cz : Nat) (x : Dd) (w : World) (h : jqf w A x.zs) :
    Calls Try.prog 88 #[.agg #[.int .i64 x.k, .int .i64 x.o, .int .i64 x.t, .int .i64 x.n, .int .i64 x.d, .slice A x.zs.length cz]] w fun e w' => e = .returned (.string (txt (ddT x))) ∧ Below w.heap.size w w' := by
  obtain ⟨dk, o, t, n, d, zs⟩ := x; dsimp only at h ⊢; have B := (Below.refl w.heap.size w).alloc (Nat.le_refl _) (.cells #[.int .i64 dk, .int .i64 o, .int .i64 t, .int .i64 n, .int .i64 d, .slice A zs.length cz] 61); have K := Blk.new w 61 #[.int .i64 dk, .int .i64 o, .int .i64 t, .int .i64 n, .int .i64 d, .slice A zs.length cz]; have hI := jq9 h B; clear h; generalize hU : w.alloc (.cells #[.int .i64 dk, .int .i64 o, .int .i64 t, .int .i64 n, .int .i64 d, .slice A zs.length cz] 61) = U at B K hI; obtain ⟨q0, q1, q2, q3, q4, q5⟩ := cells6 K; have HU := Lib.hid hU; have HI := Lib.hid hI; have hlt0 := K.lt; clear hU hI K; have HOUT := Lib.hid (dd_out (x := ⟨dk, o, t, n, d, zs⟩)); dsimp only at HOUT
  cases e1 : ownB o with
  | false =>
    have HX : Hid (txt (ddT ⟨dk, o, t, n, d, zs⟩) = txt []) := Lib.hid (by rw [HOUT.out (by rw [e1]; simp)]); clear HOUT; have CW := iown3 o U; rw [e1] at CW; clear e1; go_enter Try.func88, Try.ntmps88; go_wp2_with fail; rw [HU.out]; refine CW.mono ?_; rintro e w' ⟨rfl, rfl⟩; go_wp2_with fail; go_ret; exact ⟨jz1 HX.out.symm, B⟩
  | true =>
    have bo := own_bd e1
    by_cases e2 : zs.length ≤ 12
    case neg =>
      have HX : Hid (txt (ddT ⟨dk, o, t, n, d, zs⟩) = txt []) := Lib.hid (by rw [HOUT.out (fun c => e2 c.2)])
      have z2 : ¬ (zs.length : Int) ≤ 12 := by omega
      have z3 : (12 : Int) < (zs.length : Int) := by omega
      clear HOUT; have CW := iown3 o U; rw [e1] at CW; clear e1 e2; go_enter Try.func88, Try.ntmps88; go_wp2_with fail; rw [HU.out]; refine CW.mono ?_; rintro e w' ⟨rfl, rfl⟩; go_wp2_with fail; go_ret; exact ⟨jz1 HX.out.symm, B⟩
    clear HOUT
    have z2 : ¬ (12 : Int) < (zs.length : Int) := by omega
    have CW := iown3 o U; rw [e1] at CW
    by_cases c1 : dk = 1
    · subst c1
      have CH := ifmtH A cz ⟨1, o, t, n, d, zs⟩ U HI.out e2 e1; dsimp only at CH
      have HX : Hid (txt (ddT ⟨1, o, t, n, d, zs⟩) = txt (hrV o zs)) := Lib.hid (by
        cases z : zs.all ownB with
        | true => rw [dd_inh (x := ⟨1, o, t, n, d, zs⟩) ⟨e1, e2⟩ rfl z]; unfold hrV; rw [z]; rfl
        | false => rw [dd_inhN (x := ⟨1, o, t, n, d, zs⟩) rfl z]; unfold hrV; rw [z]; rfl)
      clear e1 e2; go_enter Try.func88, Try.ntmps88; go_wp2_with fail; rw [HU.out]; refine CW.mono ?_; rintro e w' ⟨rfl, rfl⟩; go_wp2_with fail; refine CH.mono ?_; rintro e w' ⟨rfl, C⟩; have B2 := jq2 B C; go_wp2_with fail; go_ret; exact ⟨jz1 HX.out.symm, B2⟩
    have CT := iown3 t U
    cases e3 : ownB t with
    | false =>
      have HX : Hid (txt (ddT ⟨dk, o, t, n, d, zs⟩) = txt []) := Lib.hid (by rw [dd_oth (x := ⟨dk, o, t, n, d, zs⟩) c1 e3]); rw [e3] at CT; clear e1 e2 e3; go_enter Try.func88, Try.ntmps88; go_wp2_with fail; rw [HU.out]; refine CW.mono ?_; rintro e w' ⟨rfl, rfl⟩; go_wp2_with fail; refine CT.mono ?_; rintro e w' ⟨rfl, rfl⟩; go_wp2_with fail; go_ret; exact ⟨jz1 HX.out.symm, B⟩
    | true =>
      have bt_ := own_bd e3; rw [e3] at CT; have lo := spT_len (n := o) bo.1 (by omega); have lt_ := spT_len (n := t) bt_.1 (by omega)
      have CSO := fun W => ispaced o W bo.1 (by omega)
      have CST := fun W => ispaced t W bt_.1 (by omega)
      by_cases c2 : dk = 2
      · subst c2
        have HX : Hid (txt (ddT ⟨2, o, t, n, d, zs⟩) = txt (jzb ++ spT o ++ spT t)) := Lib.hid (by rw [dd_join (x := ⟨2, o, t, n, d, zs⟩) ⟨e1, e2⟩ rfl e3])
        have a1 : ∀ w, (Op.stringOp .add ({ data := #[106, 111, 105, 110] } : ByteArray) (txt (spT o))).run Try.prog w = .ok (.string (txt (jzb ++ spT o))) w := fun w => jz2 jzb (spT o) w (by simp [jzb]; omega)
        have a2 := fun w => jz2 (jzb ++ spT o) (spT t) w (by simp [jzb]; omega)
        clear e1 e2 e3 lo lt_ bo bt_; generalize spT o = X1 at *; generalize spT t = X2 at *; have KQ0 := Lib.hid (fun j : Nat => Calls.quiet_of_same (w := U) (n := j) ((CSO _).mono (fun _ _ h => ⟨h.1, h.2.symm⟩))); have KQ1 := Lib.hid (fun j : Nat => Calls.quiet_of_same (w := U) (n := j) ((CST _).mono (fun _ _ h => ⟨h.1, h.2.symm⟩))); clear CSO CST; go_enter Try.func88, Try.ntmps88; go_wp2_with fail; rw [HU.out]; refine CW.mono ?_; rintro e w' ⟨rfl, rfl⟩; go_wp2_with fail; refine CT.mono ?_; rintro e w' ⟨rfl, rfl⟩; go_wp2_with fail
        go_quiet (first | (go_at_call_of 89 (Value.int .i64 o); exact KQ0.out _) | (go_at_call_of 89 (Value.int .i64 t); exact KQ1.out _) | fail)
        go_wp2_with fail; go_ret; exact ⟨jz1 HX.out.symm, jqc B _⟩
      by_cases c0 : dk = 0
      · subst c0
        cases e4 : Wsh.vfB n d with
        | false =>
          have HX : Hid (txt (ddT ⟨0, o, t, n, d, zs⟩) = txt []) := Lib.hid (by rw [dd_sellN (x := ⟨0, o, t, n, d, zs⟩) rfl e4]); have CV := iValid n d U; rw [e4] at CV; clear e1 e2 e3 e4 lo lt_ bo bt_ CSO CST; go_enter Try.func88, Try.ntmps88; go_wp2_with fail; rw [HU.out]; refine CW.mono ?_; rintro e w' ⟨rfl, rfl⟩; go_wp2_with fail; refine CT.mono ?_; rintro e w' ⟨rfl, rfl⟩; go_wp2_with fail; refine CV.mono ?_; rintro e w' ⟨rfl, C⟩; have B2 := jq2 B C; go_wp2_with fail; go_ret; exact ⟨jz1 HX.out.symm, B2⟩
        | true =>
          have HX : Hid (txt (ddT ⟨0, o, t, n, d, zs⟩) = txt (jzc ++ spT o ++ spT t ++ [32] ++ (frT n d).data.toList)) := Lib.hid (by rw [dd_sell (x := ⟨0, o, t, n, d, zs⟩) ⟨e1, e2⟩ rfl e3 e4]); have CV := iValid n d U; rw [e4] at CV; obtain ⟨y1, y2, y3, y4, _⟩ := (Wsh.vfB_iff _ _).1 e4
          have CF : ∀ W, Calls Try.prog 73 #[.agg #[.int .i64 n, .int .i64 d]] W fun e w' => e = .returned (.string (frT n d)) ∧ Below W.heap.size W w' := fun W => by have := iFmt n d W; rw [fm_yes e4] at this; exact this
          have lF : (frT n d).data.toList.length ≤ 40 := by
            rw [frT_list]
            have := dec_len 15 n.toNat (by omega)
            have := dec_len 15 d.toNat (by omega)
            simp; omega
          have eF : frT n d = txt (frT n d).data.toList := rfl; rw [eF] at CF; clear eF
          have a1 : ∀ w, (Op.stringOp .add ({ data := #[115, 101, 108, 108] } : ByteArray) (txt (spT o))).run Try.prog w = .ok (.string (txt (jzc ++ spT o))) w := fun w => jz2 jzc (spT o) w (by simp [jzc]; omega)
          have a2 := fun w => jz2 (jzc ++ spT o) (spT t) w (by simp [jzc]; omega)
          have a3 : ∀ w, (Op.stringOp .add (txt (jzc ++ spT o ++ spT t)) ({ data := #[32] } : ByteArray)).run Try.prog w = .ok (.string (txt (jzc ++ spT o ++ spT t ++ [32]))) w := fun w => jz2 (jzc ++ spT o ++ spT t) [32] w (by simp [jzc]; omega)
          generalize (frT n d).data.toList = F at *
          have a4 := fun w => jz2 (jzc ++ spT o ++ spT t ++ [32]) F w (by simp [jzc]; omega)
          clear e1 e2 e3 e4 lo lt_ bo bt_ y1 y2 y3 y4 lF; generalize jzc ++ spT o ++ spT t ++ [32] ++ F = X4 at *; generalize jzc ++ spT o ++ spT t ++ [32] = X3 at *; generalize jzc ++ spT o ++ spT t = X2 at *; generalize jzc ++ spT o = X1 at *; generalize spT o = Y1 at *; generalize spT t = Y2 at *; go_enter Try.func88, Try.ntmps88; go_wp2_with fail; rw [HU.out]; refine CW.mono ?_; rintro e w' ⟨rfl, rfl⟩; go_wp2_with fail; refine CT.mono ?_; rintro e w' ⟨rfl, rfl⟩; go_wp2_with fail; refine CV.mono ?_; rintro e U2 ⟨rfl, C⟩; have B2 := jq2 B C; have HSO := Lib.hid CSO; have HST := Lib.hid CST; have HSF := Lib.hid CF; clear CSO CST CF; replace q0 := ((C).cell (p := ⟨w.heap.size, 0, none⟩) hlt0).trans q0; replace q1 := ((C).cell (p := ⟨w.heap.size, 1, none⟩) hlt0).trans q1; replace q2 := ((C).cell (p := ⟨w.heap.size, 2, none⟩) hlt0).trans q2; replace q3 := ((C).cell (p := ⟨w.heap.size, 3, none⟩) hlt0).trans q3; replace q4 := ((C).cell (p := ⟨w.heap.size, 4, none⟩) hlt0).trans q4; replace q5 := ((C).cell (p := ⟨w.heap.size, 5, none⟩) hlt0).trans q5; have hlt1 : w.heap.size < U2.heap.size := Nat.lt_of_lt_of_le hlt0 C.size; clear C HI CW CT CV; go_wp2_with fail; have HMK1 := Lib.hid (fun (W : World) (hW : Below U2.heap.size U2 W) => (⟨⟨(hW.cell (p := ⟨w.heap.size, 0, none⟩) (hlt1)).trans q0, (hW.cell (p := ⟨w.heap.size, 1, none⟩) (hlt1)).trans q1, (hW.cell (p := ⟨w.heap.size, 2, none⟩) (hlt1)).trans q2, (hW.cell (p := ⟨w.heap.size, 3, none⟩) (hlt1)).trans q3, (hW.cell (p := ⟨w.heap.size, 4, none⟩) (hlt1)).trans q4, (hW.cell (p := ⟨w.heap.size, 5, none⟩) (hlt1)).trans q5⟩, hW⟩ : (W.cell? ⟨w.heap.size, 0, none⟩ = some (.int .i64 0) ∧ W.cell? ⟨w.heap.size, 1, none⟩ = some (.int .i64 o) ∧ W.cell? ⟨w.heap.size, 2, none⟩ = some (.int .i64 t) ∧ W.cell? ⟨w.heap.size, 3, none⟩ = some (.int .i64 n) ∧ W.cell? ⟨w.heap.size, 4, none⟩ = some (.int .i64 d) ∧ W.cell? ⟨w.heap.size, 5, none⟩ = some (.slice A zs.length cz)) ∧ Below U2.heap.size U2 W))
          refine wp_region_held_drew (S := (fun w' => (w'.cell? ⟨w.heap.size, 0, none⟩ = some (.int .i64 0) ∧ w'.cell? ⟨w.heap.size, 1, none⟩ = some (.int .i64 o) ∧ w'.cell? ⟨w.heap.size, 2, none⟩ = some (.int .i64 t) ∧ w'.cell? ⟨w.heap.size, 3, none⟩ = some (.int .i64 n) ∧ w'.cell? ⟨w.heap.size, 4, none⟩ = some (.int .i64 d) ∧ w'.cell? ⟨w.heap.size, 5, none⟩ = some (.slice A zs.length cz)) ∧ Below U2.heap.size U2 w')) (by kernel_rfl) ?_ (fun hHeld => ?_)
          · exact ⟨⟨q0, q1, q2, q3, q4, q5⟩, (Below.refl _ _).drew⟩
          refine tk (i := 0) (v := ?v3f) rfl ?c3f ?d_3f
          case c3f => (refine .inl ⟨by rfl, ?_⟩; intro w h; (try dsimp only at h); go_simp <;> with_reducible rfl)
          try simp only [pt]
          refine tk (i := 1) (v := ?v40) rfl ?c40 ?d_40
          case c40 => (refine .inl ⟨by rfl, ?_⟩; intro w h; (try dsimp only at h); go_simp <;> with_reducible rfl)
          try simp only [pt]
          refine tk (i := 4) (v := ?v41) rfl ?c41 ?d_41
          case c41 => (refine .inl ⟨by rfl, ?_⟩; intro w h; (try dsimp only at h); go_simp <;> with_reducible rfl)
          try simp only [pt]
          refine tk (i := 5) (v := ?v42) rfl ?c42 ?d_42
          case c42 => (refine .inl ⟨by rfl, ?_⟩; intro w h; (try dsimp only at h); go_simp <;> with_reducible rfl)
          try simp only [pt]
          refine tk (i := 9) (v := ?v43) rfl ?c43 ?d_43
          case c43 => (refine .inl ⟨by rfl, ?_⟩; intro w h; (try dsimp only at h); go_simp <;> with_reducible rfl)
          try simp only [pt]
          refine tk (i := 10) (v := ?v44) rfl ?c44 ?d_44
          case c44 => (refine .inl ⟨by rfl, ?_⟩; intro w h; (try dsimp only at h); go_simp <;> with_reducible rfl)
          try simp only [pt]
          refine wpAnyH_ready (rs := [2]) (by kernel_rfl) (by simp) (AllReadyH.cons (o := ?ooa8_q0) ?hia8_q0 (fun K hK => ?hka8_q0) AllReadyH.nil)
          case hia8_q0 => (simp only [List.getElem?_toArray, List.getElem?_cons_succ, List.getElem?_cons_zero]; rfl)
          case hka8_q0 =>
            (rw [if_pos (by rfl)]; go_simp; refine (HSO.out _).mono ?_; rintro e w' ⟨rfl, rfl⟩; go_wp2_with fail; refine hK.out _ _ (hHeld) (fun hHeld => ?_); clear hK K)
            try simp only [pt]
            refine tk (i := 3) (v := ?v45) rfl ?c45 ?d_45
            case c45 => (refine .inl ⟨by rfl, ?_⟩; intro w h; (try dsimp only at h); go_simp <;> with_reducible rfl)
            try simp only [pt]
            refine wpAnyH_ready (rs := [6]) (by kernel_rfl) (by simp) (AllReadyH.cons (o := ?ooa10_q0) ?hia10_q0 (fun K hK => ?hka10_q0) AllReadyH.nil)
            case hia10_q0 => (simp only [List.getElem?_toArray, List.getElem?_cons_succ, List.getElem?_cons_zero]; rfl)
            case hka10_q0 =>
              (rw [if_pos (by rfl)]; go_simp; refine (HST.out _).mono ?_; rintro e w' ⟨rfl, rfl⟩; go_wp2_with fail; refine hK.out _ _ (hHeld) (fun hHeld => ?_); clear hK K)
              try simp only [pt]
              refine tk (i := 7) (v := ?v46) rfl ?c46 ?d_46
              case c46 => (refine .inl ⟨by rfl, ?_⟩; intro w h; (try dsimp only at h); go_simp <;> with_reducible rfl)
              try simp only [pt]
              refine tk (i := 8) (v := ?v47) rfl ?c47 ?d_47
              case c47 => (refine .inl ⟨by rfl, ?_⟩; intro w h; (try dsimp only at h); go_simp <;> with_reducible rfl)
              try simp only [pt]
              refine wpAnyH_ready (rs := [11]) (by kernel_rfl) (by simp) (AllReadyH.cons (o := ?ooa13_q0) ?hia13_q0 (fun K hK => ?hka13_q0) AllReadyH.nil)
              case hia13_q0 => (simp only [List.getElem?_toArray, List.getElem?_cons_succ, List.getElem?_cons_zero]; rfl)
              case hka13_q0 =>
                (rw [if_pos (by rfl)]; go_simp; refine (HSF.out _).mono ?_; rintro e w11_ ⟨rfl, C_⟩; go_wp2_with fail; refine hK.out _ _ (HMK1.out _ (jq2 hHeld.2 C_)) (fun hHeld => ?_); clear hK K)
                try simp only [pt]
                refine tk (i := 12) (v := ?v48) rfl ?c48 ?d_48
                case c48 => (refine .inl ⟨by rfl, ?_⟩; intro w h; (try dsimp only at h); go_simp <;> with_reducible rfl)
                try simp only [pt]
                refine tk (i := 13) (v := ?v49) rfl ?c49 ?d_49
                case c49 => (refine .inl ⟨by rfl, ?_⟩; intro w h; (try dsimp only at h); go_simp <;> with_reducible rfl)
                try simp only [pt]
                refine wpAnyH_done (by kernel_rfl) ?_ _; clear HMK1; have B3 := jq2 B2 hHeld.2; clear hHeld; go_wp2_with fail; go_ret; exact ⟨jz1 HX.out.symm, B3⟩
      · have HX : Hid (txt (ddT ⟨dk, o, t, n, d, zs⟩) = txt []) := Lib.hid (by rw [dd_none (x := ⟨dk, o, t, n, d, zs⟩) c0 c1 c2])
        clear e1 e2 e3 lo lt_ bo bt_ CSO CST; go_enter Try.func88, Try.ntmps88; go_wp2_with fail; rw [HU.out]; refine CW.mono ?_; rintro e w' ⟨rfl, rfl⟩; go_wp2_with fail; refine CT.mono ?_; rintro e w' ⟨rfl, rfl⟩; go_wp2_with fail; go_ret; exact ⟨jz1 HX.out.symm, B⟩
theorem iFmtE (A : Option Addr) (cz : Nat) (x : Ev) (w : World) (h : jqf w A x.dd.zs) :
    Calls Try.prog 33 #[.agg #[.int .i64 x.k, .int .i64 x.dd.k, .int .i64 x.dd.o, .int .i64 x.dd.t, .int .i64 x.dd.n, .int .i64 x.dd.d, .slice A x.dd.zs.length cz, .int .i64 x.at_, .int .i64 x.nu]] w fun e w' => e = .returned (.string (fmE x)) ∧ Below w.heap.size w w' := by
  obtain ⟨k, ⟨dk, o, t, n, d, zs⟩, at_, nu⟩ := x; dsimp only at h ⊢; have B := (Below.refl w.heap.size w).alloc (Nat.le_refl _) (.cells #[.int .i64 k, .int .i64 dk, .int .i64 o, .int .i64 t, .int .i64 n, .int .i64 d, .slice A zs.length cz, .int .i64 at_, .int .i64 nu] 63); have K := Blk.new w 63 #[.int .i64 k, .int .i64 dk, .int .i64 o, .int .i64 t, .int .i64 n, .int .i64 d, .slice A zs.length cz, .int .i64 at_, .int .i64 nu]; have hI := jq9 h B; clear h; generalize hU : w.alloc (.cells #[.int .i64 k, .int .i64 dk, .int .i64 o, .int .i64 t, .int .i64 n, .int .i64 d, .slice A zs.length cz, .int .i64 at_, .int .i64 nu] 63) = U at B K hI; obtain ⟨q0, q1, q2, q3, q4, q5, q6, q7, q8⟩ := jq4 K; have HU := Lib.hid hU; have HI := Lib.hid hI; have hlt0 := K.lt; clear hU hI K; have HOUT := Lib.hid (ev_out (e := ⟨k, ⟨dk, o, t, n, d, zs⟩, at_, nu⟩)); dsimp only at HOUT; have CA := isml3 at_ U; have CN := isml3 nu U
  cases e1 : smlB at_ with
  | false =>
    have HX : Hid (fmE ⟨k, ⟨dk, o, t, n, d, zs⟩, at_, nu⟩ = txt []) := Lib.hid (HOUT.out (by rw [e1]; simp)); rw [e1] at CA; clear HOUT e1 CN; go_enter Try.func33, Try.ntmps33; go_wp2_with fail; rw [HU.out]; refine CA.mono ?_; rintro e w' ⟨rfl, rfl⟩; go_wp2_with fail; go_ret; exact ⟨jz1 HX.out.symm, B⟩
  | true =>
    rw [e1] at CA
    cases e2 : smlB nu with
    | false =>
      have HX : Hid (fmE ⟨k, ⟨dk, o, t, n, d, zs⟩, at_, nu⟩ = txt []) := Lib.hid (HOUT.out (by rw [e2]; simp)); rw [e2] at CN; clear HOUT e1 e2; go_enter Try.func33, Try.ntmps33; go_wp2_with fail; rw [HU.out]; refine CA.mono ?_; rintro e w' ⟨rfl, rfl⟩; go_wp2_with fail; refine CN.mono ?_; rintro e w' ⟨rfl, rfl⟩; go_wp2_with fail; go_ret; exact ⟨jz1 HX.out.symm, B⟩
    | true =>
      rw [e2] at CN; clear HOUT; have ba := sml_bd e1; have bn := sml_bd e2; have la := spT_len (n := at_) ba.1 (by omega); have ln := spT_len (n := nu) bn.1 (by omega); have HSA := Lib.hid (fun W => ispaced at_ W ba.1 (by omega)); have HSN := Lib.hid (fun W => ispaced nu W bn.1 (by omega)); have HS := Lib.hid (And.intro e1 e2); clear e1 e2 ba bn
      by_cases c0 : k = 0
      · subst c0
        have HX : Hid (fmE ⟨0, ⟨dk, o, t, n, d, zs⟩, at_, nu⟩ = txt (ddT ⟨dk, o, t, n, d, zs⟩)) := Lib.hid (ev_deed (e := ⟨0, ⟨dk, o, t, n, d, zs⟩, at_, nu⟩) HS.out rfl); have CD := ifmtD A cz ⟨dk, o, t, n, d, zs⟩ U HI.out; dsimp only at CD; clear HSA HSN la ln; go_enter Try.func33, Try.ntmps33; go_wp2_with fail; rw [HU.out]; refine CA.mono ?_; rintro e w' ⟨rfl, rfl⟩; go_wp2_with fail; refine CN.mono ?_; rintro e w' ⟨rfl, rfl⟩; go_wp2_with fail; refine CD.mono ?_; rintro e w' ⟨rfl, C⟩; have B2 := jq2 B C; go_wp2_with fail; go_ret; exact ⟨jz1 HX.out.symm, B2⟩
      by_cases c1 : k = 1
      · subst c1
        have HX : Hid (fmE ⟨1, ⟨dk, o, t, n, d, zs⟩, at_, nu⟩ = txt (jz0 ++ spT nu)) := Lib.hid (by rw [ev_turns (e := ⟨1, ⟨dk, o, t, n, d, zs⟩, at_, nu⟩) HS.out rfl] <;> simp [spT, nT])
        have a1 : ∀ w, (Op.stringOp .add ({ data := #[116, 117, 114, 110, 115] } : ByteArray) (txt (spT nu))).run Try.prog w = .ok (.string (txt (jz0 ++ spT nu))) w := fun w => by have := jz2 jz0 (spT nu) w (by simp [jz0]; omega); exact this
        have CQ := HSN.out U; clear HSA HSN la ln HS; generalize spT nu = Y at *; go_enter Try.func33, Try.ntmps33; go_wp2_with fail; rw [HU.out]; refine CA.mono ?_; rintro e w' ⟨rfl, rfl⟩; go_wp2_with fail; refine CN.mono ?_; rintro e w' ⟨rfl, rfl⟩; go_wp2_with fail; refine CQ.mono ?_; rintro e w' ⟨rfl, rfl⟩; go_wp2_with fail; go_ret; exact ⟨jz1 HX.out.symm, B⟩
      by_cases c2 : k = 2
      · subst c2
        have HX : Hid (fmE ⟨2, ⟨dk, o, t, n, d, zs⟩, at_, nu⟩ = txt (jz4 ++ spT at_ ++ spT nu)) := Lib.hid (by rw [ev_swap (e := ⟨2, ⟨dk, o, t, n, d, zs⟩, at_, nu⟩) HS.out rfl] <;> simp [spT, nT])
        have a1 : ∀ w, (Op.stringOp .add ({ data := #[115, 119, 97, 112] } : ByteArray) (txt (spT at_))).run Try.prog w = .ok (.string (txt (jz4 ++ spT at_))) w := fun w => by have := jz2 jz4 (spT at_) w (by simp [jz4]; omega); exact this
        have a3 := fun w => jz2 (jz4 ++ spT at_) (spT nu) w (by simp [jz4]; omega)
        clear la ln HS; generalize jz4 ++ spT at_ ++ spT nu = X3 at *; generalize jz4 ++ spT at_ = X1 at *; have KQ0 := Lib.hid (fun j : Nat => Calls.quiet_of_same (w := U) (n := j) ((HSA.out _).mono (fun _ _ h => ⟨h.1, h.2.symm⟩))); have KQ1 := Lib.hid (fun j : Nat => Calls.quiet_of_same (w := U) (n := j) ((HSN.out _).mono (fun _ _ h => ⟨h.1, h.2.symm⟩))); clear HSA HSN; generalize spT at_ = Y1 at *; generalize spT nu = Y2 at *; go_enter Try.func33, Try.ntmps33; go_wp2_with fail; rw [HU.out]; refine CA.mono ?_; rintro e w' ⟨rfl, rfl⟩; go_wp2_with fail; refine CN.mono ?_; rintro e w' ⟨rfl, rfl⟩; go_wp2_with fail
        go_quiet (first | (go_at_call_of 89 (Value.int .i64 at_); exact KQ0.out _) | (go_at_call_of 89 (Value.int .i64 nu); exact KQ1.out _) | fail)
        go_wp2_with fail; go_ret; exact ⟨jz1 HX.out.symm, jqc B _⟩
      by_cases c3 : k = 3
      · subst c3
        have HX : Hid (fmE ⟨3, ⟨dk, o, t, n, d, zs⟩, at_, nu⟩ = txt (jz5 ++ spT at_ ++ spT nu)) := Lib.hid (by rw [ev_gate (e := ⟨3, ⟨dk, o, t, n, d, zs⟩, at_, nu⟩) HS.out rfl] <;> simp [spT, nT])
        have a1 : ∀ w, (Op.stringOp .add ({ data := #[103, 97, 116, 101] } : ByteArray) (txt (spT at_))).run Try.prog w = .ok (.string (txt (jz5 ++ spT at_))) w := fun w => by have := jz2 jz5 (spT at_) w (by simp [jz5]; omega); exact this
        have a3 := fun w => jz2 (jz5 ++ spT at_) (spT nu) w (by simp [jz5]; omega)
        clear la ln HS; generalize jz5 ++ spT at_ ++ spT nu = X3 at *; generalize jz5 ++ spT at_ = X1 at *; have KQ0 := Lib.hid (fun j : Nat => Calls.quiet_of_same (w := U) (n := j) ((HSA.out _).mono (fun _ _ h => ⟨h.1, h.2.symm⟩))); have KQ1 := Lib.hid (fun j : Nat => Calls.quiet_of_same (w := U) (n := j) ((HSN.out _).mono (fun _ _ h => ⟨h.1, h.2.symm⟩))); clear HSA HSN; generalize spT at_ = Y1 at *; generalize spT nu = Y2 at *; go_enter Try.func33, Try.ntmps33; go_wp2_with fail; rw [HU.out]; refine CA.mono ?_; rintro e w' ⟨rfl, rfl⟩; go_wp2_with fail; refine CN.mono ?_; rintro e w' ⟨rfl, rfl⟩; go_wp2_with fail
        go_quiet (first | (go_at_call_of 89 (Value.int .i64 at_); exact KQ0.out _) | (go_at_call_of 89 (Value.int .i64 nu); exact KQ1.out _) | fail)
        go_wp2_with fail; go_ret; exact ⟨jz1 HX.out.symm, jqc B _⟩
      by_cases c4 : k = 4
      · subst c4
        have HX : Hid (fmE ⟨4, ⟨dk, o, t, n, d, zs⟩, at_, nu⟩ = txt (kDig ++ spT at_ ++ spT nu)) := Lib.hid (by rw [ev_dig (e := ⟨4, ⟨dk, o, t, n, d, zs⟩, at_, nu⟩) HS.out rfl] <;> simp [spT, nT])
        have a1 : ∀ w, (Op.stringOp .add ({ data := #[100, 105, 103] } : ByteArray) (txt (spT at_))).run Try.prog w = .ok (.string (txt (kDig ++ spT at_))) w := fun w => by have := jz2 kDig (spT at_) w (by simp [kDig]; omega); exact this
        have a3 := fun w => jz2 (kDig ++ spT at_) (spT nu) w (by simp [kDig]; omega)
        clear la ln HS; generalize kDig ++ spT at_ ++ spT nu = X3 at *; generalize kDig ++ spT at_ = X1 at *; have KQ0 := Lib.hid (fun j : Nat => Calls.quiet_of_same (w := U) (n := j) ((HSA.out _).mono (fun _ _ h => ⟨h.1, h.2.symm⟩))); have KQ1 := Lib.hid (fun j : Nat => Calls.quiet_of_same (w := U) (n := j) ((HSN.out _).mono (fun _ _ h => ⟨h.1, h.2.symm⟩))); clear HSA HSN; generalize spT at_ = Y1 at *; generalize spT nu = Y2 at *; go_enter Try.func33, Try.ntmps33; go_wp2_with fail; rw [HU.out]; refine CA.mono ?_; rintro e w' ⟨rfl, rfl⟩; go_wp2_with fail; refine CN.mono ?_; rintro e w' ⟨rfl, rfl⟩; go_wp2_with fail
        go_quiet (first | (go_at_call_of 89 (Value.int .i64 at_); exact KQ0.out _) | (go_at_call_of 89 (Value.int .i64 nu); exact KQ1.out _) | fail)
        go_wp2_with fail; go_ret; exact ⟨jz1 HX.out.symm, jqc B _⟩
      by_cases c5 : k = 5
      · subst c5
        have HX : Hid (fmE ⟨5, ⟨dk, o, t, n, d, zs⟩, at_, nu⟩ = txt (jzg ++ spT nu)) := Lib.hid (by rw [ev_hour (e := ⟨5, ⟨dk, o, t, n, d, zs⟩, at_, nu⟩) HS.out rfl] <;> simp [spT, nT])
        have a1 : ∀ w, (Op.stringOp .add ({ data := #[104, 111, 117, 114] } : ByteArray) (txt (spT nu))).run Try.prog w = .ok (.string (txt (jzg ++ spT nu))) w := fun w => by have := jz2 jzg (spT nu) w (by simp [jzg]; omega); exact this
        have CQ := HSN.out U; clear HSA HSN la ln HS; generalize spT nu = Y at *; go_enter Try.func33, Try.ntmps33; go_wp2_with fail; rw [HU.out]; refine CA.mono ?_; rintro e w' ⟨rfl, rfl⟩; go_wp2_with fail; refine CN.mono ?_; rintro e w' ⟨rfl, rfl⟩; go_wp2_with fail; refine CQ.mono ?_; rintro e w' ⟨rfl, rfl⟩; go_wp2_with fail; go_ret; exact ⟨jz1 HX.out.symm, B⟩
      have HX : Hid (fmE ⟨k, ⟨dk, o, t, n, d, zs⟩, at_, nu⟩ = txt []) := Lib.hid (ev_none (e := ⟨k, ⟨dk, o, t, n, d, zs⟩, at_, nu⟩) c0 c1 c2 c3 c4 c5); clear HSA HSN la ln HS; go_enter Try.func33, Try.ntmps33; go_wp2_with fail; rw [HU.out]; refine CA.mono ?_; rintro e w' ⟨rfl, rfl⟩; go_wp2_with fail; refine CN.mono ?_; rintro e w' ⟨rfl, rfl⟩; go_wp2_with fail; go_ret; exact ⟨jz1 HX.out.symm, B⟩
def OutRD (w : World) (x : Dd) (e : Ending) (w' : World) : Prop := ∃ v, e = .returned (.agg #[.int .i64 x.k, .int .i64 x.o, .int .i64 x.t, .int .i64 x.n, .int .i64 x.d, v]) ∧ OwnI w' w.heap.size v x.zs ∧ Below w.heap.size w w'
def OutRE (w : World) (x : Ev) (e : Ending) (w' : World) : Prop := ∃ v, e = .returned (.agg #[.int .i64 x.k, .int .i64 x.dd.k, .int .i64 x.dd.o, .int .i64 x.dd.t, .int .i64 x.dd.n, .int .i64 x.dd.d, v, .int .i64 x.at_, .int .i64 x.nu]) ∧ OwnI w' w.heap.size v x.dd.zs ∧ Below w.heap.size w w'
theorem rdD_sell {L : List ByteArray} (h : kw L = jzc) : rdD L = ⟨0, nA L 1, nA L 2, (pA L 3).1, (pA L 3).2, []⟩ := by unfold rdD; rw [if_pos h]
theorem rdD_inh {L : List ByteArray} (h0 : ¬ kw L = jzc) (h : kw L = kInh) : rdD L = ⟨1, nA L 1, 0, 0, 0, hA L⟩ := by unfold rdD; rw [if_neg h0, if_pos h]
theorem rdD_join {L : List ByteArray} (h0 : ¬ kw L = jzc) (h1 : ¬ kw L = kInh) (h : kw L = jzb) : rdD L = ⟨2, nA L 1, nA L 2, 0, 0, []⟩ := by unfold rdD; rw [if_neg h0, if_neg h1, if_pos h]
theorem rdD_no {L : List ByteArray} (h0 : ¬ kw L = jzc) (h1 : ¬ kw L = kInh) (h : ¬ kw L = jzb) : rdD L = dd0 := by unfold rdD; rw [if_neg h0, if_neg h1, if_neg h]
theorem ireadD (a : Option Addr) (cap : Nat) (L : List ByteArray) (w : World) (h : IsStr w a L) (hL : L ≠ []) (hz : ∀ l ∈ L, l.size ≤ 4294967296) (hl : L.length ≤ 1048576) :
  Calls Try.prog 145 #[.slice a L.length cap] w (OutRD w (rdD L)) := by
 have CN := Lib.hid (fun (k : Int) (n : Nat) W (hW : Below w.heap.size w W) (hk : k = n) => inumAt a cap L k n W (str_below h hW) hz hl hk); have CP := Lib.hid (fun (k : Int) (n : Nat) W (hW : Below w.heap.size w W) (hk : k = n) => ipartAt a cap L k n W (str_below h hW) hz hl hk); have CH := Lib.hid (fun W (hW : Below w.heap.size w W) => iheirsIn a cap L W (str_below h hW) hz hl); have hkw : kw L = (L.getD 0 tE).data.toList := rfl
 rcases h with e | ⟨g, o_, rfl, hc⟩
 ·exact absurd e hL
 have c0 := hc 0 (List.length_pos_iff.2 hL)
 have hp : (0 : Int) < (L.length : Int) := by have := List.length_pos_iff.2 hL; omega
 have c0b := World.block_lt_of_cell? w _ c0; clear hc hL hz; rw [Nat.add_zero] at c0; have B := (Below.refl w.heap.size w).alloc (Nat.le_refl _) (.cells #[.int .i64 0, .int .i64 0, .int .i64 0, .int .i64 0, .int .i64 0, .slice none 0 0] 61); have K := Lib.hid (Blk.new w 61 #[.int .i64 0, .int .i64 0, .int .i64 0, .int .i64 0, .int .i64 0, .slice none 0 0]); have c1 := (B.cell (p := ⟨g, o_, none⟩) c0b).trans c0
 obtain ⟨U, hU⟩ : ∃ U, U = w.alloc (.cells #[.int .i64 0, .int .i64 0, .int .i64 0, .int .i64 0, .int .i64 0, .slice none 0 0] 61) := ⟨_, rfl⟩
 rw [← hU] at B K c1; have HU := Lib.hid hU; have HB := Lib.hid B; have hs0 := B.size; have ltU := K.out.lt; clear hU c0 c0b
 by_cases k1 : kw L = jzc
 ·have HX := Lib.hid (rdD_sell k1)
  rw [hkw] at k1; clear hkw; generalize L.getD 0 tE = A at *; have t1 : (A.toList == [115, 101, 108, 108]) = true := jja A jzc k1; generalize hn1 : nA L 1 = n1 at *; generalize hn2 : nA L 2 = n2 at *; generalize hn3 : pA L 3 = q3 at *; obtain ⟨x, y⟩ := q3; dsimp only at HX; have C1 := CN.out 1 1 U B rfl; have C2 := CN.out 2 2 U B rfl; have C3 := CP.out 3 3 U B rfl; rw [hn1] at C1; rw [hn2] at C2; rw [hn3] at C3; clear CN CP CH B k1 hn1 hn2 hn3; go_enter Try.func145, Try.ntmps145; go_wp2_with fail; rw [← HU.out]; refine C1.mono ?_; rintro e w' ⟨rfl, rfl⟩; go_wp2_with fail; refine C2.mono ?_; rintro e w' ⟨rfl, rfl⟩; go_wp2_with fail; refine C3.mono ?_; rintro e U2 ⟨rfl, C⟩; have K2 := Lib.hid (K.out.next C); have B2 := Lib.hid (jq2 HB.out C); clear C c1
  obtain ⟨y1, hy⟩ : ∃ Y_, Y_ = sets6 U2 w.heap.size (.int .i64 0) (.int .i64 n1) (.int .i64 n2) (.int .i64 x) (.int .i64 y) (.slice none 0 0) := ⟨_, rfl⟩
  have KF := jjf (v0 := .int .i64 0) (v1 := .int .i64 n1) (v2 := .int .i64 n2) (v3 := .int .i64 x) (v4 := .int .i64 y) (v5 := .slice none 0 0) K2.out; rw [← hy] at KF; obtain ⟨z0, z1, z2, z3, z4, z5⟩ := cells6 KF; have BF := Lib.hid (show Below w.heap.size w y1 by subst hy; exact sets6_below B2.out (Nat.le_refl _)); have HY := Lib.hid hy; clear KF hy
  go_wp2_with (first | (show wpList _ _ _ ({ dst := _, op := Op.store _ _ _, type := _, pos := _, after := _, guard := _ } :: _) _ _; refine jj7 rfl _ _ _ rfl w.heap.size (.int .i64 0) (.int .i64 n1) (.int .i64 n2) (.int .i64 x) (.int .i64 y) (.slice none 0 0) rfl rfl K2.out (by kernel_rfl) rfl ?_; rw [← HY.out]))
  refine bodyPost_ret (v := .agg #[.int .i64 0, .int .i64 n1, .int .i64 n2, .int .i64 x, .int .i64 y, .slice none 0 0]) (by simp [results, Try.results145, go_sem, z0, z1, z2, z3, z4, z5]) rfl ⟨_, by rw [HX.out], by rw [HX.out]; exact OwnI.nil _ _, BF.out⟩
 have t1 : ((L.getD 0 tE).toList == [115, 101, 108, 108]) = false := jqd _ jzc (by rw [← hkw]; exact k1)
 by_cases k2 : kw L = kInh
 ·have HX := Lib.hid (rdD_inh k1 k2)
  rw [hkw] at k1 k2; clear hkw; generalize L.getD 0 tE = A at *; have t2 : (A.toList == [105, 110, 104, 101, 114, 105, 116]) = true := jja A kInh k2; generalize hn1 : nA L 1 = n1 at *; have C1 := CN.out 1 1 U B rfl; have C3 := CH.out U B; rw [hn1] at C1; clear CN CP CH B k1 k2 hn1; generalize hA L = zs at *; go_enter Try.func145, Try.ntmps145; go_wp2_with fail; rw [← HU.out]; refine C1.mono ?_; rintro e w' ⟨rfl, rfl⟩; go_wp2_with fail; refine C3.mono ?_; rintro e U2 ⟨v, rfl, O, C⟩; have K2 := Lib.hid (K.out.next C); have B2 := Lib.hid (jq2 HB.out C); obtain ⟨b, cz, rfl, _⟩ := O.ints
  have hne : (Value.slice b zs.length cz).ownBlock ≠ some w.heap.size := fun c => by have := O.grow _ c; omega
  have HO := Lib.hid (own_lower O hs0); have HNE := Lib.hid hne; clear C c1 O hne
  obtain ⟨y1, hy⟩ : ∃ Y_, Y_ = sets6 U2 w.heap.size (.int .i64 1) (.int .i64 n1) (.int .i64 0) (.int .i64 0) (.int .i64 0) (.slice b zs.length cz) := ⟨_, rfl⟩
  have KF := jjf (v0 := .int .i64 1) (v1 := .int .i64 n1) (v2 := .int .i64 0) (v3 := .int .i64 0) (v4 := .int .i64 0) (v5 := .slice b zs.length cz) K2.out; rw [← hy] at KF; obtain ⟨z0, z1, z2, z3, z4, z5⟩ := cells6 KF; have BF := Lib.hid (show Below w.heap.size w y1 by subst hy; exact sets6_below B2.out (Nat.le_refl _)); have HOF := Lib.hid (show OwnI y1 w.heap.size (.slice b zs.length cz) zs by subst hy; exact ((((((HO.out.far HNE.out _).far HNE.out _).far HNE.out _).far HNE.out _).far HNE.out _).far HNE.out _)); have HY := Lib.hid hy; clear KF hy
  go_wp2_with (first | (show wpList _ _ _ ({ dst := _, op := Op.store _ _ _, type := _, pos := _, after := _, guard := _ } :: _) _ _; refine jj7 rfl _ _ _ rfl w.heap.size (.int .i64 1) (.int .i64 n1) (.int .i64 0) (.int .i64 0) (.int .i64 0) (.slice b zs.length cz) rfl rfl K2.out (by kernel_rfl) rfl ?_; rw [← HY.out]))
  refine bodyPost_ret (v := .agg #[.int .i64 1, .int .i64 n1, .int .i64 0, .int .i64 0, .int .i64 0, .slice b zs.length cz]) (by simp [results, Try.results145, go_sem, z0, z1, z2, z3, z4, z5]) rfl ⟨_, by rw [HX.out], by rw [HX.out]; exact HOF.out, BF.out⟩
 have t2 : ((L.getD 0 tE).toList == [105, 110, 104, 101, 114, 105, 116]) = false := jqd _ kInh (by rw [← hkw]; exact k2)
 by_cases k3 : kw L = jzb
 ·have HX := Lib.hid (rdD_join k1 k2 k3)
  rw [hkw] at k1 k2 k3; clear hkw; generalize L.getD 0 tE = A at *; have t3 : (A.toList == [106, 111, 105, 110]) = true := jja A jzb k3; generalize hn1 : nA L 1 = n1 at *; generalize hn2 : nA L 2 = n2 at *; have C1 := CN.out 1 1 U B rfl; have C2 := CN.out 2 2 U B rfl; rw [hn1] at C1; rw [hn2] at C2; clear CN CP CH B k1 k2 k3 hn1 hn2; go_enter Try.func145, Try.ntmps145; go_wp2_with fail; rw [← HU.out]; refine C1.mono ?_; rintro e w' ⟨rfl, rfl⟩; go_wp2_with fail; refine C2.mono ?_; rintro e w' ⟨rfl, rfl⟩
  obtain ⟨y1, hy⟩ : ∃ Y_, Y_ = sets6 U w.heap.size (.int .i64 2) (.int .i64 n1) (.int .i64 n2) (.int .i64 0) (.int .i64 0) (.slice none 0 0) := ⟨_, rfl⟩
  have KF := jjf (v0 := .int .i64 2) (v1 := .int .i64 n1) (v2 := .int .i64 n2) (v3 := .int .i64 0) (v4 := .int .i64 0) (v5 := .slice none 0 0) K.out; rw [← hy] at KF; obtain ⟨z0, z1, z2, z3, z4, z5⟩ := cells6 KF; have BF := Lib.hid (show Below w.heap.size w y1 by subst hy; exact sets6_below HB.out (Nat.le_refl _)); have HY := Lib.hid hy; clear KF hy
  go_wp2_with (first | (show wpList _ _ _ ({ dst := _, op := Op.store _ _ _, type := _, pos := _, after := _, guard := _ } :: _) _ _; refine jj7 rfl _ _ _ rfl w.heap.size (.int .i64 2) (.int .i64 n1) (.int .i64 n2) (.int .i64 0) (.int .i64 0) (.slice none 0 0) rfl rfl K.out (by kernel_rfl) rfl ?_; rw [← HY.out]))
  refine bodyPost_ret (v := .agg #[.int .i64 2, .int .i64 n1, .int .i64 n2, .int .i64 0, .int .i64 0, .slice none 0 0]) (by simp [results, Try.results145, go_sem, z0, z1, z2, z3, z4, z5]) rfl ⟨_, by rw [HX.out], by rw [HX.out]; exact OwnI.nil _ _, BF.out⟩
 have t3 : ((L.getD 0 tE).toList == [106, 111, 105, 110]) = false := jqd _ jzb (by rw [← hkw]; exact k3); have HX := Lib.hid (rdD_no k1 k2 k3); clear k1 k2 k3 hkw; generalize L.getD 0 tE = A at *; have C1 := CN.out 1 1 U B rfl; generalize nA L 1 = n1 at *; clear CN CP CH B; go_enter Try.func145, Try.ntmps145; go_wp2_with fail; rw [← HU.out]; refine C1.mono ?_; rintro e w' ⟨rfl, rfl⟩
 obtain ⟨y1, hy⟩ : ∃ Y_, Y_ = sets6 U w.heap.size (.int .i64 0) (.int .i64 0) (.int .i64 0) (.int .i64 0) (.int .i64 0) (.slice none 0 0) := ⟨_, rfl⟩
 have KF := jjf (v0 := .int .i64 0) (v1 := .int .i64 0) (v2 := .int .i64 0) (v3 := .int .i64 0) (v4 := .int .i64 0) (v5 := .slice none 0 0) K.out; rw [← hy] at KF; obtain ⟨z0, z1, z2, z3, z4, z5⟩ := cells6 KF; have BF := Lib.hid (show Below w.heap.size w y1 by subst hy; exact sets6_below HB.out (Nat.le_refl _)); have HY := Lib.hid hy; clear KF hy
 go_wp2_with (first | (show wpList _ _ _ ({ dst := _, op := Op.store _ _ _, type := _, pos := _, after := _, guard := _ } :: _) _ _; refine jj7 rfl _ _ _ rfl w.heap.size (.int .i64 0) (.int .i64 0) (.int .i64 0) (.int .i64 0) (.int .i64 0) (.slice none 0 0) rfl rfl K.out (by kernel_rfl) rfl ?_; rw [← HY.out]))
 refine bodyPost_ret (v := .agg #[.int .i64 0, .int .i64 0, .int .i64 0, .int .i64 0, .int .i64 0, .slice none 0 0]) (by simp [results, Try.results145, go_sem, z0, z1, z2, z3, z4, z5]) rfl ⟨_, by rw [HX.out]; rfl, by rw [HX.out]; exact OwnI.nil _ _, BF.out⟩
theorem rdP_Turns {L : List ByteArray}  (h : kw L = jz0) : rdP L = ⟨1, dd0, 0, nA L 1⟩ := by unfold rdP; rw [if_pos h]
theorem rdP_Swap {L : List ByteArray} (h0 : ¬ kw L = jz0) (h : kw L = jz4) : rdP L = ⟨2, dd0, nA L 1, nA L 2⟩ := by unfold rdP; rw [if_neg h0, if_pos h]
theorem rdP_Gate {L : List ByteArray} (h0 : ¬ kw L = jz0) (h1 : ¬ kw L = jz4) (h : kw L = jz5) : rdP L = ⟨3, dd0, nA L 1, nA L 2⟩ := by unfold rdP; rw [if_neg h0, if_neg h1, if_pos h]
theorem rdP_Dig {L : List ByteArray} (h0 : ¬ kw L = jz0) (h1 : ¬ kw L = jz4) (h2 : ¬ kw L = jz5) (h : kw L = kDig) : rdP L = ⟨4, dd0, nA L 1, nA L 2⟩ := by unfold rdP; rw [if_neg h0, if_neg h1, if_neg h2, if_pos h]
theorem rdP_Hour {L : List ByteArray} (h0 : ¬ kw L = jz0) (h1 : ¬ kw L = jz4) (h2 : ¬ kw L = jz5) (h3 : ¬ kw L = kDig) (h : kw L = jzg) : rdP L = ⟨5, dd0, 0, nA L 1⟩ := by unfold rdP; rw [if_neg h0, if_neg h1, if_neg h2, if_neg h3, if_pos h]
theorem rdP_no {L : List ByteArray} (h0 : ¬ kw L = jz0) (h1 : ¬ kw L = jz4) (h2 : ¬ kw L = jz5) (h3 : ¬ kw L = kDig) (h4 : ¬ kw L = jzg) : rdP L = ⟨0, rdD L, 0, 0⟩ := by unfold rdP; rw [if_neg h0, if_neg h1, if_neg h2, if_neg h3, if_neg h4]
theorem ireadE (a : Option Addr) (cap : Nat) (L : List ByteArray) (w : World) (h : IsStr w a L) (hL : L ≠ []) (hz : ∀ l ∈ L, l.size ≤ 4294967296) (hl : L.length ≤ 1048576) :
  Calls Try.prog 91 #[.slice a L.length cap] w (OutRE w (rdP L)) := by
 have CN := Lib.hid (fun (k : Int) (n : Nat) W (hW : Below w.heap.size w W) (hk : k = n) => inumAt a cap L k n W (str_below h hW) hz hl hk); have CD := Lib.hid (fun W (hW : Below w.heap.size w W) => ireadD a cap L W (str_below h hW) hL hz hl); have hkw : kw L = (L.getD 0 tE).data.toList := rfl
 rcases h with e | ⟨g, o_, rfl, hc⟩
 ·exact absurd e hL
 have c0 := hc 0 (List.length_pos_iff.2 hL)
 have hp : (0 : Int) < (L.length : Int) := by have := List.length_pos_iff.2 hL; omega
 have c0b := World.block_lt_of_cell? w _ c0; clear hc hL hz; rw [Nat.add_zero] at c0; have B := (Below.refl w.heap.size w).alloc (Nat.le_refl _) (.cells #[.int .i64 0, .int .i64 0, .int .i64 0, .int .i64 0, .int .i64 0, .int .i64 0, .slice none 0 0, .int .i64 0, .int .i64 0] 63); have K := Lib.hid (Blk.new w 63 #[.int .i64 0, .int .i64 0, .int .i64 0, .int .i64 0, .int .i64 0, .int .i64 0, .slice none 0 0, .int .i64 0, .int .i64 0]); have c1 := (B.cell (p := ⟨g, o_, none⟩) c0b).trans c0
 obtain ⟨U, hU⟩ : ∃ U, U = w.alloc (.cells #[.int .i64 0, .int .i64 0, .int .i64 0, .int .i64 0, .int .i64 0, .int .i64 0, .slice none 0 0, .int .i64 0, .int .i64 0] 63) := ⟨_, rfl⟩
 rw [← hU] at B K c1; have HU := Lib.hid hU; have HB := Lib.hid B; have hs0 := B.size; have ltU := K.out.lt; clear hU c0 c0b; have C1 := CN.out 1 1 U B rfl; have C2 := CN.out 2 2 U B rfl; clear CN
 by_cases k0 : kw L = jz0
 ·have HX := Lib.hid (rdP_Turns k0)
  rw [hkw] at k0; clear hkw; generalize L.getD 0 tE = A at *; have t0 : (A.toList == [116, 117, 114, 110, 115]) = true := jja A jz0 k0; generalize nA L 1 = n1 at *; generalize nA L 2 = n2 at *; clear CD B k0; go_enter Try.func91, Try.ntmps91; go_wp2_with fail; rw [← HU.out]; refine C1.mono ?_; rintro e w' ⟨rfl, rfl⟩; go_wp2_with fail; refine C2.mono ?_; rintro e w' ⟨rfl, rfl⟩
  obtain ⟨y1, hy⟩ : ∃ Y_, Y_ = jzd U w.heap.size (.int .i64 1) (.int .i64 0) (.int .i64 0) (.int .i64 0) (.int .i64 0) (.int .i64 0) (.slice none 0 0) (.int .i64 0) (.int .i64 n1) := ⟨_, rfl⟩
  have KF := jq7 (v0 := .int .i64 1) (v1 := .int .i64 0) (v2 := .int .i64 0) (v3 := .int .i64 0) (v4 := .int .i64 0) (v5 := .int .i64 0) (v6 := .slice none 0 0) (v7 := .int .i64 0) (v8 := .int .i64 n1) K.out; rw [← hy] at KF; obtain ⟨z0, z1, z2, z3, z4, z5, z6, z7, z8⟩ := jq4 KF; have BF := Lib.hid (show Below w.heap.size w y1 by subst hy; exact jqb HB.out (Nat.le_refl _)); have HY := Lib.hid hy; clear KF hy
  go_wp2_with (first | (show wpList _ _ _ ({ dst := _, op := Op.store _ _ _, type := _, pos := _, after := _, guard := _ } :: _) _ _; refine jq5 rfl _ _ _ rfl w.heap.size (.int .i64 1) (.int .i64 0) (.int .i64 0) (.int .i64 0) (.int .i64 0) (.int .i64 0) (.slice none 0 0) (.int .i64 0) (.int .i64 n1) rfl rfl K.out (by kernel_rfl) rfl ?_; rw [← HY.out]))
  refine bodyPost_ret (v := .agg #[.int .i64 1, .int .i64 0, .int .i64 0, .int .i64 0, .int .i64 0, .int .i64 0, .slice none 0 0, .int .i64 0, .int .i64 n1]) (by simp [results, Try.results91, go_sem, z0, z1, z2, z3, z4, z5, z6, z7, z8]) rfl ⟨_, by rw [HX.out] <;> rfl, by rw [HX.out]; exact OwnI.nil _ _, BF.out⟩
 have t0 : ((L.getD 0 tE).toList == [116, 117, 114, 110, 115]) = false := jqd _ jz0 (by rw [← hkw]; exact k0)
 by_cases k1 : kw L = jz4
 ·have HX := Lib.hid (rdP_Swap k0 k1)
  rw [hkw] at k0 k1; clear hkw; generalize L.getD 0 tE = A at *; have t1 : (A.toList == [115, 119, 97, 112]) = true := jja A jz4 k1; generalize nA L 1 = n1 at *; generalize nA L 2 = n2 at *; clear CD B k0 k1; go_enter Try.func91, Try.ntmps91; go_wp2_with fail; rw [← HU.out]; refine C1.mono ?_; rintro e w' ⟨rfl, rfl⟩; go_wp2_with fail; refine C2.mono ?_; rintro e w' ⟨rfl, rfl⟩
  obtain ⟨y1, hy⟩ : ∃ Y_, Y_ = jzd U w.heap.size (.int .i64 2) (.int .i64 0) (.int .i64 0) (.int .i64 0) (.int .i64 0) (.int .i64 0) (.slice none 0 0) (.int .i64 n1) (.int .i64 n2) := ⟨_, rfl⟩
  have KF := jq7 (v0 := .int .i64 2) (v1 := .int .i64 0) (v2 := .int .i64 0) (v3 := .int .i64 0) (v4 := .int .i64 0) (v5 := .int .i64 0) (v6 := .slice none 0 0) (v7 := .int .i64 n1) (v8 := .int .i64 n2) K.out; rw [← hy] at KF; obtain ⟨z0, z1, z2, z3, z4, z5, z6, z7, z8⟩ := jq4 KF; have BF := Lib.hid (show Below w.heap.size w y1 by subst hy; exact jqb HB.out (Nat.le_refl _)); have HY := Lib.hid hy; clear KF hy
  go_wp2_with (first | (show wpList _ _ _ ({ dst := _, op := Op.store _ _ _, type := _, pos := _, after := _, guard := _ } :: _) _ _; refine jq5 rfl _ _ _ rfl w.heap.size (.int .i64 2) (.int .i64 0) (.int .i64 0) (.int .i64 0) (.int .i64 0) (.int .i64 0) (.slice none 0 0) (.int .i64 n1) (.int .i64 n2) rfl rfl K.out (by kernel_rfl) rfl ?_; rw [← HY.out]))
  refine bodyPost_ret (v := .agg #[.int .i64 2, .int .i64 0, .int .i64 0, .int .i64 0, .int .i64 0, .int .i64 0, .slice none 0 0, .int .i64 n1, .int .i64 n2]) (by simp [results, Try.results91, go_sem, z0, z1, z2, z3, z4, z5, z6, z7, z8]) rfl ⟨_, by rw [HX.out] <;> rfl, by rw [HX.out]; exact OwnI.nil _ _, BF.out⟩
 have t1 : ((L.getD 0 tE).toList == [115, 119, 97, 112]) = false := jqd _ jz4 (by rw [← hkw]; exact k1)
 by_cases k2 : kw L = jz5
 ·have HX := Lib.hid (rdP_Gate k0 k1 k2)
  rw [hkw] at k0 k1 k2; clear hkw; generalize L.getD 0 tE = A at *; have t2 : (A.toList == [103, 97, 116, 101]) = true := jja A jz5 k2; generalize nA L 1 = n1 at *; generalize nA L 2 = n2 at *; clear CD B k0 k1 k2; go_enter Try.func91, Try.ntmps91; go_wp2_with fail; rw [← HU.out]; refine C1.mono ?_; rintro e w' ⟨rfl, rfl⟩; go_wp2_with fail; refine C2.mono ?_; rintro e w' ⟨rfl, rfl⟩
  obtain ⟨y1, hy⟩ : ∃ Y_, Y_ = jzd U w.heap.size (.int .i64 3) (.int .i64 0) (.int .i64 0) (.int .i64 0) (.int .i64 0) (.int .i64 0) (.slice none 0 0) (.int .i64 n1) (.int .i64 n2) := ⟨_, rfl⟩
  have KF := jq7 (v0 := .int .i64 3) (v1 := .int .i64 0) (v2 := .int .i64 0) (v3 := .int .i64 0) (v4 := .int .i64 0) (v5 := .int .i64 0) (v6 := .slice none 0 0) (v7 := .int .i64 n1) (v8 := .int .i64 n2) K.out; rw [← hy] at KF; obtain ⟨z0, z1, z2, z3, z4, z5, z6, z7, z8⟩ := jq4 KF; have BF := Lib.hid (show Below w.heap.size w y1 by subst hy; exact jqb HB.out (Nat.le_refl _)); have HY := Lib.hid hy; clear KF hy
  go_wp2_with (first | (show wpList _ _ _ ({ dst := _, op := Op.store _ _ _, type := _, pos := _, after := _, guard := _ } :: _) _ _; refine jq5 rfl _ _ _ rfl w.heap.size (.int .i64 3) (.int .i64 0) (.int .i64 0) (.int .i64 0) (.int .i64 0) (.int .i64 0) (.slice none 0 0) (.int .i64 n1) (.int .i64 n2) rfl rfl K.out (by kernel_rfl) rfl ?_; rw [← HY.out]))
  refine bodyPost_ret (v := .agg #[.int .i64 3, .int .i64 0, .int .i64 0, .int .i64 0, .int .i64 0, .int .i64 0, .slice none 0 0, .int .i64 n1, .int .i64 n2]) (by simp [results, Try.results91, go_sem, z0, z1, z2, z3, z4, z5, z6, z7, z8]) rfl ⟨_, by rw [HX.out] <;> rfl, by rw [HX.out]; exact OwnI.nil _ _, BF.out⟩
 have t2 : ((L.getD 0 tE).toList == [103, 97, 116, 101]) = false := jqd _ jz5 (by rw [← hkw]; exact k2)
 by_cases k3 : kw L = kDig
 ·have HX := Lib.hid (rdP_Dig k0 k1 k2 k3)
  rw [hkw] at k0 k1 k2 k3; clear hkw; generalize L.getD 0 tE = A at *; have t3 : (A.toList == [100, 105, 103]) = true := jja A kDig k3; generalize nA L 1 = n1 at *; generalize nA L 2 = n2 at *; clear CD B k0 k1 k2 k3; go_enter Try.func91, Try.ntmps91; go_wp2_with fail; rw [← HU.out]; refine C1.mono ?_; rintro e w' ⟨rfl, rfl⟩; go_wp2_with fail; refine C2.mono ?_; rintro e w' ⟨rfl, rfl⟩
  obtain ⟨y1, hy⟩ : ∃ Y_, Y_ = jzd U w.heap.size (.int .i64 4) (.int .i64 0) (.int .i64 0) (.int .i64 0) (.int .i64 0) (.int .i64 0) (.slice none 0 0) (.int .i64 n1) (.int .i64 n2) := ⟨_, rfl⟩
  have KF := jq7 (v0 := .int .i64 4) (v1 := .int .i64 0) (v2 := .int .i64 0) (v3 := .int .i64 0) (v4 := .int .i64 0) (v5 := .int .i64 0) (v6 := .slice none 0 0) (v7 := .int .i64 n1) (v8 := .int .i64 n2) K.out; rw [← hy] at KF; obtain ⟨z0, z1, z2, z3, z4, z5, z6, z7, z8⟩ := jq4 KF; have BF := Lib.hid (show Below w.heap.size w y1 by subst hy; exact jqb HB.out (Nat.le_refl _)); have HY := Lib.hid hy; clear KF hy
  go_wp2_with (first | (show wpList _ _ _ ({ dst := _, op := Op.store _ _ _, type := _, pos := _, after := _, guard := _ } :: _) _ _; refine jq5 rfl _ _ _ rfl w.heap.size (.int .i64 4) (.int .i64 0) (.int .i64 0) (.int .i64 0) (.int .i64 0) (.int .i64 0) (.slice none 0 0) (.int .i64 n1) (.int .i64 n2) rfl rfl K.out (by kernel_rfl) rfl ?_; rw [← HY.out]))
  refine bodyPost_ret (v := .agg #[.int .i64 4, .int .i64 0, .int .i64 0, .int .i64 0, .int .i64 0, .int .i64 0, .slice none 0 0, .int .i64 n1, .int .i64 n2]) (by simp [results, Try.results91, go_sem, z0, z1, z2, z3, z4, z5, z6, z7, z8]) rfl ⟨_, by rw [HX.out] <;> rfl, by rw [HX.out]; exact OwnI.nil _ _, BF.out⟩
 have t3 : ((L.getD 0 tE).toList == [100, 105, 103]) = false := jqd _ kDig (by rw [← hkw]; exact k3)
 by_cases k4 : kw L = jzg
 ·have HX := Lib.hid (rdP_Hour k0 k1 k2 k3 k4)
  rw [hkw] at k0 k1 k2 k3 k4; clear hkw; generalize L.getD 0 tE = A at *; have t4 : (A.toList == [104, 111, 117, 114]) = true := jja A jzg k4; generalize nA L 1 = n1 at *; generalize nA L 2 = n2 at *; clear CD B k0 k1 k2 k3 k4; go_enter Try.func91, Try.ntmps91; go_wp2_with fail; rw [← HU.out]; refine C1.mono ?_; rintro e w' ⟨rfl, rfl⟩; go_wp2_with fail; refine C2.mono ?_; rintro e w' ⟨rfl, rfl⟩
  obtain ⟨y1, hy⟩ : ∃ Y_, Y_ = jzd U w.heap.size (.int .i64 5) (.int .i64 0) (.int .i64 0) (.int .i64 0) (.int .i64 0) (.int .i64 0) (.slice none 0 0) (.int .i64 0) (.int .i64 n1) := ⟨_, rfl⟩
  have KF := jq7 (v0 := .int .i64 5) (v1 := .int .i64 0) (v2 := .int .i64 0) (v3 := .int .i64 0) (v4 := .int .i64 0) (v5 := .int .i64 0) (v6 := .slice none 0 0) (v7 := .int .i64 0) (v8 := .int .i64 n1) K.out; rw [← hy] at KF; obtain ⟨z0, z1, z2, z3, z4, z5, z6, z7, z8⟩ := jq4 KF; have BF := Lib.hid (show Below w.heap.size w y1 by subst hy; exact jqb HB.out (Nat.le_refl _)); have HY := Lib.hid hy; clear KF hy
  go_wp2_with (first | (show wpList _ _ _ ({ dst := _, op := Op.store _ _ _, type := _, pos := _, after := _, guard := _ } :: _) _ _; refine jq5 rfl _ _ _ rfl w.heap.size (.int .i64 5) (.int .i64 0) (.int .i64 0) (.int .i64 0) (.int .i64 0) (.int .i64 0) (.slice none 0 0) (.int .i64 0) (.int .i64 n1) rfl rfl K.out (by kernel_rfl) rfl ?_; rw [← HY.out]))
  refine bodyPost_ret (v := .agg #[.int .i64 5, .int .i64 0, .int .i64 0, .int .i64 0, .int .i64 0, .int .i64 0, .slice none 0 0, .int .i64 0, .int .i64 n1]) (by simp [results, Try.results91, go_sem, z0, z1, z2, z3, z4, z5, z6, z7, z8]) rfl ⟨_, by rw [HX.out] <;> rfl, by rw [HX.out]; exact OwnI.nil _ _, BF.out⟩
 have t4 : ((L.getD 0 tE).toList == [104, 111, 117, 114]) = false := jqd _ jzg (by rw [← hkw]; exact k4); have HX := Lib.hid (rdP_no k0 k1 k2 k3 k4); have C3 := CD.out U B; clear k0 k1 k2 k3 k4 hkw CD; generalize L.getD 0 tE = A at *; generalize nA L 1 = n1 at *; generalize nA L 2 = n2 at *; generalize rdD L = X at *; obtain ⟨x1, x2, x3, x4, x5, zs⟩ := X; clear B; go_enter Try.func91, Try.ntmps91; go_wp2_with fail; rw [← HU.out]; refine C1.mono ?_; rintro e w' ⟨rfl, rfl⟩; go_wp2_with fail; refine C2.mono ?_; rintro e w' ⟨rfl, rfl⟩; go_wp2_with fail; refine C3.mono ?_; rintro e U2 ⟨v, rfl, O, C⟩; dsimp only at O; have K2 := Lib.hid (K.out.next C); have B2 := Lib.hid (jq2 HB.out C); obtain ⟨b, cz, rfl, _⟩ := O.ints
 have hne : (Value.slice b zs.length cz).ownBlock ≠ some w.heap.size := fun c => by have := O.grow _ c; omega
 have HO := Lib.hid (own_lower O hs0); have HNE := Lib.hid hne; clear C c1 O hne
 obtain ⟨y1, hy⟩ : ∃ Y_, Y_ = jzd U2 w.heap.size (.int .i64 0) (.int .i64 x1) (.int .i64 x2) (.int .i64 x3) (.int .i64 x4) (.int .i64 x5) (.slice b zs.length cz) (.int .i64 0) (.int .i64 0) := ⟨_, rfl⟩
 have KF := jq7 (v0 := .int .i64 0) (v1 := .int .i64 x1) (v2 := .int .i64 x2) (v3 := .int .i64 x3) (v4 := .int .i64 x4) (v5 := .int .i64 x5) (v6 := .slice b zs.length cz) (v7 := .int .i64 0) (v8 := .int .i64 0) K2.out; rw [← hy] at KF; obtain ⟨z0, z1, z2, z3, z4, z5, z6, z7, z8⟩ := jq4 KF; have BF := Lib.hid (show Below w.heap.size w y1 by subst hy; exact jqb B2.out (Nat.le_refl _)); have HOF := Lib.hid (show OwnI y1 w.heap.size (.slice b zs.length cz) zs by subst hy; exact (((((((((HO.out.far HNE.out _).far HNE.out _).far HNE.out _).far HNE.out _).far HNE.out _).far HNE.out _).far HNE.out _).far HNE.out _).far HNE.out _)); have HY := Lib.hid hy; clear KF hy
 go_wp2_with (first | (show wpList _ _ _ ({ dst := _, op := Op.store _ _ _, type := _, pos := _, after := _, guard := _ } :: _) _ _; refine jq5 rfl _ _ _ rfl w.heap.size (.int .i64 0) (.int .i64 x1) (.int .i64 x2) (.int .i64 x3) (.int .i64 x4) (.int .i64 x5) (.slice b zs.length cz) (.int .i64 0) (.int .i64 0) rfl rfl K2.out (by kernel_rfl) rfl ?_; rw [← HY.out]))
 refine bodyPost_ret (v := .agg #[.int .i64 0, .int .i64 x1, .int .i64 x2, .int .i64 x3, .int .i64 x4, .int .i64 x5, .slice b zs.length cz, .int .i64 0, .int .i64 0]) (by simp [results, Try.results91, go_sem, z0, z1, z2, z3, z4, z5, z6, z7, z8]) rfl ⟨_, by rw [HX.out], by rw [HX.out]; exact HOF.out, BF.out⟩
def OutPE (w : World) (o : Option Ev) (e : Ending) (w' : World) : Prop := ∃ (v : Value) (x : Ev), x = o.getD ev0 ∧ e = .returned (.tuple #[.agg #[.int .i64 x.k, .int .i64 x.dd.k, .int .i64 x.dd.o, .int .i64 x.dd.t, .int .i64 x.dd.n, .int .i64 x.dd.d, v, .int .i64 x.at_, .int .i64 x.nu], .bool o.isSome]) ∧ OwnI w' w.heap.size v x.dd.zs ∧ Below w.heap.size w w'
theorem outPE_no {w w' : World} (h : Below w.heap.size w w') : OutPE w none (.returned (.tuple #[.agg #[.int .i64 0, .int .i64 0, .int .i64 0, .int .i64 0, .int .i64 0, .int .i64 0, .slice none 0 0, .int .i64 0, .int .i64 0], .bool false])) w' := ⟨.slice none 0 0, ev0, rfl, rfl, OwnI.nil _ _, h⟩
theorem outPE_yes {w w' : World} {v : Value} {x : Ev} (hO : OwnI w' w.heap.size v x.dd.zs) (h : Below w.heap.size w w') : OutPE w (some x) (.returned (.tuple #[.agg #[.int .i64 x.k, .int .i64 x.dd.k, .int .i64 x.dd.o, .int .i64 x.dd.t, .int .i64 x.dd.n, .int .i64 x.dd.d, v, .int .i64 x.at_, .int .i64 x.nu], .bool true])) w' := ⟨v, x, rfl, rfl, hO, h⟩
theorem iParE (s : ByteArray) (w : World) (h : s.size ≤ 1048576) :
  Calls Try.prog 35 #[.string s] w (OutPE w (parM s)) := by
 have B := (Below.refl w.heap.size w).alloc (Nat.le_refl _) (.cells #[.int .i64 0, .int .i64 0, .int .i64 0, .int .i64 0, .int .i64 0, .int .i64 0, .slice none 0 0, .int .i64 0, .int .i64 0] 63); have K := Blk.new w 63 #[.int .i64 0, .int .i64 0, .int .i64 0, .int .i64 0, .int .i64 0, .int .i64 0, .slice none 0 0, .int .i64 0, .int .i64 0]
 obtain ⟨U, hU⟩ : ∃ U, U = w.alloc (.cells #[.int .i64 0, .int .i64 0, .int .i64 0, .int .i64 0, .int .i64 0, .int .i64 0, .slice none 0 0, .int .i64 0, .int .i64 0] 63) := ⟨_, rfl⟩
 rw [← hU] at B K; have HU := Lib.hid hU; have hs0 := B.size; have ltU := K.lt; clear hU; have HW := Lib.hid (iwords s U (by omega)); go_enter Try.func35, Try.ntmps35; go_wp2_with fail; rw [← HU.out]; refine HW.out.mono ?_; rintro e u1 ⟨v, L, rfl, O, C, hL, h14, hsz, hcut⟩; obtain ⟨g, cp, rfl, lg, I⟩ := O.form hL; have CE := ireadE _ cp L u1 I hL (fun l hl => Nat.le_trans (hsz l hl) (by omega)) (by omega); have HP := Lib.hid (par_same (s := s) hcut); replace K := K.next C; replace B := jq2 B C; have hu1 : w.heap.size < u1.heap.size := K.lt; clear C O I hL h14 hsz hcut HW lg; go_wp2_with fail; refine CE.mono ?_; rintro e u2 ⟨v, rfl, O, C⟩; replace K := K.next C; replace B := jq2 B C; have hb1 := C.size; clear C CE; have hP2 : parP L s = if s.size ≠ 0 ∧ fmE (rdP L) = s then some (rdP L) else none := rfl; generalize rdP L = X at *; obtain ⟨b, cz, rfl, I⟩ := O.ints
 obtain ⟨T, hT⟩ : ∃ T, fmE X = T := ⟨_, rfl⟩
 have CF := Lib.hid (fun W (hW : Below u2.heap.size u2 W) => iFmtE b cz X W (jq9 I hW)); rw [hT] at CF hP2; obtain ⟨k, ⟨dk, o, t, n, d, zs⟩, at_, nu⟩ := X; dsimp only at O CF; clear hT I; have ltu : w.heap.size < u2.heap.size := K.lt; have hbs := B.size; have O2 : OwnI (u2.alloc (.cells #[.int .i64 k, .int .i64 dk, .int .i64 o, .int .i64 t, .int .i64 n, .int .i64 d, .slice b zs.length cz, .int .i64 at_, .int .i64 nu] 63)) u1.heap.size (.slice b zs.length cz) zs := O.of_block ((Below.refl _ _).alloc (Nat.le_refl _) _); have K2 := Blk.new u2 63 #[.int .i64 k, .int .i64 dk, .int .i64 o, .int .i64 t, .int .i64 n, .int .i64 d, .slice b zs.length cz, .int .i64 at_, .int .i64 nu]; have D2 : Below u2.heap.size u2 (u2.alloc (.cells #[.int .i64 k, .int .i64 dk, .int .i64 o, .int .i64 t, .int .i64 n, .int .i64 d, .slice b zs.length cz, .int .i64 at_, .int .i64 nu] 63)) := (Below.refl _ _).alloc (Nat.le_refl _) _; replace K := K.alloc (.cells #[.int .i64 k, .int .i64 dk, .int .i64 o, .int .i64 t, .int .i64 n, .int .i64 d, .slice b zs.length cz, .int .i64 at_, .int .i64 nu] 63); replace B := B.alloc B.size (.cells #[.int .i64 k, .int .i64 dk, .int .i64 o, .int .i64 t, .int .i64 n, .int .i64 d, .slice b zs.length cz, .int .i64 at_, .int .i64 nu] 63)
 obtain ⟨U3, hU3⟩ : ∃ U3, U3 = u2.alloc (.cells #[.int .i64 k, .int .i64 dk, .int .i64 o, .int .i64 t, .int .i64 n, .int .i64 d, .slice b zs.length cz, .int .i64 at_, .int .i64 nu] 63) := ⟨_, rfl⟩
 rw [← hU3] at O2 K2 K B D2; have HU3 := Lib.hid hU3
 have hne1 : (Value.slice b zs.length cz).ownBlock ≠ some w.heap.size := fun c => by have := O2.grow _ c; omega
 clear hU3 O; have HO := Lib.hid (own_lower O2 (Nat.le_of_lt hu1)); have HNE := Lib.hid hne1; clear O2 hne1; obtain ⟨q0, q1, q2, q3, q4, q5, q6, q7, q8⟩ := jq4 K2
 by_cases h0 : s.size = 0
 ·have he : s.toList.isEmpty = true := by rw [ByteArray.toList_eq, List.isEmpty_iff]; exact List.length_eq_zero_iff.1 (by rw [jx9]; exact h0)
  have HX : Hid (parM s = none) := Lib.hid (by rw [← HP.out, hP2, if_neg (fun c => c.1 h0)]); have KH := Lib.hid K; have HB := Lib.hid B; clear hP2 h0 K B CF
  obtain ⟨y1, hy⟩ : ∃ Y_, Y_ = jzd U3 w.heap.size (.int .i64 0) (.int .i64 0) (.int .i64 0) (.int .i64 0) (.int .i64 0) (.int .i64 0) (.slice none 0 0) (.int .i64 0) (.int .i64 0) := ⟨_, rfl⟩
  have KF := jq7 (v0 := .int .i64 0) (v1 := .int .i64 0) (v2 := .int .i64 0) (v3 := .int .i64 0) (v4 := .int .i64 0) (v5 := .int .i64 0) (v6 := .slice none 0 0) (v7 := .int .i64 0) (v8 := .int .i64 0) KH.out; rw [← hy] at KF; obtain ⟨z0, z1, z2, z3, z4, z5, z6, z7, z8⟩ := jq4 KF; have BF := Lib.hid (show Below w.heap.size w y1 by subst hy; exact jqb HB.out (Nat.le_refl _)); have HY := Lib.hid hy; clear KF hy
  go_wp2_with (first | (show wpList _ _ _ _ _ (World.alloc _ _); rw [← HU3.out]) | (show wpList _ _ _ ({ dst := _, op := Op.store _ _ _, type := _, pos := _, after := _, guard := _ } :: _) _ _; refine jq5 rfl _ _ _ rfl w.heap.size (.int .i64 0) (.int .i64 0) (.int .i64 0) (.int .i64 0) (.int .i64 0) (.int .i64 0) (.slice none 0 0) (.int .i64 0) (.int .i64 0) rfl rfl KH.out (by kernel_rfl) rfl ?_; rw [← HY.out]))
  refine bodyPost_ret (v := .tuple #[.agg #[.int .i64 0, .int .i64 0, .int .i64 0, .int .i64 0, .int .i64 0, .int .i64 0, .slice none 0 0, .int .i64 0, .int .i64 0], .bool false]) (by simp [results, Try.results35, go_sem, z0, z1, z2, z3, z4, z5, z6, z7, z8]) rfl (by rw [HX.out]; exact outPE_no BF.out)
 ·have he : s.toList.isEmpty = false := by rw [ByteArray.toList_eq, List.isEmpty_eq_false_iff]; exact ne_nil (by omega)
  have CT := CF.out U3 D2; clear CF
  by_cases e : T = s
  ·subst e
   have HX : Hid (parM T = some ⟨k, ⟨dk, o, t, n, d, zs⟩, at_, nu⟩) := Lib.hid (by rw [← HP.out, hP2, if_pos ⟨h0, rfl⟩]); clear hP2 h0
   go_wp2_with (first | (show wpList _ _ _ _ _ (World.alloc _ _); rw [← HU3.out]))
   refine CT.mono ?_; rintro e u4 ⟨rfl, C⟩; have KH := Lib.hid (K.next C); have HB := Lib.hid (jq2 B C); replace HO := Lib.hid (HO.out.of_block C); replace K2 := K2.next C; clear q0 q1 q2 q3 q4 q5 q6 q7 q8 K B C; obtain ⟨q0, q1, q2, q3, q4, q5, q6, q7, q8⟩ := jq4 K2
   obtain ⟨y1, hy⟩ : ∃ Y_, Y_ = jzd u4 w.heap.size (.int .i64 k) (.int .i64 dk) (.int .i64 o) (.int .i64 t) (.int .i64 n) (.int .i64 d) (.slice b zs.length cz) (.int .i64 at_) (.int .i64 nu) := ⟨_, rfl⟩
   have KF := jq7 (v0 := .int .i64 k) (v1 := .int .i64 dk) (v2 := .int .i64 o) (v3 := .int .i64 t) (v4 := .int .i64 n) (v5 := .int .i64 d) (v6 := .slice b zs.length cz) (v7 := .int .i64 at_) (v8 := .int .i64 nu) KH.out; rw [← hy] at KF; obtain ⟨z0, z1, z2, z3, z4, z5, z6, z7, z8⟩ := jq4 KF; have BF := Lib.hid (show Below w.heap.size w y1 by subst hy; exact jqb HB.out (Nat.le_refl _)); have HOF := Lib.hid (show OwnI y1 w.heap.size (.slice b zs.length cz) zs by subst hy; exact (((((((((HO.out.far HNE.out _).far HNE.out _).far HNE.out _).far HNE.out _).far HNE.out _).far HNE.out _).far HNE.out _).far HNE.out _).far HNE.out _)); have HY := Lib.hid hy; clear KF hy
   go_wp2_with (first | (show wpList _ _ _ ({ dst := _, op := Op.store _ _ _, type := _, pos := _, after := _, guard := _ } :: _) _ _; refine jq5 rfl _ _ _ rfl w.heap.size (.int .i64 k) (.int .i64 dk) (.int .i64 o) (.int .i64 t) (.int .i64 n) (.int .i64 d) (.slice b zs.length cz) (.int .i64 at_) (.int .i64 nu) rfl rfl KH.out (by kernel_rfl) rfl ?_; rw [← HY.out]))
   refine bodyPost_ret (v := .tuple #[.agg #[.int .i64 k, .int .i64 dk, .int .i64 o, .int .i64 t, .int .i64 n, .int .i64 d, .slice b zs.length cz, .int .i64 at_, .int .i64 nu], .bool true]) (by simp [results, Try.results35, go_sem, z0, z1, z2, z3, z4, z5, z6, z7, z8]) rfl (by rw [HX.out]; exact outPE_yes (x := ⟨k, ⟨dk, o, t, n, d, zs⟩, at_, nu⟩) HOF.out BF.out)
  ·have HX : Hid (parM s = none) := Lib.hid (by rw [← HP.out, hP2, if_neg (fun c => e c.2)])
   have tt : (T.toList == s.toList) = false := by rw [ByteArray.toList_eq, ByteArray.toList_eq, beq_eq_false_iff_ne]; intro c; exact e (by rw [← txt_of T, c, txt_of])
   have tt2 : (T.toList != s.toList) = true := by rw [bne, tt]; rfl
   clear hP2 h0 e
   go_wp2_with (first | (show wpList _ _ _ _ _ (World.alloc _ _); rw [← HU3.out]))
   refine CT.mono ?_; rintro e u4 ⟨rfl, C⟩; have KH := Lib.hid (K.next C); have HB := Lib.hid (jq2 B C); clear q0 q1 q2 q3 q4 q5 q6 q7 q8 K B C K2
   obtain ⟨y1, hy⟩ : ∃ Y_, Y_ = jzd u4 w.heap.size (.int .i64 0) (.int .i64 0) (.int .i64 0) (.int .i64 0) (.int .i64 0) (.int .i64 0) (.slice none 0 0) (.int .i64 0) (.int .i64 0) := ⟨_, rfl⟩
   have KF := jq7 (v0 := .int .i64 0) (v1 := .int .i64 0) (v2 := .int .i64 0) (v3 := .int .i64 0) (v4 := .int .i64 0) (v5 := .int .i64 0) (v6 := .slice none 0 0) (v7 := .int .i64 0) (v8 := .int .i64 0) KH.out; rw [← hy] at KF; obtain ⟨z0, z1, z2, z3, z4, z5, z6, z7, z8⟩ := jq4 KF; have BF := Lib.hid (show Below w.heap.size w y1 by subst hy; exact jqb HB.out (Nat.le_refl _)); have HY := Lib.hid hy; clear KF hy
   go_wp2_with (first | (show wpList _ _ _ ({ dst := _, op := Op.store _ _ _, type := _, pos := _, after := _, guard := _ } :: _) _ _; refine jq5 rfl _ _ _ rfl w.heap.size (.int .i64 0) (.int .i64 0) (.int .i64 0) (.int .i64 0) (.int .i64 0) (.int .i64 0) (.slice none 0 0) (.int .i64 0) (.int .i64 0) rfl rfl KH.out (by kernel_rfl) rfl ?_; rw [← HY.out]))
   refine bodyPost_ret (v := .tuple #[.agg #[.int .i64 0, .int .i64 0, .int .i64 0, .int .i64 0, .int .i64 0, .int .i64 0, .slice none 0 0, .int .i64 0, .int .i64 0], .bool false]) (by simp [results, Try.results35, go_sem, z0, z1, z2, z3, z4, z5, z6, z7, z8]) rfl (by rw [HX.out]; exact outPE_no BF.out)
end Go.Proofs.Ytaehemmjemhgpaa
