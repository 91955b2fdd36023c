/- Contracts and facts of functions of this program, in build order. Conditions: those stated in each. -/
import Derived.Test.YtaehemmjemhgpabGreatZAMove
import Derived.Test.YtaehemmjemhgpabGreatZAG0
import Derived.Test.YtaehemmjemhgpabGreatZAG1
set_option maxRecDepth 100000
set_option maxHeartbeats 16000000
namespace Go.Proofs.YtaehemmjemhgpabGreat
open Go.RowKit
set_option linter.unusedSimpArgs false
set_option linter.unusedVariables false
def okH (zs : List Int) (owner : Int) (k : Nat) : Bool := decide (1 ≤ zs.getD k 0) && decide (zs.getD k 0 ≤ 999) && decide (zs.getD k 0 ≠ owner) && decide (zs.getD k 0 ∉ zs.take k)
def heirsB (zs : List Int) (owner : Int) : Bool := decide (1 ≤ zs.length) && decide (zs.length ≤ 12) && (List.range zs.length).all (okH zs owner)
theorem okH_def (zs : List Int) (owner : Int) (k : Nat) : okH zs owner k = (decide (1 ≤ zs.getD k 0) && decide (zs.getD k 0 ≤ 999) && decide (zs.getD k 0 ≠ owner) && decide (zs.getD k 0 ∉ zs.take k)) := rfl
theorem heirs_no1 {zs : List Int} {owner : Int} (h : zs.length < 1 ∨ 12 < zs.length) : heirsB zs owner = false := by
 unfold heirsB
 rcases h with h | h
 ·rw [decide_eq_false (by omega : ¬ 1 ≤ zs.length)]; rfl
 ·rw [decide_eq_false (by omega : ¬ zs.length ≤ 12)]; simp
theorem heirs_no2 {zs : List Int} {owner : Int} {k : Nat} (hk : k < zs.length) (h : okH zs owner k = false) : heirsB zs owner = false := by
 unfold heirsB; rw [rng_no hk h]; simp
theorem heirs_yes {zs : List Int} {owner : Int} (h1 : 1 ≤ zs.length) (h2 : zs.length ≤ 12) (h : ∀ j, j < zs.length → okH zs owner j = true) : heirsB zs owner = true := by
 unfold heirsB; rw [decide_eq_true h1, decide_eq_true h2, jv5 h]; rfl
theorem ints_take {w : World} {a : Option Addr} {zs : List Int} (h : jqc w a zs) (k : Nat) : jqc w a (zs.take k) := by
 rcases h with rfl | ⟨g, o, ha, hc⟩
 ·exact .inl (by simp)
 ·refine .inr ⟨g, o, ha, fun i hi => ?_⟩
  rw [List.length_take] at hi
  have e : (zs.take k).getD i 0 = zs.getD i 0 := by rw [List.getD_eq_getElem?_getD, List.getD_eq_getElem?_getD, List.getElem?_take_of_lt (by omega)]
  rw [e]; exact hc i (by omega)
theorem mem_get {zs : List Int} {n : Int} : n ∈ zs ↔ ∃ j, j < zs.length ∧ zs.getD j 0 = n := by
 constructor
 ·intro h
  obtain ⟨i, hi, e⟩ := List.getElem_of_mem h; exact ⟨i, hi, by rw [List.getD_eq_getElem?_getD, List.getElem?_eq_getElem hi]; exact e⟩
 ·rintro ⟨j, hj, e⟩
  rw [← e]; exact jj7 hj
theorem ihas (a : Option Addr) (cap m : Nat) (zs : List Int) (n : Int) (w : World) (h : jqc w a zs) (hl : zs.length = m) (hn : m ≤ 1048576) :
  Calls Tryz.prog 195 #[.slice a m cap, .int .i64 n] w fun e w' => e = .returned (.bool (decide (n ∈ zs))) ∧ w = w' := by
 subst hl
 rcases h with rfl | ⟨g, o, rfl, hc⟩
 ·go_enter Tryz.func195, Tryz.ntmps195
  go_wp2
  go_rounds 1
  go_ret; exact ⟨rfl, rfl⟩
 ·have HC := Lib.hid hc
  clear hc; go_enter Tryz.func195, Tryz.ntmps195
  go_wp2
  go_loop [9] (fun i => ∃ k : Nat, k ≤ zs.length ∧ i = .int .i64 k ∧ Hid (∀ j, j < k → zs.getD j 0 ≠ n)) (fun i => zs.length - (intOf i).toNat)
  case atStart => exact ⟨0, Nat.zero_le _, rfl, fun j hj => by omega⟩
  case round =>
   obtain ⟨k, hk, rfl, HK⟩ := hrel
   by_cases hlt : k < zs.length
   ·have hc := HC.out k hlt
    have hy : zs.getD k 0 ≠ n → ∀ j, j < k + 1 → zs.getD j 0 ≠ n := fun e j hj => by
     by_cases ej : j = k
     ·subst ej; exact e
     ·exact HK.out j (by omega)
    have hm : zs.getD k 0 = n → decide (n ∈ zs) = true := fun e => decide_eq_true (mem_get.2 ⟨k, hlt, e⟩)
    generalize zs.getD k 0 = z at hc hy hm; have HY := Lib.hid hy; have HM := Lib.hid hm; clear hy hm
    by_cases e : z = n
    ·have eb : (z == n) = true := by simpa using e
     have HMM := Lib.hid (HM.out e); clear e; go_wp2_with fail; go_ret; exact ⟨jq4 HMM.out.symm, rfl⟩
    ·have eb : (z == n) = false := by simpa using e
     go_wp2_with fail
     go_round
     case rel => exact ⟨k + 1, by omega, by go_num, HY.out e⟩
     case measure => simp [intOf]; omega
   ·have HN : Hid (decide (n ∈ zs) = false) := by
     show _ = _
     rw [decide_eq_false_iff_not, mem_get]; rintro ⟨j, hj, e⟩; exact HK.out j (by omega) e
    go_wp2_with fail; go_ret; exact ⟨jq4 HN.out.symm, rfl⟩
def PlaceV (zs : List Int) (n : Int) (w : World) (e : Ending) (w' : World) : Prop := ∃ v : Int, e = .returned (.int .i64 v) ∧ (n ∈ zs → 0 ≤ v) ∧ (n ∉ zs → v = -1) ∧ w = w'
theorem splace (a : Option Addr) (cap m : Nat) (zs : List Int) (n : Int) (w : World) (h : jqc w a zs) (hl : zs.length = m) (hn : m ≤ 1048576) :
  Calls Tryz.prog 174 #[.slice a m cap, .int .i64 n] w (PlaceV zs n w) := by
 subst hl
 rcases h with rfl | ⟨g, o, rfl, hc⟩
 ·go_enter Tryz.func174, Tryz.ntmps174
  go_wp2
  go_rounds 1
  go_ret; exact ⟨-1, rfl, (fun c => by simp at c), (fun _ => rfl), rfl⟩
 ·have HC := Lib.hid hc
  clear hc; go_enter Tryz.func174, Tryz.ntmps174
  go_wp2
  go_loop [5] (fun i => ∃ k : Nat, k ≤ zs.length ∧ i = .int .i64 k ∧ Hid (∀ j, j < k → zs.getD j 0 ≠ n)) (fun i => zs.length - (intOf i).toNat)
  case atStart => exact ⟨0, Nat.zero_le _, rfl, fun j hj => by omega⟩
  case round =>
   obtain ⟨k, hk, rfl, HK⟩ := hrel
   by_cases hlt : k < zs.length
   ·have hc := HC.out k hlt
    have hy : zs.getD k 0 ≠ n → ∀ j, j < k + 1 → zs.getD j 0 ≠ n := fun e j hj => by
     by_cases ej : j = k
     ·subst ej; exact e
     ·exact HK.out j (by omega)
    have hm : zs.getD k 0 = n → n ∈ zs := fun e => mem_get.2 ⟨k, hlt, e⟩
    generalize zs.getD k 0 = z at hc hy hm; have HY := Lib.hid hy; have HM := Lib.hid hm; clear hy hm
    by_cases e : z = n
    ·have eb : (z == n) = true := by simpa using e
     have HMM := Lib.hid (HM.out e); clear e; go_wp2_with fail; go_ret; exact ⟨(k : Int), rfl, (fun _ => by omega), (fun c => absurd HMM.out c), rfl⟩
    ·have eb : (z == n) = false := by simpa using e
     go_wp2_with fail
     go_round
     case rel => exact ⟨k + 1, by omega, by go_num, HY.out e⟩
     case measure => simp [intOf]; omega
   ·have HN : Hid (n ∉ zs) := by
     show _ ∉ _
     rw [mem_get]; rintro ⟨j, hj, e⟩; exact HK.out j (by omega) e
    go_wp2_with fail; go_ret; exact ⟨-1, rfl, (fun c => absurd c HN.out), (fun _ => rfl), rfl⟩
theorem iheirs (a : Option Addr) (cap : Nat) (zs : List Int) (owner : Int) (w : World) (h : jqc w a zs) (hn : zs.length ≤ 1048576) (hc : zs.length ≤ cap) :
  Calls Tryz.prog 169 #[.slice a zs.length cap, .int .i64 owner] w fun e w' => e = .returned (.bool (heirsB zs owner)) ∧ w = w' := by
 by_cases hlen : zs.length < 1 ∨ 12 < zs.length
 ·have HN := Lib.hid (heirs_no1 (owner := owner) hlen)
  by_cases h1 : zs.length < 1
  ·clear hlen
   go_enter Tryz.func169, Tryz.ntmps169; go_wp2_with fail; go_ret; exact ⟨jq4 HN.out.symm, rfl⟩
  ·have h2 : 12 < zs.length := by omega
   clear hlen; go_enter Tryz.func169, Tryz.ntmps169; go_wp2_with fail; go_ret; exact ⟨jq4 HN.out.symm, rfl⟩
 ·have h1 : 1 ≤ zs.length := by omega
  have h2 : zs.length ≤ 12 := by omega
  have g1 : decide ((zs.length : Int) < 1) = false := by simp; omega
  have g2 : decide (12 < (zs.length : Int)) = false := by simp; omega
  have HI := Lib.hid h
  rcases h with rfl | ⟨g, o, rfl, hcc⟩
  ·simp at h1
  ·have HC := Lib.hid hcc
   clear hcc hlen; go_enter Tryz.func169, Tryz.ntmps169; go_wp2_with fail
   go_loop [17] (fun i => ∃ k : Nat, k ≤ zs.length ∧ i = .int .i64 k ∧ Hid (∀ j, j < k → okH zs owner j = true)) (fun i => zs.length - (intOf i).toNat)
   case atStart => exact ⟨0, Nat.zero_le _, rfl, fun j hj => by omega⟩
   case round =>
    obtain ⟨k, hk, rfl, HK⟩ := hrel
    by_cases hlt : k < zs.length
    ·have hcell := HC.out k hlt
     have hok := okH_def zs owner k
     have hha := fun n (W : World) (hW : jqc W (some ⟨g, o, none⟩) (zs.take k)) => ihas (some ⟨g, o, none⟩) cap k (zs.take k) n W hW (by rw [List.length_take]; omega) (by omega)
     have HT := Lib.hid (ints_take HI.out k); generalize zs.getD k 0 = z at hcell hok; have HO := Lib.hid hok; have HH := Lib.hid hha; clear hok hha
     have hno : okH zs owner k = false → heirsB zs owner = false := fun e => heirs_no2 hlt e
     have HNO := Lib.hid hno; clear hno
     by_cases hr : z < 1 ∨ 999 < z
     ·have HN : Hid (heirsB zs owner = false) := HNO.out (by rw [HO.out]; simp; omega)
      go_wp2_with fail; refine (iowner_no z _ hr).mono ?_; rintro e w' ⟨rfl, rfl⟩; go_wp2_with fail; go_ret; exact ⟨jq4 HN.out.symm, rfl⟩
     ·have r1 : 1 ≤ z := by omega
      have r2 : z ≤ 999 := by omega
      clear hr
      by_cases ho : z = owner
      ·have HN : Hid (heirsB zs owner = false) := HNO.out (by rw [HO.out]; simp [ho])
       have eb : (z == owner) = true := by simpa using ho
       clear ho; go_wp2_with fail; refine (jjd z _ r1 r2).mono ?_; rintro e w' ⟨rfl, rfl⟩; go_wp2_with fail; go_ret; exact ⟨jq4 HN.out.symm, rfl⟩
      ·have eb : (z == owner) = false := by simpa using ho
       have HOw := Lib.hid ho; clear ho; go_wp2_with fail; refine (jjd z _ r1 r2).mono ?_; rintro e w' ⟨rfl, rfl⟩; go_wp2_with fail; refine (HH.out z _ HT.out).mono ?_; rintro e w' ⟨rfl, rfl⟩
       by_cases hm : z ∈ zs.take k
       ·have HN : Hid (heirsB zs owner = false) := HNO.out (by rw [HO.out]; simp [hm])
        rw [decide_eq_true hm]; clear hm; go_wp2_with fail; go_ret; exact ⟨jq4 HN.out.symm, rfl⟩
       ·have HY : Hid (∀ j, j < k + 1 → okH zs owner j = true) := jj5 HK.out (by rw [HO.out, decide_eq_true r1, decide_eq_true r2, decide_eq_true HOw.out, decide_eq_true hm]; rfl)
        rw [decide_eq_false hm]; clear hm; go_wp2_with fail
        go_round
        case rel => exact ⟨k + 1, by omega, by go_num, HY.out⟩
        case measure => simp [intOf]; omega
    ·have HN : Hid (heirsB zs owner = true) := heirs_yes h1 h2 (fun j hj => HK.out j (by omega))
     go_wp2_with fail; go_ret; exact ⟨jq4 HN.out.symm, rfl⟩
theorem own_any {w : World} {base k : Nat} {v : Value} {zs : List Int} (h : w.ownsRow base 3 1 v k (zs.map (Value.int .i64))) (hl : zs.length = k) : ∃ a cap, v = .slice a k cap ∧ k ≤ cap ∧ jqc w a zs ∧ ∀ ad, a = some ad → base ≤ ad.block := by
 subst hl; obtain ⟨hlen, h | ⟨g, cap, cur, hv, hg, r⟩⟩ := h
 ·refine ⟨none, 0, ?_, ?_, .inl ?_, fun ad e => by cases e⟩
  ·rw [h.1]; rw [h.2]
  ·rw [h.2]; exact Nat.le_refl _
  ·exact List.eq_nil_of_length_eq_zero h.2
 ·subst hv
  exact ⟨_, cap, rfl, r.2.1, own_ints0 ⟨hlen, .inr ⟨g, cap, cur, rfl, hg, r⟩⟩, fun ad e => by injection e with e; subst e; exact hg⟩
theorem ints_grown {w w' : World} {a : Option Addr} {zs : List Int} {b base : Nat} (h : jqc w a zs) (hb : ∀ ad, a = some ad → base ≤ ad.block) (hlt : b < base) (hG : w.grownBy w' (some b)) : jqc w' a zs := by
 rcases h with h | ⟨g, o, ha, hc⟩
 ·exact .inl h
 ·refine .inr ⟨g, o, ha, fun i hi => ?_⟩
  have hg := hb _ ha
  have hne : g ≠ b := by
   have : base ≤ g := hg
   omega
  have c0 := hc i hi; exact (g_cell hG (World.block_lt_of_cell? w _ c0) hne).trans c0
def SomeZ (w : World) (b : Nat) (P : Int) (e : Ending) (w' : World) : Prop := ∃ (a : Option Addr) (cap : Nat) (zs : List Int), e = .returned (.slice a zs.length cap) ∧ zs.length ≤ 4 ∧ zs.length ≤ cap ∧ jqc w' a zs ∧ (∀ ad, a = some ad → w.heap.size ≤ ad.block) ∧ Rd w' b (P + 30) ∧ w.grownBy w' (some b)
theorem someZ (b : Nat) (P : Int) (a : Option Addr) (cap base : Nat) (hs : List Hd) (w : World) (h : Rd w b P) (hP : P ≤ 60000) (hb : b < w.heap.size) (hi : IsHs w a hs) (hl : hs.length ≤ 1048576) (ha : ∀ ad, a = some ad → base ≤ ad.block) (hbb : b < base) :
  Calls Tryz.prog 142 #[.pointer (some ⟨b, 0, none⟩), .slice a hs.length cap] w (SomeZ w b P) := by
 obtain ⟨i0, hii, hz0, hz1, hz2⟩ := info_parts jj4; go_enter Tryz.func142, Tryz.ntmps142; go_wp2_with fail
 have hO : (w.alloc (.cells #[] 3)).ownsRow w.heap.size 3 1 (.slice (some ⟨w.heap.size, 0, none⟩) 0 0) 0 [] := ⟨by simp, .inr ⟨w.heap.size, 0, #[], rfl, Nat.le_refl _, Go.Deep.blk_alloc_new _ _, Nat.le_refl _, by unfold maxLen; omega, rfl, rfl⟩⟩
 have HO := Lib.hid hO; have HR := Lib.hid (rd_alloc h hb (.cells #[] 3)); have HG := Lib.hid (World.grownBy_alloc w (.cells #[] 3) (some b)); have HI := Lib.hid hi; clear hO h hi
 have hs1 : w.heap.size < (w.alloc (.cells #[] 3)).heap.size := by simp
 have hse : w.heap.size + 1 = (w.alloc (.cells #[] 3)).heap.size := by simp
 rw [hse]; clear hse; generalize w.alloc (.cells #[] 3) = w1 at *
 have hb1 : b < w1.heap.size := by omega
 refine (jvc b 5 P 0 4 [2, 3, 1, 4, 0] _ w1 HR.out (by omega) hb1 rfl (by omega) (by omega) (by simp)).mono ?_; rintro e w2 ⟨m, rfl, m0, m1, hR2, hG2⟩; have HO2 := Lib.hid (HO.out.kept hG2 (.inr (by simp [Value.ownBlock]; omega))); have HR2 := Lib.hid hR2; have HG2 := Lib.hid (jqd HG.out hG2)
 have hs2 : w.heap.size < w2.heap.size := by have := hG2.size; omega
 clear hG2 hR2 HO HR HG; go_wp2_with fail
 go_loopw [5, 6] (fun v l wr => ∃ (n k : Nat) (xs : List Int), (n : Int) ≤ m ∧ k ≤ n ∧ l = .int .i64 (m - n) ∧ wr.ownsRow w.heap.size 3 1 v k (xs.map (Value.int .i64)) ∧ xs.length = k ∧ Rd wr b (P + 1 + 5 * (n : Int)) ∧ w.grownBy wr (some b) ∧ w.heap.size < wr.heap.size) (fun _ l _ => (intOf l).toNat)
 case atStart => exact ⟨0, 0, [], by omega, Nat.le_refl _, by go_num, HO2.out, rfl, by simpa using HR2.out, HG2.out, hs2⟩
 case round =>
  obtain ⟨n, k, xs, hn, hk, rfl, hown, hxl, hR, hG, hsz⟩ := hrel
  by_cases hlt : (n : Int) < m
  ·have HX := Lib.hid hxl
   have HO := Lib.hid hown; have HG := Lib.hid hG; have HR := Lib.hid hR; clear hown hxl hG hR; go_wp2_with fail
   have hbr : b < wr.heap.size := by omega
   refine (anOwner b _ a cap base hs _ HR.out (by omega) hbr (jjj HI.out ha hbb HG.out) hl ha hbb).mono ?_; rintro e w3 ⟨q, rfl, hR3, hG3⟩; have hb3 := Nat.lt_of_lt_of_le hbr hG3.size; have hO3 := HO.out.kept hG3 (.inr (by intro h; have := (HO.out.lt b h).1; omega)); have G3 := jqd HG.out hG3
   have hs3 : w.heap.size < w3.heap.size := by have := hG3.size; omega
   obtain ⟨av, cv, rfl, hkc, iv, _⟩ := own_any hO3 HX.out; have HO3 := Lib.hid hO3; have HG3 := Lib.hid G3; have HR3 := Lib.hid hR3; clear hG3 HO HR HG hO3 hR3 G3; have hP := splace av cv k xs q w3 iv HX.out (by omega); go_wp2_with fail; refine hP.mono ?_; rintro e w' ⟨pv, rfl, hin, hnot, rfl⟩; clear hP iv
   by_cases hq : q ∈ xs
   ·have p0 := hin hq
    have e1 : decide (pv < 0) = false := decide_eq_false (by omega); clear hin hnot hq; go_wp2_with fail; refine (jxb b _ 8 _ HR3.out (by omega)).mono ?_; rintro e w4 ⟨u, rfl, hu, hR4, hG4⟩; have HO4 := Lib.hid (HO3.out.kept hG4 (.inr (by intro h; have := (HO3.out.lt b h).1; omega))); have HG4 := Lib.hid (jqd HG3.out hG4); have HR4 := Lib.hid hR4
    have hs4 : w.heap.size < w4.heap.size := by have := hG4.size; omega
    clear hu hG4 hR4 HO3 HG3 HR3
    by_cases u0 : u = 0
    ·have e2 : ((u : Int) == 0) = true := by simp [u0]
     clear u0
     go_wp2_with (first | (at_builtin; refine wpList_append_own _ rfl (.tmp 28) (.tmp 30) 33 rfl w.heap.size 3 i0 (.int .i64 0) 1 8 Tryz.underlying33 hii hz0 hz1 hz2 rfl (by decide) _ _ _ rfl (HO4.out.alloc _) ⟨w4.heap.size, 0, none⟩ 1 1 [.int .i64 q] rfl rfl (cell_one_new _ _ _) (fun x hx => by simp at hx; subst hx; rfl) (by unfold maxLen; omega) (by omega) (by simp; omega) ?_; intro v' w5 hown' hgrow5 hnil5))
     have hB5 : Below w.heap.size w4 w5 := ((Below.refl _ w4).alloc (Nat.le_of_lt hs4) _).grown hgrow5 (by simp; omega) (fun z hz => (HO4.out.lt z hz).1); clear hgrow5 hnil5; obtain ⟨R5, G5⟩ := rd_end (P := P + 1 + 5 * ((n + 1 : Nat) : Int)) hb (jjb (P' := P + 1 + 5 * ((n + 1 : Nat) : Int)) HR4.out (by omega)) rfl HG4.out hB5; refine ⟨⟨n + 1, k + 1, xs ++ [q], by omega, by omega, by go_num, ?_, by simp [HX.out], R5, G5, by have := hB5.size; omega⟩, by simp [intOf]; omega⟩; rw [List.map_append]; exact hown'
    ·have e2 : ((u : Int) == 0) = false := by simp; omega
     clear u0; go_wp2_with fail; exact ⟨⟨n + 1, k, xs, by omega, by omega, by go_num, HO4.out, HX.out, jjb HR4.out (by omega), HG4.out, hs4⟩, by simp [intOf]; omega⟩
   ·obtain rfl := hnot hq
    clear hin hnot hq
    go_wp2_with (first | (at_builtin; refine wpList_append_own _ rfl (.tmp 28) (.tmp 30) 33 rfl w.heap.size 3 i0 (.int .i64 0) 1 8 Tryz.underlying33 hii hz0 hz1 hz2 rfl (by decide) _ _ _ rfl (HO3.out.alloc _) ⟨w3.heap.size, 0, none⟩ 1 1 [.int .i64 q] rfl rfl (cell_one_new _ _ _) (fun x hx => by simp at hx; subst hx; rfl) (by unfold maxLen; omega) (by omega) (by simp; omega) ?_; intro v' w5 hown' hgrow5 hnil5))
    have hB5 : Below w.heap.size w3 w5 := ((Below.refl _ w3).alloc (Nat.le_of_lt hs3) _).grown hgrow5 (by simp; omega) (fun z hz => (HO3.out.lt z hz).1); clear hgrow5 hnil5; obtain ⟨R5, G5⟩ := rd_end (P := P + 1 + 5 * ((n + 1 : Nat) : Int)) hb (jjb (P' := P + 1 + 5 * ((n + 1 : Nat) : Int)) HR3.out (by omega)) rfl HG3.out hB5; refine ⟨⟨n + 1, k + 1, xs ++ [q], by omega, by omega, by go_num, ?_, by simp [HX.out], R5, G5, by have := hB5.size; omega⟩, by simp [intOf]; omega⟩; rw [List.map_append]; exact hown'
  ·have e : (n : Int) = m := by omega
   obtain ⟨av, cv, rfl, hkc, iv, hbl⟩ := own_any hown hxl; have HF := Lib.hid (And.intro (jjb (P' := P + 30) hR (by omega)) hG); have HIV := Lib.hid iv; clear hR hG iv hown; subst hxl; go_wp2_with fail; go_ret; exact ⟨av, cv, xs, rfl, by omega, hkc, HIV.out, hbl, HF.out.1, HF.out.2⟩
theorem jz1 {w w' : World} {g b : Nat} {T : TypeId} {cs : Array Value} (h : Blk w g T cs) (hG : w.grownBy w' (some b)) (ne : g ≠ b) : Blk w' g T cs := (hG.block g h.lt (fun e => ne (Option.some.inj e))).trans h
theorem sets6_at {W : World} {B b : Nat} (hb : B ≤ b) (v0 v1 v2 v3 v4 v5 : Value) : Below B W (sets6 W b v0 v1 v2 v3 v4 v5) := ((((((Below.refl B W).setCell (p := ⟨b, 0, none⟩) hb v0).setCell (p := ⟨b, 1, none⟩) hb v1).setCell (p := ⟨b, 2, none⟩) hb v2).setCell (p := ⟨b, 3, none⟩) hb v3).setCell (p := ⟨b, 4, none⟩) hb v4).setCell (p := ⟨b, 5, none⟩) hb v5
theorem jj0 {W : World} {B b : Nat} (hb : B ≤ b) (v0 v1 v2 v3 v4 v5 v6 v7 v8 : Value) : Below B W (sets9 W b v0 v1 v2 v3 v4 v5 v6 v7 v8) := (((((((((Below.refl B W).setCell (p := ⟨b, 0, none⟩) hb v0).setCell (p := ⟨b, 1, none⟩) hb v1).setCell (p := ⟨b, 2, none⟩) hb v2).setCell (p := ⟨b, 3, none⟩) hb v3).setCell (p := ⟨b, 4, none⟩) hb v4).setCell (p := ⟨b, 5, none⟩) hb v5).setCell (p := ⟨b, 6, none⟩) hb v6).setCell (p := ⟨b, 7, none⟩) hb v7).setCell (p := ⟨b, 8, none⟩) hb v8
theorem sets6_other {W : World} {b g : Nat} (hn : g ≠ b) (v0 v1 v2 v3 v4 v5 : Value) : (sets6 W b v0 v1 v2 v3 v4 v5).heap[g]? = W.heap[g]? := by
 unfold sets6; rw [Below.heap_setCell _ _ _ g hn, Below.heap_setCell _ _ _ g hn, Below.heap_setCell _ _ _ g hn, Below.heap_setCell _ _ _ g hn, Below.heap_setCell _ _ _ g hn, Below.heap_setCell _ _ _ g hn]
theorem jq6 {W : World} {b g : Nat} (hn : g ≠ b) (v0 v1 v2 v3 v4 v5 v6 v7 v8 : Value) : (sets9 W b v0 v1 v2 v3 v4 v5 v6 v7 v8).heap[g]? = W.heap[g]? := by
 unfold sets9; rw [Below.heap_setCell _ _ _ g hn, Below.heap_setCell _ _ _ g hn, Below.heap_setCell _ _ _ g hn, Below.heap_setCell _ _ _ g hn, Below.heap_setCell _ _ _ g hn, Below.heap_setCell _ _ _ g hn, Below.heap_setCell _ _ _ g hn, Below.heap_setCell _ _ _ g hn, Below.heap_setCell _ _ _ g hn]
theorem jje {W y : World} {A : Option Addr} {zs : List Int} {B b : Nat} (h : jqc W A zs) (ha : ∀ ad, A = some ad → B ≤ ad.block) (hb : b < B) (hy : ∀ g, g ≠ b → y.heap[g]? = W.heap[g]?) : jqc y A zs := by
 rcases h with h | ⟨g, o, rfl, hc⟩
 ·exact .inl h
 ·have hg := ha _ rfl
  dsimp only at hg; refine .inr ⟨g, o, rfl, fun i hi => ?_⟩; exact (World.cell?_of_block (hy g (by omega))).trans (hc i hi)
theorem jjc {w V y : World} {b g : Nat} {P : Int} (hR : Rd V b P) (hb : b < w.heap.size) (hG : w.grownBy V (some b)) (hB : Below w.heap.size V y) : Rd y b P ∧ w.grownBy y (some b) := rd_end hb hR rfl hG hB
end Go.Proofs.YtaehemmjemhgpabGreat
