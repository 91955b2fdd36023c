/- Helpers of the laws: less, highest, countOf. Condition: at most 1048576 numbers. -/
import Derived.Test.YtlpmeljneogpiabLawsI
import Derived.Test.YtlpmeljneogpiabMathR
import Derived.Deep.RegionHeld3
import Derived.Deep.AppendLies
namespace Go.Proofs.Ytlpmeljneogpiab
open Go.RowKit

theorem ext_getD {l l' : List Int} (hl : l.length = l'.length) (h : ∀ i, i < l.length → l.getD i 0 = l'.getD i 0) : l = l' := by
  apply List.ext_getElem hl
  intro i h1 h2
  have := h i h1
  rwa [List.getD_eq_getElem?_getD, List.getD_eq_getElem?_getD, List.getElem?_eq_getElem h1, List.getElem?_eq_getElem h2] at this

/-- differences -/
def dif (m : Nat) (us vs : List Int) : List Int := (List.range m).map fun i => us.getD i 0 - vs.getD i 0
theorem dif_len (m : Nat) (us vs : List Int) : (dif m us vs).length = m := by unfold dif; simp
theorem dif_get {m : Nat} (us vs : List Int) {i : Nat} (h : i < m) : (dif m us vs).getD i 0 = us.getD i 0 - vs.getD i 0 := by
  unfold dif
  rw [List.getD_eq_getElem?_getD, List.getElem?_map, List.getElem?_range h]; rfl
theorem dif_more {m b : Nat} {gs hs : List Int} (hb : b < m) (hl : gs.length = m) (h : hs = gs.set b (gs.getD b 0 + 1)) : dif m hs gs = one1 m b := by
  refine ext_getD (by rw [dif_len, one1_len]) (fun i hi => ?_)
  rw [dif_len] at hi
  rw [dif_get _ _ hi, one1_get hb, h, getD_set _ _ _ (by omega)]
  split
  · next e => subst e; omega
  · omega

set_option maxHeartbeats 1000000 in
theorem lhigh (m : Nat) (a : Option Addr) (cap : Nat) (zs : List Int) (w : World) (hl : zs.length = m) (h : IsInts w a zs) (hn : m ≤ 1048576) (hz : ∀ i, i < m → -1000000 ≤ zs.getD i 0 ∧ zs.getD i 0 ≤ 1000000) :
    Calls Try.prog 40 #[.slice a m cap] w fun e w' => e = .returned (.int .i64 (hiTo zs m)) ∧ w = w' := by
  rcases h with rfl | ⟨g, o, rfl, hc⟩
  · have e : m = 0 := hl.symm
    subst e
    go_enter Try.func40, Try.ntmps40
    go_wp2_with fail
    refine wp_loop_rounds 1 ?_
    rw [rounds_succ]
    go_wp2_with fail
    go_ret
    exact ⟨rfl, rfl⟩
  · have HC := Lib.hid hc
    have HZ := Lib.hid hz
    clear hc hz
    go_enter Try.func40, Try.ntmps40
    go_wp2_with fail
    go_loop [3, 4] (fun n i => ∃ k : Nat, k ≤ m ∧ i = .int .i64 k ∧ n = .int .i64 (hiTo zs k)) (fun _ i => m - (intOf i).toNat)
    case atStart => exact ⟨0, Nat.zero_le _, rfl, rfl⟩
    case round =>
      obtain ⟨k, hk, rfl, rfl⟩ := hrel
      by_cases hlt : k < m
      · have c1 := HC.out k (by omega)
        have HS := Lib.hid (hiTo_succ zs k)
        generalize hiTo zs k = x at *
        generalize zs.getD k 0 = z at *
        go_wp2_with fail
        go_round
        case rel => exact ⟨k + 1, by omega, by go_num, by rw [HS.out, Int.max_def]; congr 1; split <;> split <;> omega⟩
        case measure => simp [intOf]; omega
      · have e : k = m := by omega
        subst e
        go_wp2_with fail
        go_ret
        exact ⟨rfl, rfl⟩
set_option maxHeartbeats 1000000 in
theorem lcount (m : Nat) (a : Option Addr) (cap : Nat) (zs : List Int) (n : Int) (w : World) (hl : zs.length = m) (h : IsInts w a zs) (hn : m ≤ 1048576) :
    Calls Try.prog 41 #[.slice a m cap, .int .i64 n] w fun e w' => e = .returned (.int .i64 (cntTo zs n m)) ∧ w = w' := by
  rcases h with rfl | ⟨g, o, rfl, hc⟩
  · have e : m = 0 := hl.symm
    subst e
    go_enter Try.func41, Try.ntmps41
    go_wp2_with fail
    refine wp_loop_rounds 1 ?_
    rw [rounds_succ]
    go_wp2_with fail
    go_ret
    exact ⟨rfl, rfl⟩
  · have HC := Lib.hid hc
    clear hc
    go_enter Try.func41, Try.ntmps41
    go_wp2_with fail
    go_loop [5, 6] (fun c i => ∃ k : Nat, k ≤ m ∧ i = .int .i64 k ∧ c = .int .i64 (cntTo zs n k)) (fun _ i => m - (intOf i).toNat)
    case atStart => exact ⟨0, Nat.zero_le _, rfl, rfl⟩
    case round =>
      obtain ⟨k, hk, rfl, rfl⟩ := hrel
      by_cases hlt : k < m
      · have c1 := HC.out k (by omega)
        have hs := cntTo_succ zs n k
        have hb := cntTo_bd zs n k
        generalize cntTo zs n k = x at *
        generalize zs.getD k 0 = z at *
        by_cases hzn : z = n
        · rw [if_pos hzn] at hs
          have HS := Lib.hid hs
          clear hs
          have e1 : (z == n) = true := by rw [beq_iff_eq]; exact hzn
          clear hzn
          go_wp2_with fail
          go_round
          case rel => exact ⟨k + 1, by omega, by go_num, by rw [HS.out]⟩
          case measure => simp [intOf]; omega
        · rw [if_neg hzn] at hs
          have HS := Lib.hid hs
          clear hs
          have e1 : (z == n) = false := by rw [beq_eq_false_iff_ne]; exact hzn
          clear hzn
          go_wp2_with fail
          go_round
          case rel => exact ⟨k + 1, by omega, by go_num, by rw [HS.out, Int.add_zero]⟩
          case measure => simp [intOf]; omega
      · have e : k = m := by omega
        subst e
        go_wp2_with fail
        go_ret
        exact ⟨rfl, rfl⟩

/-- what a region that reads two cells and appends keeps -/
def Two (w : World) (p q : Addr) (x y : Int) (w' : World) : Prop := w'.cell? p = some (.int .i64 x) ∧ w'.cell? q = some (.int .i64 y) ∧ p.block < w.heap.size ∧ q.block < w.heap.size ∧ Below w.heap.size w w'
theorem two_keep {w W W' : World} {p q : Addr} {x y : Int} (hb : Below w.heap.size W W') (h : Two w p q x y W) : Two w p q x y W' :=
  ⟨(hb.cell h.2.2.1).trans h.1, (hb.cell h.2.2.2.1).trans h.2.1, h.2.2.1, h.2.2.2.1, h.2.2.2.2.trans hb⟩
theorem two_alloc {w W : World} {p q : Addr} {x y : Int} (o : Obj) (h : Two w p q x y W) : Two w p q x y (W.alloc o) := two_keep ((Below.refl _ _).alloc h.2.2.2.2.size _) h
theorem two_drew {w W : World} {p q : Addr} {x y : Int} (h : Two w p q x y W) : Two w p q x y W.drew := two_keep ((Below.refl _ _).drew) h
theorem own_row {W : World} {B : Nat} {v : Value} {k : Nat} {XS : List Value} (h : W.ownsRow B 3 1 v k XS) : ∀ q, v.ownBlock = some q → B ≤ q := fun q hq => (h.lt q hq).1
theorem two_grown {w W W' : World} {p q : Addr} {x y : Int} {row : Option Nat} (hg : W.grownBy W' row) (hr : ∀ q, row = some q → w.heap.size ≤ q) (h : Two w p q x y W) : Two w p q x y W' :=
  two_keep ((Below.refl _ _).grown hg h.2.2.2.2.size hr) h

/-- what less leaves -/
def Lessd (m : Nat) (R : List Int) (w : World) (e : Ending) (w' : World) : Prop := ∃ (b : Option Addr) (cap : Nat), e = .returned (.slice b m cap) ∧ IsInts w' b R ∧ Below w.heap.size w w'
set_option maxHeartbeats 1000000 in
theorem lless (m : Nat) (a b : Option Addr) (ca cb : Nat) (us vs : List Int) (w : World) (ha : us.length = m) (hb : vs.length = m) (hia : IsInts w a us) (hib : IsInts w b vs) (hm : 0 < m) (hn : m ≤ 1048576)
    (h1 : ∀ i, i < m → -1000000 ≤ us.getD i 0 ∧ us.getD i 0 ≤ 1000000) (h2 : ∀ i, i < m → -1000000 ≤ vs.getD i 0 ∧ vs.getD i 0 ≤ 1000000) :
    Calls Try.prog 39 #[.slice a m ca, .slice b m cb] w (Lessd m (dif m us vs) w) := by
  rcases hia with rfl | ⟨g, o, rfl, hc⟩
  · exact absurd hm (by simp at ha; omega)
  rcases hib with rfl | ⟨g2, o2, rfl, hc2⟩
  · exact absurd hm (by simp at hb; omega)
  obtain ⟨ti, hi, hz0, hz1, hz2⟩ := info_parts infoInt
  have HC := Lib.hid hc
  have HD := Lib.hid hc2
  have H1 := Lib.hid h1
  have H2 := Lib.hid h2
  clear hc hc2 h1 h2
  go_enter Try.func39, Try.ntmps39
  go_wp2_with fail
  go_loopw [5, 6] (fun v i wr => ∃ k : Nat, k ≤ m ∧ i = .int .i64 k ∧ wr.ownsRow w.heap.size 3 1 v k (((dif m us vs).take k).map (Value.int .i64)) ∧ Below w.heap.size w wr) (fun _ i _ => m - (intOf i).toNat)
  case atStart => exact ⟨0, Nat.zero_le _, rfl, ⟨by simp, .inr ⟨w.heap.size, 0, #[], rfl, Nat.le_refl _, Go.Deep.blk_alloc_new _ _, Nat.le_refl _, by unfold maxLen; omega, rfl, rfl⟩⟩, by go_grown⟩
  case round =>
    obtain ⟨k, hk, rfl, hown, hB⟩ := hrel
    have hsz := hB.size
    by_cases hlt : k < m
    · have c1 := (hB.cell (p := ⟨g, o + k, none⟩) (World.block_lt_of_cell? w _ (HC.out k (by omega)))).trans (HC.out k (by omega))
      have c2 := (hB.cell (p := ⟨g2, o2 + k, none⟩) (World.block_lt_of_cell? w _ (HD.out k (by omega)))).trans (HD.out k (by omega))
      have ht := take_map (dif m us vs) k (by rw [dif_len]; exact hlt)
      rw [dif_get _ _ hlt] at ht
      have b1 := H1.out k hlt
      have b2 := H2.out k hlt
      generalize us.getD k 0 = x at *
      generalize vs.getD k 0 = y at *
      have HT := Lib.hid ht
      clear ht
      have t1 : IntKind.i64.wrap (x - y) = x - y := wrap_of (by omega)
      have i0 : (0 : Int) ≤ (k : Int) := by omega
      have i1 : (k : Int) < (m : Int) := by omega
      have hS0 : Two w ⟨g, o + k, none⟩ ⟨g2, o2 + k, none⟩ x y wr := ⟨c1, c2, World.block_lt_of_cell? w _ (HC.out k (by omega)), World.block_lt_of_cell? w _ (HD.out k (by omega)), hB⟩
      have hrow := own_row hown
      unfold Two at hS0
      go_wp2_with fail
      go_region_held3 (fun w' => w'.cell? ⟨g, o + k, none⟩ = some (.int .i64 x) ∧ w'.cell? ⟨g2, o2 + k, none⟩ = some (.int .i64 y) ∧ g < w.heap.size ∧ g2 < w.heap.size ∧ Below w.heap.size w w') (first | exact hS0 | (exact two_drew (by assumption)) | (exact two_alloc _ (by assumption)) | (exact two_grown (by assumption) hrow (by assumption)))
        (first | (refine step_append_lies _ (by rfl) _ _ 27 (by rfl) w.heap.size 3 ti (.int .i64 0) 1 8 Try.underlying27 hi hz0 hz1 hz2 (by rfl) (by decide) _ _ _ (by rfl) (by first | exact hown.alloc _ | exact (hown.drew).alloc _ | exact (hown.alloc _).drew) ⟨wr.heap.size, 0, none⟩ 1 1 [.int .i64 (x - y)] (by rfl) (by rfl) (World.news_of_block (by first | exact heap_alloc_new _ _)) (fun x hx => by simp at hx; subst hx; rfl) (by decide) (by unfold maxLen; omega) (by omega) (by simp; omega) _ (by rfl) ?_; intro gn cn w5 hown5 hgrow5 hat5 hlt5))
      have hB5 : Below w.heap.size w w5 := by first | exact ((hB.alloc hsz _).drew).grown hgrow5 (by simp; omega) hrow | exact ((hB.drew).alloc hsz _).grown hgrow5 (by simp; omega) hrow
      have HR : Hid (w5.ownsRow w.heap.size 3 1 (.slice (some ⟨gn, 0, none⟩) (k + 1) cn) (k + 1) (((dif m us vs).take (k + 1)).map (Value.int .i64)) ∧ Below w.heap.size w w5) := ⟨by rw [HT.out]; exact hown5, hB5⟩
      clear hown hown5 hgrow5 hB hB5 hS0 hrow hat5
      go_wp2
      go_roundw
      case rel => exact ⟨k + 1, by omega, by go_num, HR.out.1, HR.out.2⟩
      case measure => simp [intOf]; omega
    · have HW := Lib.hid hown
      have HB := Lib.hid hB
      clear hown hB
      go_wp2_with fail
      go_ret
      have ho := HW.out
      rw [List.take_of_length_le (by rw [dif_len]; omega), show k = (dif m us vs).length by rw [dif_len]; omega] at ho
      obtain ⟨b, cp, hv, hin⟩ := own_ints ho
      rw [dif_len] at hv
      exact ⟨b, cp, congrArg Ending.returned hv, hin, HB.out⟩
end Go.Proofs.Ytlpmeljneogpiab
