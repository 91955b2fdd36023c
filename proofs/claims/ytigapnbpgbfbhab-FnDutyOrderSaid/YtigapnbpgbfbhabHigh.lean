/- Helpers of the laws: less, highest, countOf. Condition: at most 1048576 numbers. -/
import Derived.Test.YtigapnbpgbfbhabLawsI
import Derived.Test.YtigapnbpgbfbhabMathR
import Derived.Deep.RegionHeld3
import Derived.Deep.AppendLies
namespace Go.Proofs.Ytigapnbpgbfbhab
open Go.RowKit

theorem ext_getD {l l' : List Int} (hl : l.length = l'.length) (h : ∀ i, i < l.length → l.getD i 0 = l'.getD i 0) : l = l' := by
  apply List.ext_getElem hl
  intro i h1 h2
  have := h i h1
  rwa [List.getD_eq_getElem?_getD, List.getD_eq_getElem?_getD, List.getElem?_eq_getElem h1, List.getElem?_eq_getElem h2] at this

/-- differences -/
def dif (m : Nat) (us vs : List Int) : List Int := (List.range m).map fun i => us.getD i 0 - vs.getD i 0
theorem dif_len (m : Nat) (us vs : List Int) : (dif m us vs).length = m := by unfold dif; simp
theorem dif_get {m : Nat} (us vs : List Int) {i : Nat} (h : i < m) : (dif m us vs).getD i 0 = us.getD i 0 - vs.getD i 0 := by
  unfold dif
  rw [List.getD_eq_getElem?_getD, List.getElem?_map, List.getElem?_range h]; rfl
theorem dif_more {m b : Nat} {gs hs : List Int} (hb : b < m) (hl : gs.length = m) (h : hs = gs.set b (gs.getD b 0 + 1)) : dif m hs gs = one1 m b := by
  refine ext_getD (by rw [dif_len, one1_len]) (fun i hi => ?_)
  rw [dif_len] at hi
  rw [dif_get _ _ hi, one1_get hb, h, getD_set _ _ _ (by omega)]
  split
  · next e => subst e; omega
  · omega

set_option maxHeartbeats 1000000 in
theorem lcount (m : Nat) (a : Option Addr) (cap : Nat) (zs : List Int) (n : Int) (w : World) (hl : zs.length = m) (h : IsInts w a zs) (hn : m ≤ 1048576) :
    Calls Try.prog 19 #[.slice a m cap, .int .i64 n] w fun e w' => e = .returned (.int .i64 (cntTo zs n m)) ∧ w = w' := by
  rcases h with rfl | ⟨g, o, rfl, hc⟩
  · have e : m = 0 := hl.symm
    subst e
    go_enter Try.func19, Try.ntmps19
    go_wp2_with fail
    refine wp_loop_rounds 1 ?_
    rw [rounds_succ]
    go_wp2_with fail
    go_ret
    exact ⟨rfl, rfl⟩
  · have HC := Lib.hid hc
    clear hc
    go_enter Try.func19, Try.ntmps19
    go_wp2_with fail
    go_loop [5, 6] (fun c i => ∃ k : Nat, k ≤ m ∧ i = .int .i64 k ∧ c = .int .i64 (cntTo zs n k)) (fun _ i => m - (intOf i).toNat)
    case atStart => exact ⟨0, Nat.zero_le _, rfl, rfl⟩
    case round =>
      obtain ⟨k, hk, rfl, rfl⟩ := hrel
      by_cases hlt : k < m
      · have c1 := HC.out k (by omega)
        have hs := cntTo_succ zs n k
        have hb := cntTo_bd zs n k
        generalize cntTo zs n k = x at *
        generalize zs.getD k 0 = z at *
        by_cases hzn : z = n
        · rw [if_pos hzn] at hs
          have HS := Lib.hid hs
          clear hs
          have e1 : (z == n) = true := by rw [beq_iff_eq]; exact hzn
          clear hzn
          go_wp2_with fail
          go_round
          case rel => exact ⟨k + 1, by omega, by go_num, by rw [HS.out]⟩
          case measure => simp [intOf]; omega
        · rw [if_neg hzn] at hs
          have HS := Lib.hid hs
          clear hs
          have e1 : (z == n) = false := by rw [beq_eq_false_iff_ne]; exact hzn
          clear hzn
          go_wp2_with fail
          go_round
          case rel => exact ⟨k + 1, by omega, by go_num, by rw [HS.out, Int.add_zero]⟩
          case measure => simp [intOf]; omega
      · have e : k = m := by omega
        subst e
        go_wp2_with fail
        go_ret
        exact ⟨rfl, rfl⟩

/-- what a region that reads two cells and appends keeps -/
def Two (w : World) (p q : Addr) (x y : Int) (w' : World) : Prop := w'.cell? p = some (.int .i64 x) ∧ w'.cell? q = some (.int .i64 y) ∧ p.block < w.heap.size ∧ q.block < w.heap.size ∧ Below w.heap.size w w'
theorem two_keep {w W W' : World} {p q : Addr} {x y : Int} (hb : Below w.heap.size W W') (h : Two w p q x y W) : Two w p q x y W' :=
  ⟨(hb.cell h.2.2.1).trans h.1, (hb.cell h.2.2.2.1).trans h.2.1, h.2.2.1, h.2.2.2.1, h.2.2.2.2.trans hb⟩
theorem two_alloc {w W : World} {p q : Addr} {x y : Int} (o : Obj) (h : Two w p q x y W) : Two w p q x y (W.alloc o) := two_keep ((Below.refl _ _).alloc h.2.2.2.2.size _) h
theorem two_drew {w W : World} {p q : Addr} {x y : Int} (h : Two w p q x y W) : Two w p q x y W.drew := two_keep ((Below.refl _ _).drew) h
theorem own_row {W : World} {B : Nat} {v : Value} {k : Nat} {XS : List Value} (h : W.ownsRow B 3 1 v k XS) : ∀ q, v.ownBlock = some q → B ≤ q := fun q hq => (h.lt q hq).1
theorem two_grown {w W W' : World} {p q : Addr} {x y : Int} {row : Option Nat} (hg : W.grownBy W' row) (hr : ∀ q, row = some q → w.heap.size ≤ q) (h : Two w p q x y W) : Two w p q x y W' :=
  two_keep ((Below.refl _ _).grown hg h.2.2.2.2.size hr) h

/-- what less leaves -/
def Lessd (m : Nat) (R : List Int) (w : World) (e : Ending) (w' : World) : Prop := ∃ (b : Option Addr) (cap : Nat), e = .returned (.slice b m cap) ∧ IsInts w' b R ∧ Below w.heap.size w w'
end Go.Proofs.Ytigapnbpgbfbhab
