/- What the draws of wishes want: copies of numbers, the beginning and the end of an own row of numbers. Condition: at most 1048576 of them. -/
import Derived.Test.YtdlbjmhjaljlfabWishS
import Derived.Test.YtdlbjmhjaljlfabReads
namespace Go.Proofs.Ytdlbjmhjaljlfab
open Go.RowKit
set_option linter.unusedSimpArgs false
set_option linter.unusedVariables false
theorem ints_one (zs : List Int) : ∀ u ∈ zs.map (Value.int .i64), u.oneCell' = true := fun u hu => by
  obtain ⟨z, _, rfl⟩ := List.mem_map.1 hu; rfl
/-- what copyInts leaves -/
def NewI (w : World) (zs : List Int) (e : Ending) (w' : World) : Prop := ∃ v, e = .returned v ∧ w'.ownsRow w.heap.size 3 1 v zs.length (zs.map (Value.int .i64)) ∧ Below w.heap.size w w'
set_option maxHeartbeats 1000000 in
theorem scopyI (a : Option Addr) (cap m : Nat) (zs : List Int) (w : World) (h : IsInts w a zs) (hl : zs.length = m) (hn : m ≤ 1048576) :
    Calls Try.prog 93 #[.slice a m cap] w (NewI w zs) := by
  subst hl
  obtain ⟨i0, hi0, hz0, hz1, hz2⟩ := info_parts infoInt
  have HR := Lib.hid (ints_reads h)
  clear h
  go_enter Try.func93, Try.ntmps93
  go_wp2_with (first | (at_builtin; refine wpList_append_any _ rfl (.tmp 3) (.tmp 4) _ rfl w.heap.size 3 i0 _ 1 8 Try.underlying40 hi0 hz0 hz1 hz2 rfl (by omega) _ 0 [] rfl ⟨rfl, .inr ⟨w.heap.size, 0, #[], rfl, Nat.le_refl _, Blk.new _ _ _, Nat.le_refl _, by unfold maxLen; omega, rfl, rfl⟩⟩ w.heap.size a zs.length cap (zs.map (Value.int .i64)) rfl (HR.out.alloc (Nat.le_refl _) _) (ints_one zs) (by unfold maxLen; omega) (by omega) (by simp) ?_; intro v1 w1 hown1 hg1 hat1))
  go_ret
  refine ⟨v1, rfl, ?_, ?_⟩
  · have := hown1
    rw [Nat.zero_add, List.nil_append] at this
    exact this
  · exact ((Below.refl _ _).alloc (Nat.le_refl _) _).grown hg1 (by simp) (fun q hq => by have e : w.heap.size = q := Option.some.inj hq; omega)
theorem own_head {w : World} {base g n cap : Nat} {t : TypeId} {xs : List Value} (h : w.ownsRow base t 1 (.slice (some ⟨g, 0, none⟩) n cap) n xs) {k : Nat} (hk : k ≤ n) : w.ownsRow base t 1 (.slice (some ⟨g, 0, none⟩) k cap) k (xs.take k) := by
  obtain ⟨hl, h | ⟨g', cap', cur, hv, hg, hb, hc, hm, hs, ht⟩⟩ := h
  · cases h.1
  · injection hv with e1 e2 e3
    injection e1 with e1
    injection e1 with e1
    subst e1 e3
    refine ⟨by rw [List.length_take, hl]; omega, .inr ⟨g, cap, cur, rfl, hg, hb, by omega, hm, hs, ?_⟩⟩
    rw [← ht, List.take_take, Nat.mul_one, Nat.mul_one, Nat.min_eq_left hk]
theorem ints_drop {w : World} {g : Nat} {zs : List Int} {cap k : Nat} (h : IsInts w (some ⟨g, 0, none⟩) zs) (hk : k ≤ zs.length) (hc : zs.length ≤ cap) : IsInts w (if cap = k then some ⟨g, 0, none⟩ else some ⟨g, k, none⟩) (zs.drop k) := by
  by_cases e : cap = k
  · have : zs.drop k = [] := by rw [List.drop_eq_nil_iff]; omega
    rw [this]; exact .inl rfl
  · rw [if_neg e]
    rcases h with rfl | ⟨g', o', ha, hcc⟩
    · simp; exact .inl rfl
    · injection ha with ha
      injection ha with e1 e2
      subst e1 e2
      refine .inr ⟨g, k, rfl, fun i hi => ?_⟩
      rw [List.length_drop] at hi
      have := hcc (k + i) (by omega)
      rw [Nat.zero_add] at this
      rw [this]
      congr 2
      rw [List.getD_eq_getElem?_getD, List.getD_eq_getElem?_getD, List.getElem?_drop]
end Go.Proofs.Ytdlbjmhjaljlfab
