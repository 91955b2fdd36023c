/- Shares that are joined, by impl and spec. Condition: at most 1048576 holdings. -/
import Derived.Test.YthagafkjlecagabSellI
namespace Go.Proofs.Ythagafkjlecagab
open Go.RowKit

def joinB (hs : List Hd) (fr tt : Int) : Bool := selB hs fr tt (shV hs fr).1 (shV hs fr).2
def joinL' (hs : List Hd) (fr tt : Int) : Led := selL hs fr tt (shV hs fr).1 (shV hs fr).2
theorem iJoin (a : Option Addr) (cap : Nat) (hs : List Hd) (fr tt : Int) (w : World) (h : IsHs w a hs) (hn : hs.length ≤ 1048576) (hc : hs.length ≤ cap) :
    Calls Try.prog 96 #[.slice a hs.length cap, .int .i64 fr, .int .i64 tt] w (MoveV w (joinB hs fr tt) (joinL' hs fr tt)) := by
  have HI := Lib.hid h
  clear h
  go_enter Try.func96, Try.ntmps96
  go_wp2_with fail
  refine (iShareOf a cap hs fr _ HI.out hn).mono ?_
  rintro e w1 ⟨rfl, hb⟩
  go_wp2_with fail
  refine (iSell a cap hs fr tt _ _ _ (hs_below HI.out hb) hn hc).mono ?_
  rintro e w2 ⟨v, rfl, m1, m2, hb2⟩
  go_wp2_with fail
  go_returns
  exact ⟨v, rfl, m1, (fun c => own_le (m2 c) hb.size), bel_tr hb hb2⟩

theorem vl_small {L : Led} (h : VL L) : 0 < (rawL L).length ∧ (rawL L).length ≤ 1048576 := by
  rw [raw_len]
  refine ⟨?_, by have := h.len; omega⟩
  cases L with
  | nil => have := h.one; exact absurd this (by decide)
  | cons x t => simp
theorem sel_small {hs : List Hd} {fr tt pn pd : Int} (h : selB hs fr tt pn pd = true) : 0 < (rawL (selL hs fr tt pn pd)).length ∧ (rawL (selL hs fr tt pn pd)).length ≤ 1048576 := by
  unfold selB at h
  simp only [Bool.and_eq_true] at h
  exact vl_small ((sell_iff _ _ _ _).1 h.2).2.2.2.2.2.2
theorem join_small {hs : List Hd} {fr tt : Int} (h : joinB hs fr tt = true) : 0 < (rawL (joinL' hs fr tt)).length ∧ (rawL (joinL' hs fr tt)).length ≤ 1048576 := sel_small h
end Go.Proofs.Ythagafkjlecagab
