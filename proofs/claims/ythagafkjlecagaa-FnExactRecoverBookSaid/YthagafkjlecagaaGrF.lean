/- Contracts and facts of functions of this program, in build order. Conditions: those stated in each. -/
import Derived.Test.YthagafkjlecagaaGrE
import Derived.Test.YthagafkjlecagaaGrC
import Derived.Deep.RegionHeld3
import Derived.Deep.RegionWith
import Derived.Deep.QuietTactic
import Derived.BigQuiet
import Derived.RegionTactic
import Derived.StillTailTactics
namespace Go.Proofs.Ythagafkjlecagaa
open Go.RowKit
set_option linter.unusedSimpArgs false
set_option linter.unusedVariables false
theorem rdM_Join {L : List ByteArray} {m0_ m1_ : Int} (h0 : ¬ kw L = kSell) (ha : (numL (L.drop 1)).all nnB = true) (hz : numL (L.drop 1) = [m0_, m1_]) (hk : kw L = kJoin) : rdM L = some ⟨0, ⟨2, m0_, m1_, 0, 0, []⟩, 0, 0⟩ := by
  have e : nsM L = [m0_, m1_] := hz
  have ha2 : (nsM L).all (fun n => decide (0 ≤ n)) = true := ha
  unfold rdM
  rw [if_neg h0, if_pos ⟨ha2, by rw [e]; simp⟩, e, hk]
  simp [kJoin, kInh, kTurns, kHour, kSwap, kGate, kDig]
theorem rdM_JoinN {L : List ByteArray} (h0 : ¬ kw L = kSell) (hm : (numL (L.drop 1)).length ≠ 2) (hk : kw L = kJoin) : rdM L = none := by
  have e : ¬ (nsM L).length = 2 := hm
  unfold rdM
  rw [if_neg h0, hk]
  split
  · simp [kJoin, kInh, kTurns, kHour, kSwap, kGate, kDig, e]
  · rfl
theorem rdM_Inh {L : List ByteArray} {m0_ : Int} {r : List Int} (h0 : ¬ kw L = kSell) (ha : (numL (L.drop 1)).all nnB = true) (hz : numL (L.drop 1) = m0_ :: r) (hk : kw L = kInh) : rdM L = some ⟨0, ⟨1, m0_, 0, 0, 0, r⟩, 0, 0⟩ := by
  have e : nsM L = m0_ :: r := hz
  have ha2 : (nsM L).all (fun n => decide (0 ≤ n)) = true := ha
  unfold rdM
  rw [if_neg h0, if_pos ⟨ha2, by rw [e]; simp⟩, e, hk]
  simp [kJoin, kInh, kTurns, kHour, kSwap, kGate, kDig]
theorem rdM_Turns {L : List ByteArray} {m0_ : Int} (h0 : ¬ kw L = kSell) (ha : (numL (L.drop 1)).all nnB = true) (hz : numL (L.drop 1) = [m0_]) (hk : kw L = kTurns) : rdM L = some ⟨1, dd0, 0, m0_⟩ := by
  have e : nsM L = [m0_] := hz
  have ha2 : (nsM L).all (fun n => decide (0 ≤ n)) = true := ha
  unfold rdM
  rw [if_neg h0, if_pos ⟨ha2, by rw [e]; simp⟩, e, hk]
  simp [kJoin, kInh, kTurns, kHour, kSwap, kGate, kDig]
theorem rdM_TurnsN {L : List ByteArray} (h0 : ¬ kw L = kSell) (hm : (numL (L.drop 1)).length ≠ 1) (hk : kw L = kTurns) : rdM L = none := by
  have e : ¬ (nsM L).length = 1 := hm
  unfold rdM
  rw [if_neg h0, hk]
  split
  · simp [kJoin, kInh, kTurns, kHour, kSwap, kGate, kDig, e]
  · rfl
theorem rdM_Hour {L : List ByteArray} {m0_ : Int} (h0 : ¬ kw L = kSell) (ha : (numL (L.drop 1)).all nnB = true) (hz : numL (L.drop 1) = [m0_]) (hk : kw L = kHour) : rdM L = some ⟨5, dd0, 0, m0_⟩ := by
  have e : nsM L = [m0_] := hz
  have ha2 : (nsM L).all (fun n => decide (0 ≤ n)) = true := ha
  unfold rdM
  rw [if_neg h0, if_pos ⟨ha2, by rw [e]; simp⟩, e, hk]
  simp [kJoin, kInh, kTurns, kHour, kSwap, kGate, kDig]
theorem rdM_HourN {L : List ByteArray} (h0 : ¬ kw L = kSell) (hm : (numL (L.drop 1)).length ≠ 1) (hk : kw L = kHour) : rdM L = none := by
  have e : ¬ (nsM L).length = 1 := hm
  unfold rdM
  rw [if_neg h0, hk]
  split
  · simp [kJoin, kInh, kTurns, kHour, kSwap, kGate, kDig, e]
  · rfl
theorem rdM_Swap {L : List ByteArray} {m0_ m1_ : Int} (h0 : ¬ kw L = kSell) (ha : (numL (L.drop 1)).all nnB = true) (hz : numL (L.drop 1) = [m0_, m1_]) (hk : kw L = kSwap) : rdM L = some ⟨2, dd0, m0_, m1_⟩ := by
  have e : nsM L = [m0_, m1_] := hz
  have ha2 : (nsM L).all (fun n => decide (0 ≤ n)) = true := ha
  unfold rdM
  rw [if_neg h0, if_pos ⟨ha2, by rw [e]; simp⟩, e, hk]
  simp [kJoin, kInh, kTurns, kHour, kSwap, kGate, kDig]
theorem rdM_SwapN {L : List ByteArray} (h0 : ¬ kw L = kSell) (hm : (numL (L.drop 1)).length ≠ 2) (hk : kw L = kSwap) : rdM L = none := by
  have e : ¬ (nsM L).length = 2 := hm
  unfold rdM
  rw [if_neg h0, hk]
  split
  · simp [kJoin, kInh, kTurns, kHour, kSwap, kGate, kDig, e]
  · rfl
theorem rdM_Gate {L : List ByteArray} {m0_ m1_ : Int} (h0 : ¬ kw L = kSell) (ha : (numL (L.drop 1)).all nnB = true) (hz : numL (L.drop 1) = [m0_, m1_]) (hk : kw L = kGate) : rdM L = some ⟨3, dd0, m0_, m1_⟩ := by
  have e : nsM L = [m0_, m1_] := hz
  have ha2 : (nsM L).all (fun n => decide (0 ≤ n)) = true := ha
  unfold rdM
  rw [if_neg h0, if_pos ⟨ha2, by rw [e]; simp⟩, e, hk]
  simp [kJoin, kInh, kTurns, kHour, kSwap, kGate, kDig]
theorem rdM_GateN {L : List ByteArray} (h0 : ¬ kw L = kSell) (hm : (numL (L.drop 1)).length ≠ 2) (hk : kw L = kGate) : rdM L = none := by
  have e : ¬ (nsM L).length = 2 := hm
  unfold rdM
  rw [if_neg h0, hk]
  split
  · simp [kJoin, kInh, kTurns, kHour, kSwap, kGate, kDig, e]
  · rfl
theorem rdM_Dig {L : List ByteArray} {m0_ m1_ : Int} (h0 : ¬ kw L = kSell) (ha : (numL (L.drop 1)).all nnB = true) (hz : numL (L.drop 1) = [m0_, m1_]) (hk : kw L = kDig) : rdM L = some ⟨4, dd0, m0_, m1_⟩ := by
  have e : nsM L = [m0_, m1_] := hz
  have ha2 : (nsM L).all (fun n => decide (0 ≤ n)) = true := ha
  unfold rdM
  rw [if_neg h0, if_pos ⟨ha2, by rw [e]; simp⟩, e, hk]
  simp [kJoin, kInh, kTurns, kHour, kSwap, kGate, kDig]
theorem rdM_DigN {L : List ByteArray} (h0 : ¬ kw L = kSell) (hm : (numL (L.drop 1)).length ≠ 2) (hk : kw L = kDig) : rdM L = none := by
  have e : ¬ (nsM L).length = 2 := hm
  unfold rdM
  rw [if_neg h0, hk]
  split
  · simp [kJoin, kInh, kTurns, kHour, kSwap, kGate, kDig, e]
  · rfl
theorem rdM_no {L : List ByteArray} (h0 : ¬ kw L = kSell) (h1 : ¬ kw L = kJoin) (h2 : ¬ kw L = kInh) (h3 : ¬ kw L = kTurns) (h4 : ¬ kw L = kHour) (h5 : ¬ kw L = kSwap) (h6 : ¬ kw L = kGate) (h7 : ¬ kw L = kDig) : rdM L = none := by
  unfold rdM
  rw [if_neg h0]
  simp [h1, h2, h3, h4, h5, h6, h7]
theorem rdM_bad {L : List ByteArray} (h0 : ¬ kw L = kSell) (ha : (numL (L.drop 1)).all nnB = false) : rdM L = none := by
  have ha2 : (nsM L).all (fun n => decide (0 ≤ n)) = false := ha
  unfold rdM
  rw [if_neg h0, if_neg (fun c => by rw [ha2] at c; cases c.1)]
theorem rdM_nil {L : List ByteArray} (h0 : ¬ kw L = kSell) (hz : numL (L.drop 1) = []) : rdM L = none := by
  have e : nsM L = [] := hz
  unfold rdM
  rw [if_neg h0, if_neg (fun c => c.2 e)]
theorem far9 {w y : World} {g b : Nat} {t : TypeId} {cs : Array Value} {v0 v1 v2 v3 v4 v5 v6 v7 v8 : Value} (h : Blk w g t cs) (hy : y = sets9 w b v0 v1 v2 v3 v4 v5 v6 v7 v8) (hn : g ≠ b) : Blk y g t cs := by
  subst hy; exact ((((((((h.far (p := ⟨b, 0, none⟩) hn _).far (p := ⟨b, 1, none⟩) hn _).far (p := ⟨b, 2, none⟩) hn _).far (p := ⟨b, 3, none⟩) hn _).far (p := ⟨b, 4, none⟩) hn _).far (p := ⟨b, 5, none⟩) hn _).far (p := ⟨b, 6, none⟩) hn _).far (p := ⟨b, 7, none⟩) hn _).far (p := ⟨b, 8, none⟩) hn _
theorem ints_far9 {w y : World} {b : Nat} {A : Option Addr} {zs : List Int} {cs : Array Value} {v0 v1 v2 v3 v4 v5 v6 v7 v8 : Value} (h : IsInts w A zs) (K : Blk w b 35 cs) (hA : ∀ g o s, A = some ⟨g, o, s⟩ → g ≠ b) (hy : y = sets9 w b v0 v1 v2 v3 v4 v5 v6 v7 v8) : IsInts y A zs := by
  rcases h with h | ⟨g, o, rfl, hc⟩
  · exact .inl h
  · have hn := hA g o none rfl
    refine .inr ⟨g, o, rfl, fun i hi => ?_⟩
    have hq : ∀ (V : World) (j : Nat) (z : Value), (V.setCell ⟨b, j, none⟩ z).cell? ⟨g, o + i, none⟩ = V.cell? ⟨g, o + i, none⟩ := fun V j z => World.cell?_setCell_other V _ _ z (fun e => by injection e with e; exact hn e.symm)
    subst hy; unfold sets9; rw [hq, hq, hq, hq, hq, hq, hq, hq, hq]; exact hc i hi
theorem own_tailZ {W : World} {base gz : Nat} {n cz : Nat} {m0_ : Int} {r : List Int} (h : OwnI W base (.slice (some ⟨gz, 0, none⟩) n cz) (m0_ :: r)) : IsInts W (some ⟨gz, 1, none⟩) r := by
  refine .inr ⟨gz, 1, rfl, fun i hi => ?_⟩
  have := h.cell (j := i + 1) (by simp; omega)
  rw [Nat.add_comm] at this
  rw [this, List.getD_eq_getElem?_getD, List.getD_eq_getElem?_getD, Nat.add_comm 1 i, List.getElem?_cons_succ]
theorem ints_far6 {w y : World} {b : Nat} {A : Option Addr} {zs : List Int} {v0 v1 v2 v3 v4 v5 : Value} (h : IsInts w A zs) (hA : ∀ g o s, A = some ⟨g, o, s⟩ → g ≠ b) (hy : y = World.setCell (World.setCell (World.setCell (World.setCell (World.setCell (World.setCell w ⟨b, 1, none⟩ (v0)) ⟨b, 2, none⟩ (v1)) ⟨b, 3, none⟩ (v2)) ⟨b, 4, none⟩ (v3)) ⟨b, 5, none⟩ (v4)) ⟨b, 6, none⟩ (v5)) : IsInts y A zs := by
  rcases h with h | ⟨g, o, rfl, hc⟩
  · exact .inl h
  · have hn := hA g o none rfl
    refine .inr ⟨g, o, rfl, fun i hi => ?_⟩
    have hq : ∀ (V : World) (j : Nat) (z : Value), (V.setCell ⟨b, j, none⟩ z).cell? ⟨g, o + i, none⟩ = V.cell? ⟨g, o + i, none⟩ := fun V j z => World.cell?_setCell_other V _ _ z (fun e => by injection e with e; exact hn e.symm)
    subst hy; rw [hq, hq, hq, hq, hq, hq]; exact hc i hi
end Go.Proofs.Ythagafkjlecagaa
