/- Events read by the model. Condition: texts of at most 4294967296 bytes. -/
import Derived.Test.YtaehemmjemhgpaaPCG2
import Derived.Test.YtaehemmjemhgpaaPCG4
import Derived.Deep.RegionHeld3
import Derived.Deep.RegionWith
import Derived.Deep.QuietTactic
import Derived.BigQuiet
import Derived.RegionTactic
import Derived.StillTailTactics
set_option maxRecDepth 100000
set_option maxHeartbeats 16000000
namespace Go.Proofs.Ytaehemmjemhgpaa
open Go.RowKit
set_option linter.unusedSimpArgs false
set_option linter.unusedVariables false
theorem rdM_Join {L : List ByteArray} {m0_ m1_ : Int} (h0 : ¬ kw L = jzc) (ha : (numL (L.drop 1)).all nnB = true) (hz : numL (L.drop 1) = [m0_, m1_]) (hk : kw L = jzb) : rdM L = some ⟨0, ⟨2, m0_, m1_, 0, 0, []⟩, 0, 0⟩ := by
 have e : nsM L = [m0_, m1_] := hz; have ha2 : (nsM L).all (fun n => decide (0 ≤ n)) = true := ha; unfold rdM; rw [if_neg h0, if_pos ⟨ha2, by rw [e]; simp⟩, e, hk]
 simp [jzb, kInh, jz0, jzg, jz4, jz5, kDig]
theorem rdM_JoinN {L : List ByteArray} (h0 : ¬ kw L = jzc) (hm : (numL (L.drop 1)).length ≠ 2) (hk : kw L = jzb) : rdM L = none := by
 have e : ¬ (nsM L).length = 2 := hm; unfold rdM; rw [if_neg h0, hk]
 split
 ·simp [jzb, kInh, jz0, jzg, jz4, jz5, kDig, e]
 ·rfl
theorem rdM_Inh {L : List ByteArray} {m0_ : Int} {r : List Int} (h0 : ¬ kw L = jzc) (ha : (numL (L.drop 1)).all nnB = true) (hz : numL (L.drop 1) = m0_ :: r) (hk : kw L = kInh) : rdM L = some ⟨0, ⟨1, m0_, 0, 0, 0, r⟩, 0, 0⟩ := by
 have e : nsM L = m0_ :: r := hz; have ha2 : (nsM L).all (fun n => decide (0 ≤ n)) = true := ha; unfold rdM; rw [if_neg h0, if_pos ⟨ha2, by rw [e]; simp⟩, e, hk]
 simp [jzb, kInh, jz0, jzg, jz4, jz5, kDig]
theorem rdM_Turns {L : List ByteArray} {m0_ : Int} (h0 : ¬ kw L = jzc) (ha : (numL (L.drop 1)).all nnB = true) (hz : numL (L.drop 1) = [m0_]) (hk : kw L = jz0) : rdM L = some ⟨1, dd0, 0, m0_⟩ := by
 have e : nsM L = [m0_] := hz; have ha2 : (nsM L).all (fun n => decide (0 ≤ n)) = true := ha; unfold rdM; rw [if_neg h0, if_pos ⟨ha2, by rw [e]; simp⟩, e, hk]
 simp [jzb, kInh, jz0, jzg, jz4, jz5, kDig]
theorem rdM_TurnsN {L : List ByteArray} (h0 : ¬ kw L = jzc) (hm : (numL (L.drop 1)).length ≠ 1) (hk : kw L = jz0) : rdM L = none := by
 have e : ¬ (nsM L).length = 1 := hm; unfold rdM; rw [if_neg h0, hk]
 split
 ·simp [jzb, kInh, jz0, jzg, jz4, jz5, kDig, e]
 ·rfl
theorem rdM_Hour {L : List ByteArray} {m0_ : Int} (h0 : ¬ kw L = jzc) (ha : (numL (L.drop 1)).all nnB = true) (hz : numL (L.drop 1) = [m0_]) (hk : kw L = jzg) : rdM L = some ⟨5, dd0, 0, m0_⟩ := by
 have e : nsM L = [m0_] := hz; have ha2 : (nsM L).all (fun n => decide (0 ≤ n)) = true := ha; unfold rdM; rw [if_neg h0, if_pos ⟨ha2, by rw [e]; simp⟩, e, hk]
 simp [jzb, kInh, jz0, jzg, jz4, jz5, kDig]
theorem rdM_HourN {L : List ByteArray} (h0 : ¬ kw L = jzc) (hm : (numL (L.drop 1)).length ≠ 1) (hk : kw L = jzg) : rdM L = none := by
 have e : ¬ (nsM L).length = 1 := hm; unfold rdM; rw [if_neg h0, hk]
 split
 ·simp [jzb, kInh, jz0, jzg, jz4, jz5, kDig, e]
 ·rfl
theorem rdM_Swap {L : List ByteArray} {m0_ m1_ : Int} (h0 : ¬ kw L = jzc) (ha : (numL (L.drop 1)).all nnB = true) (hz : numL (L.drop 1) = [m0_, m1_]) (hk : kw L = jz4) : rdM L = some ⟨2, dd0, m0_, m1_⟩ := by
 have e : nsM L = [m0_, m1_] := hz; have ha2 : (nsM L).all (fun n => decide (0 ≤ n)) = true := ha; unfold rdM; rw [if_neg h0, if_pos ⟨ha2, by rw [e]; simp⟩, e, hk]
 simp [jzb, kInh, jz0, jzg, jz4, jz5, kDig]
theorem rdM_SwapN {L : List ByteArray} (h0 : ¬ kw L = jzc) (hm : (numL (L.drop 1)).length ≠ 2) (hk : kw L = jz4) : rdM L = none := by
 have e : ¬ (nsM L).length = 2 := hm; unfold rdM; rw [if_neg h0, hk]
 split
 ·simp [jzb, kInh, jz0, jzg, jz4, jz5, kDig, e]
 ·rfl
theorem rdM_Gate {L : List ByteArray} {m0_ m1_ : Int} (h0 : ¬ kw L = jzc) (ha : (numL (L.drop 1)).all nnB = true) (hz : numL (L.drop 1) = [m0_, m1_]) (hk : kw L = jz5) : rdM L = some ⟨3, dd0, m0_, m1_⟩ := by
 have e : nsM L = [m0_, m1_] := hz; have ha2 : (nsM L).all (fun n => decide (0 ≤ n)) = true := ha; unfold rdM; rw [if_neg h0, if_pos ⟨ha2, by rw [e]; simp⟩, e, hk]
 simp [jzb, kInh, jz0, jzg, jz4, jz5, kDig]
theorem rdM_GateN {L : List ByteArray} (h0 : ¬ kw L = jzc) (hm : (numL (L.drop 1)).length ≠ 2) (hk : kw L = jz5) : rdM L = none := by
 have e : ¬ (nsM L).length = 2 := hm; unfold rdM; rw [if_neg h0, hk]
 split
 ·simp [jzb, kInh, jz0, jzg, jz4, jz5, kDig, e]
 ·rfl
theorem rdM_Dig {L : List ByteArray} {m0_ m1_ : Int} (h0 : ¬ kw L = jzc) (ha : (numL (L.drop 1)).all nnB = true) (hz : numL (L.drop 1) = [m0_, m1_]) (hk : kw L = kDig) : rdM L = some ⟨4, dd0, m0_, m1_⟩ := by
 have e : nsM L = [m0_, m1_] := hz; have ha2 : (nsM L).all (fun n => decide (0 ≤ n)) = true := ha; unfold rdM; rw [if_neg h0, if_pos ⟨ha2, by rw [e]; simp⟩, e, hk]
 simp [jzb, kInh, jz0, jzg, jz4, jz5, kDig]
theorem rdM_DigN {L : List ByteArray} (h0 : ¬ kw L = jzc) (hm : (numL (L.drop 1)).length ≠ 2) (hk : kw L = kDig) : rdM L = none := by
 have e : ¬ (nsM L).length = 2 := hm; unfold rdM; rw [if_neg h0, hk]
 split
 ·simp [jzb, kInh, jz0, jzg, jz4, jz5, kDig, e]
 ·rfl
theorem rdM_no {L : List ByteArray} (h0 : ¬ kw L = jzc) (h1 : ¬ kw L = jzb) (h2 : ¬ kw L = kInh) (h3 : ¬ kw L = jz0) (h4 : ¬ kw L = jzg) (h5 : ¬ kw L = jz4) (h6 : ¬ kw L = jz5) (h7 : ¬ kw L = kDig) : rdM L = none := by
 unfold rdM; rw [if_neg h0]
 simp [h1, h2, h3, h4, h5, h6, h7]
theorem rdM_bad {L : List ByteArray} (h0 : ¬ kw L = jzc) (ha : (numL (L.drop 1)).all nnB = false) : rdM L = none := by
 have ha2 : (nsM L).all (fun n => decide (0 ≤ n)) = false := ha; unfold rdM; rw [if_neg h0, if_neg (fun c => by rw [ha2] at c; cases c.1)]
theorem rdM_nil {L : List ByteArray} (h0 : ¬ kw L = jzc) (hz : numL (L.drop 1) = []) : rdM L = none := by
 have e : nsM L = [] := hz; unfold rdM; rw [if_neg h0, if_neg (fun c => c.2 e)]
theorem far9 {w y : World} {g b : Nat} {t : TypeId} {cs : Array Value} {v0 v1 v2 v3 v4 v5 v6 v7 v8 : Value} (h : Blk w g t cs) (hy : y = jzd w b v0 v1 v2 v3 v4 v5 v6 v7 v8) (hn : g ≠ b) : Blk y g t cs := by
 subst hy; exact ((((((((h.far (p := ⟨b, 0, none⟩) hn _).far (p := ⟨b, 1, none⟩) hn _).far (p := ⟨b, 2, none⟩) hn _).far (p := ⟨b, 3, none⟩) hn _).far (p := ⟨b, 4, none⟩) hn _).far (p := ⟨b, 5, none⟩) hn _).far (p := ⟨b, 6, none⟩) hn _).far (p := ⟨b, 7, none⟩) hn _).far (p := ⟨b, 8, none⟩) hn _
theorem ints_far9 {w y : World} {b : Nat} {A : Option Addr} {zs : List Int} {cs : Array Value} {v0 v1 v2 v3 v4 v5 v6 v7 v8 : Value} (h : jqf w A zs) (K : Blk w b 63 cs) (hA : ∀ g o s, A = some ⟨g, o, s⟩ → g ≠ b) (hy : y = jzd w b v0 v1 v2 v3 v4 v5 v6 v7 v8) : jqf y A zs := by
 rcases h with h | ⟨g, o, rfl, hc⟩
 ·exact .inl h
 ·have hn := hA g o none rfl
  refine .inr ⟨g, o, rfl, fun i hi => ?_⟩
  have hq : ∀ (V : World) (j : Nat) (z : Value), (V.setCell ⟨b, j, none⟩ z).cell? ⟨g, o + i, none⟩ = V.cell? ⟨g, o + i, none⟩ := fun V j z => World.cell?_setCell_other V _ _ z (fun e => by injection e with e; exact hn e.symm)
  subst hy; unfold jzd; rw [hq, hq, hq, hq, hq, hq, hq, hq, hq]; exact hc i hi
theorem own_tailZ {W : World} {base gz : Nat} {n cz : Nat} {m0_ : Int} {r : List Int} (h : OwnI W base (.slice (some ⟨gz, 0, none⟩) n cz) (m0_ :: r)) : jqf W (some ⟨gz, 1, none⟩) r := by
 refine .inr ⟨gz, 1, rfl, fun i hi => ?_⟩; have := h.cell (j := i + 1) (by simp; omega); rw [Nat.add_comm] at this; rw [this, List.getD_eq_getElem?_getD, List.getD_eq_getElem?_getD, Nat.add_comm 1 i, List.getElem?_cons_succ]
theorem ints_far6 {w y : World} {b : Nat} {A : Option Addr} {zs : List Int} {v0 v1 v2 v3 v4 v5 : Value} (h : jqf w A zs) (hA : ∀ g o s, A = some ⟨g, o, s⟩ → g ≠ b) (hy : y = World.setCell (World.setCell (World.setCell (World.setCell (World.setCell (World.setCell w ⟨b, 1, none⟩ (v0)) ⟨b, 2, none⟩ (v1)) ⟨b, 3, none⟩ (v2)) ⟨b, 4, none⟩ (v3)) ⟨b, 5, none⟩ (v4)) ⟨b, 6, none⟩ (v5)) : jqf y A zs := by
 rcases h with h | ⟨g, o, rfl, hc⟩
 ·exact .inl h
 ·have hn := hA g o none rfl
  refine .inr ⟨g, o, rfl, fun i hi => ?_⟩
  have hq : ∀ (V : World) (j : Nat) (z : Value), (V.setCell ⟨b, j, none⟩ z).cell? ⟨g, o + i, none⟩ = V.cell? ⟨g, o + i, none⟩ := fun V j z => World.cell?_setCell_other V _ _ z (fun e => by injection e with e; exact hn e.symm)
  subst hy; rw [hq, hq, hq, hq, hq, hq]; exact hc i hi
end Go.Proofs.Ytaehemmjemhgpaa
