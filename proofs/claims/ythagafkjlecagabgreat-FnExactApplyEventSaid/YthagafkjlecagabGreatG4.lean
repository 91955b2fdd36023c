/- Contracts and facts of functions of this program, in build order. Conditions: those stated in each. -/
import Derived.Test.YthagafkjlecagabGreatG1
import Derived.Test.YthagafkjlecagabGreatHoldW
import Derived.Test.YthagafkjlecagabGreatG0
import Derived.Test.YthagafkjlecagabGreatLawTw
import Derived.Test.YthagafkjlecagabGreatG2
import Derived.Deep.RegionHeld3
import Derived.Deep.DeepCutAuto
import Derived.Deep.Matrix
import Derived.Deep.RegionWith
import Derived.Deep.QuietTactic
import Derived.BigQuiet
import Derived.RegionTactic
import Derived.Deep.Slices
import Derived.ChangeSame
import Derived.ChangeArms
import Derived.ChangeSlices
import Derived.ProofKit
import Derived.WideShapes
import Derived.Lib.SmallJoins
import Derived.IntWalk
import Derived.Maps.AppendAt
set_option maxRecDepth 100000
set_option maxHeartbeats 16000000
namespace Go.Proofs.YthagafkjlecagabGreat
open Go.RowKit
set_option linter.unusedSimpArgs false
set_option linter.unusedVariables false
def shV (hs : List Hd) (o : Int) : Int × Int := if vlR hs then shR hs o else (0, 0)
def ShareO (w : World) (hs : List Hd) (o : Int) (e : Ending) (w' : World) : Prop := e = .returned (.agg #[.int .i64 (shV hs o).1, .int .i64 (shV hs o).2]) ∧ Below w.heap.size w w'
theorem iShareOf (a : Option Addr) (cap : Nat) (hs : List Hd) (o : Int) (w : World) (h : IsHs w a hs) (hn : hs.length ≤ 1048576) :
    Calls Tryz.prog 151 #[.slice a hs.length cap, .int .i64 o] w (ShareO w hs o) := by
  have HI := Lib.hid h; clear h
  cases hv : vlR hs with
  | false =>
    have CV := iVL a cap hs (w.alloc (.cells #[.int .i64 0, .int .i64 0] 49)) (hs_below HI.out (by go_grown)) hn; rw [hv] at CV
    have HS : Hid (shV hs o = (0, 0)) := by show shV hs o = (0, 0); unfold shV; rw [hv]; rfl
    clear hv; go_enter Tryz.func151, Tryz.ntmps151; go_wp2_with fail; refine CV.mono ?_; rintro e w1 ⟨rfl, hb⟩; obtain ⟨t0, t1, t2, t3, t4⟩ := blk_two ((Blk.new w 49 #[.int .i64 0, .int .i64 0]).next hb); have hB := bel_tr ((Below.refl w.heap.size w).alloc (Nat.le_refl _) _) hb; clear hb CV; go_wp2_with fail; exact bodyPost_ret (v := .agg #[.int .i64 0, .int .i64 0]) (by simp [results, Tryz.results151, go_sem, t0, t1]) rfl ⟨by rw [HS.out], (hB.setCell (by simp) _).setCell (by simp) _⟩
  | true =>
    have CV := iVL a cap hs (w.alloc (.cells #[.int .i64 0, .int .i64 0] 49)) (hs_below HI.out (by go_grown)) hn; rw [hv] at CV
    have HS : Hid (shV hs o = shR hs o) := by show shV hs o = shR hs o; unfold shV; rw [hv]; rfl
    clear hv; go_enter Tryz.func151, Tryz.ntmps151; go_wp2_with fail; refine CV.mono ?_; rintro e w1 ⟨rfl, hb⟩; have hS := (Blk.new w 49 #[.int .i64 0, .int .i64 0]).next hb; have hB := bel_tr ((Below.refl w.heap.size w).alloc (Nat.le_refl _) _) hb; clear hb CV; go_wp2_with fail; refine (ishare a cap hs o _ (hs_below HI.out hB) hn).mono ?_; rintro e w2 ⟨rfl, hb2⟩; obtain ⟨t0, t1, t2, t3, t4⟩ := blk_two (hS.next hb2); have hB2 := bel_tr hB hb2; clear hb2 hS hB
    obtain ⟨x, hx⟩ : ∃ x, x = (shR hs o).1 := ⟨_, rfl⟩
    obtain ⟨y, hy⟩ : ∃ y, y = (shR hs o).2 := ⟨_, rfl⟩
    rw [← hx, ← hy]; have HX := Lib.hid hx; have HY := Lib.hid hy; clear hx hy; go_wp2_with fail; exact bodyPost_ret (v := .agg #[.int .i64 x, .int .i64 y]) (by simp [results, Tryz.results151, go_sem, t0, t1]) rfl ⟨by rw [HS.out, HX.out, HY.out], (hB2.setCell (by simp) _).setCell (by simp) _⟩
theorem iSubQ {an ad bn bd x y : Int} {b : Bool} (w : World) (hb : (Wsh.vfB an ad && Wsh.vfB bn bd && Wsh.redB (an * bd - bn * ad) (ad * bd)) = b) (hx : Wsh.rn (an * bd - bn * ad) (ad * bd) = x) (hy : Wsh.rd (an * bd - bn * ad) (ad * bd) = y) :
  Calls Tryz.prog 160 #[.agg #[.int .i64 an, .int .i64 ad], .agg #[.int .i64 bn, .int .i64 bd]] w fun e w' => e = .returned (.tuple #[.agg #[.int .i64 (Wsh.qn b x), .int .i64 (Wsh.qn b y)], .bool b]) ∧ Below w.heap.size w w' := by
 have := iSub an ad bn bd w; rw [hb, hx, hy] at this; exact this
theorem iAddB {an ad bn bd x y : Int} {b : Bool} (w : World) (hb : (Wsh.vfB an ad && Wsh.vfB bn bd && Wsh.redB (an * bd + bn * ad) (ad * bd)) = b) (hx : Wsh.rn (an * bd + bn * ad) (ad * bd) = x) (hy : Wsh.rd (an * bd + bn * ad) (ad * bd) = y) :
  Calls Tryz.prog 101 #[.agg #[.int .i64 an, .int .i64 ad], .agg #[.int .i64 bn, .int .i64 bd]] w fun e w' => e = .returned (.tuple #[.agg #[.int .i64 (Wsh.qn b x), .int .i64 (Wsh.qn b y)], .bool b]) ∧ Below w.heap.size w w' := by
 have := iAdd an ad bn bd w; rw [hb, hx, hy] at this; exact this
theorem sub_led {L : Led} (hf : ∀ x ∈ L, frB x.2 = true) (o : Int) {p : Rat} (hp : frB p = true) :
  (Wsh.vfB (shareL L o).num ((shareL L o).den : Int) && Wsh.vfB p.num (p.den : Int) && Wsh.redB ((shareL L o).num * (p.den : Int) - p.num * ((shareL L o).den : Int)) (((shareL L o).den : Int) * (p.den : Int))) = frB (shareL L o - p) ∧
  Wsh.rn ((shareL L o).num * (p.den : Int) - p.num * ((shareL L o).den : Int)) (((shareL L o).den : Int) * (p.den : Int)) = (shareL L o - p).num ∧ Wsh.rd ((shareL L o).num * (p.den : Int) - p.num * ((shareL L o).den : Int)) (((shareL L o).den : Int) * (p.den : Int)) = ((shareL L o - p).den : Int) := by
 obtain ⟨a, b, c⟩ := sub_red (shareL L o) p; exact ⟨by rw [q_vf (share_frA hf o), q_vf hp, a]; rfl, b, c⟩
theorem add_led {L : Led} (hf : ∀ x ∈ L, frB x.2 = true) (o : Int) {p : Rat} (hp : frB p = true) :
  (Wsh.vfB (shareL L o).num ((shareL L o).den : Int) && Wsh.vfB p.num (p.den : Int) && Wsh.redB ((shareL L o).num * (p.den : Int) + p.num * ((shareL L o).den : Int)) (((shareL L o).den : Int) * (p.den : Int))) = frB (shareL L o + p) ∧
  Wsh.rn ((shareL L o).num * (p.den : Int) + p.num * ((shareL L o).den : Int)) (((shareL L o).den : Int) * (p.den : Int)) = (shareL L o + p).num ∧ Wsh.rd ((shareL L o).num * (p.den : Int) + p.num * ((shareL L o).den : Int)) (((shareL L o).den : Int) * (p.den : Int)) = ((shareL L o + p).den : Int) := by
 obtain ⟨a, b, c⟩ := add_red (shareL L o) p; exact ⟨by rw [q_vf (share_frA hf o), q_vf hp, a]; rfl, b, c⟩
theorem ishareL (a : Option Addr) (cap : Nat) (L : Led) (hs : List Hd) (o : Int) (w : World) (h : IsHs w a hs) (hh : hs = rawL L) (hn : hs.length ≤ 1048576) :
  Calls Tryz.prog 161 #[.slice a hs.length cap, .int .i64 o] w fun e w' => e = .returned (.agg #[.int .i64 (shareL L o).num, .int .i64 ((shareL L o).den : Int)]) ∧ Below w.heap.size w w' := by
 have := ishare a cap hs o w h hn; unfold ShareV at this; rw [hh, shR_raw] at this; rw [hh]; exact this
theorem keepM {w W wq : World} {x y : Value} (hb : Below W.heap.size W wq) (h : W.cell? ⟨w.heap.size, 0, none⟩ = some x ∧ W.cell? ⟨w.heap.size, 1, none⟩ = some y ∧ Below w.heap.size w W) : wq.cell? ⟨w.heap.size, 0, none⟩ = some x ∧ wq.cell? ⟨w.heap.size, 1, none⟩ = some y ∧ Below w.heap.size w wq :=
 ⟨(hb.cell (World.block_lt_of_cell? W _ h.1)).trans h.1, (hb.cell (World.block_lt_of_cell? W _ h.2.1)).trans h.2.1, bel_tr h.2.2 hb⟩
theorem keepMset {w W : World} {x y u v : Value} {b : Nat} (h : W.cell? ⟨w.heap.size, 0, none⟩ = some x ∧ W.cell? ⟨w.heap.size, 1, none⟩ = some y ∧ Below w.heap.size w W) (hlt : w.heap.size < b) : ((W.setCell ⟨b, 0, none⟩ u).setCell ⟨b, 1, none⟩ v).cell? ⟨w.heap.size, 0, none⟩ = some x ∧ ((W.setCell ⟨b, 0, none⟩ u).setCell ⟨b, 1, none⟩ v).cell? ⟨w.heap.size, 1, none⟩ = some y ∧ Below w.heap.size w ((W.setCell ⟨b, 0, none⟩ u).setCell ⟨b, 1, none⟩ v) := by
 have hq : ∀ (V : World) (k l : Nat) (z : Value), (V.setCell ⟨b, k, none⟩ z).cell? ⟨w.heap.size, l, none⟩ = V.cell? ⟨w.heap.size, l, none⟩ := fun V k l z => World.cell?_setCell_other V _ _ z (fun e => by injection e with e; omega)
 exact ⟨by rw [hq, hq]; exact h.1, by rw [hq, hq]; exact h.2.1, (h.2.2.setCell (Nat.le_of_lt hlt) _).setCell (Nat.le_of_lt hlt) _⟩
theorem keepMR {w W : World} {x y : Value} {o o' : Obj} (h : (W.alloc o).cell? ⟨w.heap.size, 0, none⟩ = some x ∧ (W.alloc o).cell? ⟨w.heap.size, 1, none⟩ = some y ∧ Below w.heap.size w (W.alloc o)) (hB : Below w.heap.size w W) (hlt : w.heap.size < W.heap.size) : (W.alloc o').cell? ⟨w.heap.size, 0, none⟩ = some x ∧ (W.alloc o').cell? ⟨w.heap.size, 1, none⟩ = some y ∧ Below w.heap.size w (W.alloc o') := by
 have e : ∀ (l : Nat) (o : Obj), (W.alloc o).cell? ⟨w.heap.size, l, none⟩ = W.cell? ⟨w.heap.size, l, none⟩ := fun l o => World.cell?_alloc_lt W o ⟨w.heap.size, l, none⟩ hlt
 rw [e, e] at h; exact ⟨by rw [e]; exact h.1, by rw [e]; exact h.2.1, hB.alloc (Nat.le_of_lt hlt) _⟩
theorem blk_second (w : World) (o : Obj) (t : TypeId) (cs : Array Value) : Blk ((w.alloc o).alloc (.cells cs t)) (w.heap.size + 1) t cs := by
 have := Blk.new (w.alloc o) t cs; rw [World.size_alloc] at this; exact this
def MoveV (w : World) (b : Bool) (L : Led) (e : Ending) (w' : World) : Prop := ∃ v, e = .returned (.tuple #[v, .bool b]) ∧ (b = false → v = .slice none 0 0) ∧ (b = true → OwnH w' w.heap.size v (rawL L)) ∧ Below w.heap.size w w'
theorem iwith0 (a : Option Addr) (cap : Nat) (o n d : Int) (q : Rat) (w : World) (hq : shareIs n d q) (h0 : 0 ≤ n) :
  Calls Tryz.prog 154 #[.slice a 0 cap, .int .i64 o, .agg #[.int .i64 n, .int .i64 d]] w (NewH w (rawL (setL [] o q))) := by
 obtain ⟨i0, hi0, hz0, hz1, hz2⟩ := info_parts infoH; have hw := with_raw (L := []) List.Pairwise.nil (hs := []) rfl hq (k := 0) (o := o) (Nat.le_refl _) (fun j hj => by omega) (fun c => absurd c (by simp)) (s := 0) (by simp); have HR : Hid (Reads w w.heap.size 3 a 0 (valsH [])) := hs_reads (.inl rfl); clear hq
 by_cases hz : n = 0
 ·have HW : Hid (rawL (setL [] o q) = []) := by show _ = _; rw [hw, if_pos hz]; rfl
  have hz' : ¬ 0 < n := by omega
  clear hw hz; go_enter Tryz.func154, Tryz.ntmps154; go_wp2_with fail; refine wp_loop_rounds 1 ?_; rw [rounds_succ]; go_wp2_with fail; refine (icopyN 0 _ _ [] _ (.inl rfl) rfl (by omega)).mono ?_; rintro e w1 ⟨v1, rfl, hO1, hb⟩; have hB1 : Below w.heap.size w w1 := bel_tr (by go_grown) hb; obtain ⟨t0, t1, t2, t3, t4⟩ := blk_two ((Blk.new w 49 #[.int .i64 n, .int .i64 d]).next hb)
  have hO1' : w1.ownsRow (w.heap.size + 1) 103 3 v1 0 (valsH []) := by
   have := hO1; unfold OwnH at this; rw [World.size_alloc] at this; exact this
  clear hO1 hb
  by_cases hck : cap = 0
  ·go_wp2_with (first | (at_builtin; refine wpList_append_any _ rfl (.tmp 52) (.tmp 55) _ rfl (w.heap.size + 1) 103 i0 _ 3 24 Tryz.underlying39 hi0 hz0 hz1 hz2 rfl (by omega) v1 0 (valsH []) rfl hO1' w.heap.size _ 0 _ (valsH []) (by rfl) ⟨rfl, fun h => absurd h (by omega)⟩ (vals_one _) (by unfold maxLen; omega) (by omega) (by omega) ?_; intro v3 w3 hown3 hg3 hat3))
   go_ret; exact ⟨v3, rfl, by rw [HW.out]; exact own_base hown3, hB1.grown hg3 hB1.size (fun q hq => by have := (hO1'.lt q hq).1; omega)⟩
  ·go_wp2_with (first | (at_builtin; refine wpList_append_any _ rfl (.tmp 52) (.tmp 55) _ rfl (w.heap.size + 1) 103 i0 _ 3 24 Tryz.underlying39 hi0 hz0 hz1 hz2 rfl (by omega) v1 0 (valsH []) rfl hO1' w.heap.size _ 0 _ (valsH []) (by rfl) ⟨rfl, fun h => absurd h (by omega)⟩ (vals_one _) (by unfold maxLen; omega) (by omega) (by omega) ?_; intro v3 w3 hown3 hg3 hat3))
   go_ret; exact ⟨v3, rfl, by rw [HW.out]; exact own_base hown3, hB1.grown hg3 hB1.size (fun q hq => by have := (hO1'.lt q hq).1; omega)⟩
 ·have HW : Hid (rawL (setL [] o q) = [(o, n, d)]) := by show _ = _; rw [hw, if_neg hz]; rfl
  have hz' : 0 < n := by omega
  clear hw hz; go_enter Tryz.func154, Tryz.ntmps154; go_wp2_with fail; refine wp_loop_rounds 1 ?_; rw [rounds_succ]; go_wp2_with fail; refine (icopyN 0 _ _ [] _ (.inl rfl) rfl (by omega)).mono ?_; rintro e w1 ⟨v1, rfl, hO1, hb⟩; have hB1 : Below w.heap.size w w1 := bel_tr (by go_grown) hb; obtain ⟨t0, t1, t2, t3, t4⟩ := blk_two ((Blk.new w 49 #[.int .i64 n, .int .i64 d]).next hb)
  have hO1' : w1.ownsRow (w.heap.size + 1) 103 3 v1 0 (valsH []) := by
   have := hO1; unfold OwnH at this; rw [World.size_alloc] at this; exact this
  clear hO1 hb
  by_cases hck : cap = 0
  ·go_wp2_with (first | (at_builtin; refine wpList_append_own _ rfl (.tmp 31) (.tmp 35) _ rfl (w.heap.size + 1) 103 i0 _ 3 24 Tryz.underlying39 hi0 hz0 hz1 hz2 rfl (by decide) v1 0 (valsH []) rfl (hO1'.alloc _) ⟨w1.heap.size, 0, none⟩ 1 1 [.int .i64 o, .int .i64 n, .int .i64 d] rfl rfl (new_cells w1 _ _) (vals_one [(o, n, d)]) (by unfold maxLen; omega) (by omega) (by simp; omega) ?_; intro v2 w2 hO2 hg2 hat2; have BB : Below w.heap.size w w2 := (hB1.alloc hB1.size _).grown hg2 (by simp; omega) (fun q hq => by have := (hO1'.lt q hq).1; omega); have hzz : w1.heap.size + 1 ≤ w2.heap.size := (by have := hg2.size; simpa using this)) | (at_builtin; refine wpList_append_any _ rfl (.tmp 52) (.tmp 55) _ rfl (w.heap.size + 1) 103 i0 _ 3 24 Tryz.underlying39 hi0 hz0 hz1 hz2 rfl (by omega) v2 (0 + 1) (valsH [] ++ [.int .i64 o, .int .i64 n, .int .i64 d]) rfl hO2 w.heap.size _ 0 _ (valsH []) (by rfl) ⟨rfl, fun h => absurd h (by omega)⟩ (vals_one _) (by unfold maxLen; omega) (by omega) (by omega) ?_; intro v3 w3 hown3 hg3 hat3))
   go_ret; exact ⟨v3, rfl, by rw [HW.out]; exact own_base hown3, BB.grown hg3 BB.size (fun q hq => by have := (hO2.lt q hq).1; omega)⟩
  ·go_wp2_with (first | (at_builtin; refine wpList_append_own _ rfl (.tmp 31) (.tmp 35) _ rfl (w.heap.size + 1) 103 i0 _ 3 24 Tryz.underlying39 hi0 hz0 hz1 hz2 rfl (by decide) v1 0 (valsH []) rfl (hO1'.alloc _) ⟨w1.heap.size, 0, none⟩ 1 1 [.int .i64 o, .int .i64 n, .int .i64 d] rfl rfl (new_cells w1 _ _) (vals_one [(o, n, d)]) (by unfold maxLen; omega) (by omega) (by simp; omega) ?_; intro v2 w2 hO2 hg2 hat2; have BB : Below w.heap.size w w2 := (hB1.alloc hB1.size _).grown hg2 (by simp; omega) (fun q hq => by have := (hO1'.lt q hq).1; omega); have hzz : w1.heap.size + 1 ≤ w2.heap.size := (by have := hg2.size; simpa using this)) | (at_builtin; refine wpList_append_any _ rfl (.tmp 52) (.tmp 55) _ rfl (w.heap.size + 1) 103 i0 _ 3 24 Tryz.underlying39 hi0 hz0 hz1 hz2 rfl (by omega) v2 (0 + 1) (valsH [] ++ [.int .i64 o, .int .i64 n, .int .i64 d]) rfl hO2 w.heap.size _ 0 _ (valsH []) (by rfl) ⟨rfl, fun h => absurd h (by omega)⟩ (vals_one _) (by unfold maxLen; omega) (by omega) (by omega) ?_; intro v3 w3 hown3 hg3 hat3))
   go_ret; exact ⟨v3, rfl, by rw [HW.out]; exact own_base hown3, BB.grown hg3 BB.size (fun q hq => by have := (hO2.lt q hq).1; omega)⟩
theorem iwithA (a : Option Addr) (cap : Nat) (L : Led) (hs : List Hd) (o n d : Int) (q : Rat) (w : World) (h : IsHs w a hs) (hh : hs = rawL L) (hn : hs.length ≤ 1000) (ha : Asc L) (hq : shareIs n d q) (h0 : 0 ≤ n) (hc : hs.length ≤ cap) :
  Calls Tryz.prog 154 #[.slice a hs.length cap, .int .i64 o, .agg #[.int .i64 n, .int .i64 d]] w (NewH w (rawL (setL L o q))) := by
 rcases h with he | ⟨g, off, rfl, hcc⟩
 ·have hL : L = [] := by
   have := congrArg List.length hh; rw [he, raw_len] at this; exact List.eq_nil_of_length_eq_zero this.symm
  subst hL; subst he; exact iwith0 a cap o n d q w hq h0
 ·exact iwith g off cap L hs o n d q w hcc hh hn ha hq h0 hc
theorem own_le {w : World} {base base' : Nat} {v : Value} {hs : List Hd} (h : OwnH w base' v hs) (hb : base ≤ base') : OwnH w base v hs := by
 refine ⟨h.1, ?_⟩
 rcases h.2 with h | ⟨g, cap, cur, a, b, c⟩
 ·exact .inl h
 ·exact .inr ⟨g, cap, cur, a, Nat.le_trans hb b, c⟩
theorem own_hs2 {w : World} {base : Nat} {v : Value} {hs : List Hd} (h : OwnH w base v hs) : ∃ (b : Option Addr) (cap : Nat), v = .slice b hs.length cap ∧ IsHs w b hs ∧ hs.length ≤ cap := by
 have h0 := h
 rcases h.2 with ⟨hv, hn⟩ | ⟨g, cap, cur, hv, _, _, hnc, _⟩
 ·exact ⟨none, 0, by rw [hv, hn], .inl (List.eq_nil_of_length_eq_zero hn), by omega⟩
 ·subst hv
  exact ⟨some ⟨g, 0, none⟩, cap, rfl, reads_hs (Reads.of_own h0) (fun ad e => by injection e with e; rw [← e]), hnc⟩
theorem igain (a : Option Addr) (cap : Nat) (L : Led) (hs : List Hd) (o pn pd : Int) (p : Rat) (w : World) (hcc : IsHs w a hs) (hh : hs = rawL L) (hn : hs.length ≤ 1000) (ha : Asc L) (hf : ∀ x ∈ L, frB x.2 = true) (hp : frB p = true) (hpn : pn = p.num) (hpd : pd = (p.den : Int)) (hc : hs.length ≤ cap) :
    Calls Tryz.prog 162 #[.slice a hs.length cap, .int .i64 o, .agg #[.int .i64 pn, .int .i64 pd]] w (MoveV w (frB (shareL L o + p)) (setL L o (shareL L o + p))) := by
  obtain ⟨a1, a2, a3⟩ := add_led hf o hp; have A1 := Lib.hid a1; have A2 := Lib.hid a2; have A3 := Lib.hid a3; have HI := Lib.hid hcc; have HH := Lib.hid hh; have HA := Lib.hid ha; rw [← hpn, ← hpd] at A1 A2 A3; have hnn := frB_nonneg (share_frA hf o); have hpp := frB_nonneg hp; have HN : Hid (0 ≤ (shareL L o + p).num) := Rat.num_nonneg.2 (by grind); clear a1 a2 a3 hcc hh ha hf hpn hpd hnn hpp; generalize hb : frB (shareL L o + p) = b at A1; clear hb; have HC := Lib.hid hc; clear hc; go_enter Tryz.func162, Tryz.ntmps162
  go_upto_region 1 with fail
  go_cut [8, 9] (fun sx sy wx => ∃ k : Nat, sx = .pointer (some ⟨k, 0, none⟩) ∧ sy = .bool b ∧ Blk wx k 49 #[.int .i64 (Wsh.qn b (shareL L o + p).num), .int .i64 (Wsh.qn b ((shareL L o + p).den : Int))] ∧ w.heap.size < k ∧ wx.cell? ⟨w.heap.size, 0, none⟩ = some (.int .i64 pn) ∧ wx.cell? ⟨w.heap.size, 1, none⟩ = some (.int .i64 pd) ∧ Below w.heap.size w wx)
  case first =>
    go_region_held3 (fun w' => w'.cell? ⟨w.heap.size, 0, none⟩ = some (.int .i64 pn) ∧ w'.cell? ⟨w.heap.size, 1, none⟩ = some (.int .i64 pd) ∧ Below w.heap.size w w') (first | (exact keepM hb (by assumption)) | (exact keepM ((Below.refl _ _).alloc (Nat.le_refl _) _) (by assumption)) | (exact keepMR (by assumption) hBq (by omega)) | (exact keepMset (by assumption) (by first | omega | (simp; omega))) | (refine ⟨?_, ?_, ?_⟩ <;> first | (go_keep; done) | (go_grown; done)))
      (first | (go_at_call 161; refine (ishareL _ _ L hs o _ (hs_below HI.out (And.right (And.right (by assumption)))) HH.out (by omega)).mono ?_; rintro e wq ⟨rfl, hb⟩; have hBq := (keepM hb (by assumption)).2.2; obtain ⟨hc, hf⟩ := bcell hb; have hzz := hb.size; (try simp only [World.size_alloc] at hzz); (try simp only [World.size_drew] at hzz); (try simp only [World.size_alloc] at hzz); (try simp only [Nat.add_one_le_iff] at hzz); (try have hq : w.heap.size + 1 < wq.heap.size := by omega); (try have hq3 : w.heap.size < wq.heap.size := by omega)) | (go_at_call 101; refine (iAddB _ A1.out A2.out A3.out).mono ?_; rintro e wq ⟨rfl, hb⟩; have hBq := (keepM hb (by assumption)).2.2; obtain ⟨hc, hf⟩ := bcell hb; have hzz := hb.size; (try simp only [World.size_alloc] at hzz); (try simp only [World.size_drew] at hzz); (try simp only [World.size_alloc] at hzz); (try simp only [Nat.add_one_le_iff] at hzz); (try have hq : w.heap.size + 1 < wq.heap.size := by omega); (try have hq3 : w.heap.size < wq.heap.size := by omega)))
    all_goals
      have hS := ‹_ ∧ _›; go_wp2_with fail
      go_meet
      first
      | exact ⟨_, rfl, rfl, Blk.new _ _ _, by omega, hS.1, hS.2.1, hS.2.2⟩
      | exact ⟨_, rfl, rfl, ((Blk.new _ _ _).next hb).two _ _, by omega, hS.1, hS.2.1, hS.2.2⟩
      | exact ⟨_, rfl, rfl, (((blk_second w _ _ _).next (by assumption)).next hb).two _ _, by omega, hS.1, hS.2.1, hS.2.2⟩
      | exact ⟨_, rfl, rfl, (((blk_second w _ _ _).drew.next (by assumption)).next hb).two _ _, by omega, hS.1, hS.2.1, hS.2.2⟩
  case rest =>
    obtain ⟨k, rfl, rfl, hblk, hk, c0, c1, hB⟩ := hcut; obtain ⟨t0, t1, t2, t3, t4⟩ := blk_two hblk
    cases b with
    | false =>
      go_wp2_with fail
      go_returns
      exact ⟨_, rfl, (fun _ => rfl), (fun c => by cases c), hB⟩
    | true =>
      rw [Wsh.qn_true] at t0 t1; go_wp2_with fail; refine (iwithA a cap L hs o _ _ (shareL L o + p) _ (hs_below HI.out hB) HH.out hn HA.out (.inl ⟨rfl, rfl⟩) HN.out HC.out).mono ?_; rintro e w2 ⟨v, rfl, hO, hb⟩; go_wp2_with fail
      go_returns
      exact ⟨v, rfl, (fun c => by cases c), (fun _ => own_le hO hB.size), bel_tr hB hb⟩
theorem keepN {w W wq : World} {x y u v : Value} {k : Nat} (hb : Below W.heap.size W wq) (h : W.cell? ⟨w.heap.size, 0, none⟩ = some x ∧ W.cell? ⟨w.heap.size, 1, none⟩ = some y ∧ W.cell? ⟨k, 0, none⟩ = some u ∧ W.cell? ⟨k, 1, none⟩ = some v ∧ Below w.heap.size w W) : wq.cell? ⟨w.heap.size, 0, none⟩ = some x ∧ wq.cell? ⟨w.heap.size, 1, none⟩ = some y ∧ wq.cell? ⟨k, 0, none⟩ = some u ∧ wq.cell? ⟨k, 1, none⟩ = some v ∧ Below w.heap.size w wq := by
 have n : ∀ {p : Addr} {v : Value}, W.cell? p = some v → wq.cell? p = some v := fun h => (hb.cell (World.block_lt_of_cell? W _ h)).trans h
 exact ⟨n h.1, n h.2.1, n h.2.2.1, n h.2.2.2.1, bel_tr h.2.2.2.2 hb⟩
theorem keepNb {w W : World} {x y u v : Value} {k : Nat} (h : W.cell? ⟨w.heap.size, 0, none⟩ = some x ∧ W.cell? ⟨w.heap.size, 1, none⟩ = some y ∧ W.cell? ⟨k, 0, none⟩ = some u ∧ W.cell? ⟨k, 1, none⟩ = some v ∧ Below w.heap.size w W) : Below w.heap.size w W := h.2.2.2.2
theorem imove (a : Option Addr) (cap : Nat) (L : Led) (hs : List Hd) (fr tt pn pd : Int) (p : Rat) (w : World) (hcc : IsHs w a hs) (hh : hs = rawL L) (hn : hs.length ≤ 900) (ha : Asc L) (hf : ∀ x ∈ L, frB x.2 = true) (hp : frB p = true) (hpn : pn = p.num) (hpd : pd = (p.den : Int)) (hc : hs.length ≤ cap) :
    Calls Tryz.prog 150 #[.slice a hs.length cap, .int .i64 fr, .int .i64 tt, .agg #[.int .i64 pn, .int .i64 pd]] w (MoveV w (frB (shareL L fr - p) && frB (shareL (setL L fr (shareL L fr - p)) tt + p)) (setL (setL L fr (shareL L fr - p)) tt (shareL (setL L fr (shareL L fr - p)) tt + p))) := by
  obtain ⟨a1, a2, a3⟩ := sub_led hf fr hp; have A1 := Lib.hid a1; have A2 := Lib.hid a2; have A3 := Lib.hid a3; have HI := Lib.hid hcc; have HH := Lib.hid hh; have HA := Lib.hid ha; have HF := Lib.hid hf; have HP := Lib.hid hp; have HPn := Lib.hid hpn; have HPd := Lib.hid hpd; rw [← hpn, ← hpd] at A1 A2 A3; clear a1 a2 a3 hcc hh ha hf hp hpn hpd
  obtain ⟨b, hb⟩ : ∃ b, frB (shareL L fr - p) = b := ⟨_, rfl⟩
  rw [hb] at A1 ⊢; have HB := Lib.hid hb; clear hb; have HC := Lib.hid hc; clear hc; go_enter Tryz.func150, Tryz.ntmps150
  go_upto_region 1 with fail
  go_cut [10, 11] (fun sx sy wx => ∃ k : Nat, sx = .pointer (some ⟨k, 0, none⟩) ∧ sy = .bool b ∧ Blk wx k 49 #[.int .i64 (Wsh.qn b (shareL L fr - p).num), .int .i64 (Wsh.qn b ((shareL L fr - p).den : Int))] ∧ w.heap.size < k ∧ wx.cell? ⟨w.heap.size, 0, none⟩ = some (.int .i64 pn) ∧ wx.cell? ⟨w.heap.size, 1, none⟩ = some (.int .i64 pd) ∧ Below w.heap.size w wx)
  case first =>
    go_region_held3 (fun w' => w'.cell? ⟨w.heap.size, 0, none⟩ = some (.int .i64 pn) ∧ w'.cell? ⟨w.heap.size, 1, none⟩ = some (.int .i64 pd) ∧ Below w.heap.size w w') (first | (exact keepM hb (by assumption)) | (exact keepM ((Below.refl _ _).alloc (Nat.le_refl _) _) (by assumption)) | (exact keepMR (by assumption) hBq (by omega)) | (exact keepMset (by assumption) (by first | omega | (simp; omega))) | (refine ⟨?_, ?_, ?_⟩ <;> first | (go_keep; done) | (go_grown; done)))
      (first | (go_at_call 161; refine (ishareL _ _ L hs fr _ (hs_below HI.out (And.right (And.right (by assumption)))) HH.out (by omega)).mono ?_; rintro e wq ⟨rfl, hb⟩; have hBq := (keepM hb (by assumption)).2.2; obtain ⟨hc, hf⟩ := bcell hb; have hzz := hb.size; (try simp only [World.size_alloc] at hzz); (try simp only [World.size_drew] at hzz); (try simp only [World.size_alloc] at hzz); (try simp only [Nat.add_one_le_iff] at hzz); (try have hq : w.heap.size + 1 < wq.heap.size := by omega); (try have hq3 : w.heap.size < wq.heap.size := by omega)) | (go_at_call 160; refine (iSubQ _ A1.out A2.out A3.out).mono ?_; rintro e wq ⟨rfl, hb⟩; have hBq := (keepM hb (by assumption)).2.2; obtain ⟨hc, hf⟩ := bcell hb; have hzz := hb.size; (try simp only [World.size_alloc] at hzz); (try simp only [World.size_drew] at hzz); (try simp only [World.size_alloc] at hzz); (try simp only [Nat.add_one_le_iff] at hzz); (try have hq : w.heap.size + 1 < wq.heap.size := by omega); (try have hq3 : w.heap.size < wq.heap.size := by omega)))
    all_goals
      have hS := ‹_ ∧ _›; go_wp2_with fail
      go_meet
      first
      | exact ⟨_, rfl, rfl, Blk.new _ _ _, by omega, hS.1, hS.2.1, hS.2.2⟩
      | exact ⟨_, rfl, rfl, ((Blk.new _ _ _).next hb).two _ _, by omega, hS.1, hS.2.1, hS.2.2⟩
      | exact ⟨_, rfl, rfl, (((blk_second w _ _ _).next (by assumption)).next hb).two _ _, by omega, hS.1, hS.2.1, hS.2.2⟩
      | exact ⟨_, rfl, rfl, (((blk_second w _ _ _).drew.next (by assumption)).next hb).two _ _, by omega, hS.1, hS.2.1, hS.2.2⟩
  case rest =>
    obtain ⟨k, rfl, rfl, hblk, hk, c0, c1, hB⟩ := hcut; obtain ⟨t0, t1, t2, t3, t4⟩ := blk_two hblk
    cases b with
    | false =>
      go_wp2_with fail
      go_returns
      exact ⟨_, rfl, (fun _ => rfl), (fun c => by cases c), hB⟩
    | true =>
      rw [Wsh.qn_true] at t0 t1; have H1 : Hid (∀ x ∈ setL L fr (shareL L fr - p), frB x.2 = true) := fr_set HF.out fr HB.out; have H2 : Hid (Asc (setL L fr (shareL L fr - p))) := asc_set HA.out _ _; have H0 : Hid (0 ≤ (shareL L fr - p).num) := Rat.num_nonneg.2 (frB_nonneg HB.out)
      have H3 : (rawL (setL L fr (shareL L fr - p))).length ≤ 1000 := by
        rw [raw_len]; have := set_len (L := L) fr (shareL L fr - p); have e := congrArg List.length HH.out; rw [raw_len] at e
        omega
      generalize hL1 : setL L fr (shareL L fr - p) = L1 at H1 H2 H3 ⊢; have HL1 := Lib.hid hL1; clear hL1; go_wp2_with fail
      go_region_held3 (fun w' => w'.cell? ⟨w.heap.size, 0, none⟩ = some (.int .i64 pn) ∧ w'.cell? ⟨w.heap.size, 1, none⟩ = some (.int .i64 pd) ∧ w'.cell? ⟨k, 0, none⟩ = some (.int .i64 (shareL L fr - p).num) ∧ w'.cell? ⟨k, 1, none⟩ = some (.int .i64 ((shareL L fr - p).den : Int)) ∧ Below w.heap.size w w') (first | (exact keepN hb (by assumption)) | (refine ⟨?_, ?_, ?_, ?_, ?_⟩ <;> first | (go_keep; done) | exact hB.drew))
        (first | (go_at_call 154; refine (iwithA a cap L hs fr _ _ (shareL L fr - p) _ (hs_below HI.out (keepNb (by assumption))) HH.out (by omega) HA.out (.inl ⟨rfl, rfl⟩) H0.out HC.out).mono ?_; rintro e wq ⟨v1, rfl, hO, hb⟩; have hsz1 := hb.size; rw [HL1.out] at hO; obtain ⟨b1, cp1, rfl, hI1, hc1⟩ := own_hs2 hO) | (go_at_call 162; refine (igain _ _ L1 _ tt _ _ p _ hI1 rfl H3 H2.out H1.out HP.out HPn.out HPd.out hc1).mono ?_; rintro e wq2 ⟨v2, rfl, m1, m2, hb⟩))
      go_wp2_with fail
      go_returns
      rw [HL1.out, Bool.true_and]; exact ⟨v2, rfl, m1, (fun c => own_le (m2 c) (Nat.le_trans hB.size hsz1)), keepNb (by assumption)⟩
def okH (zs : List Int) (owner : Int) (k : Nat) : Bool := decide (1 ≤ zs.getD k 0) && decide (zs.getD k 0 ≤ 999) && decide (zs.getD k 0 ≠ owner) && decide (zs.getD k 0 ∉ zs.take k)
def heirsB (zs : List Int) (owner : Int) : Bool := decide (1 ≤ zs.length) && decide (zs.length ≤ 12) && (List.range zs.length).all (okH zs owner)
theorem okH_def (zs : List Int) (owner : Int) (k : Nat) : okH zs owner k = (decide (1 ≤ zs.getD k 0) && decide (zs.getD k 0 ≤ 999) && decide (zs.getD k 0 ≠ owner) && decide (zs.getD k 0 ∉ zs.take k)) := rfl
theorem heirs_no1 {zs : List Int} {owner : Int} (h : zs.length < 1 ∨ 12 < zs.length) : heirsB zs owner = false := by
 unfold heirsB
 rcases h with h | h
 ·rw [decide_eq_false (by omega : ¬ 1 ≤ zs.length)]; rfl
 ·rw [decide_eq_false (by omega : ¬ zs.length ≤ 12)]; simp
theorem heirs_no2 {zs : List Int} {owner : Int} {k : Nat} (hk : k < zs.length) (h : okH zs owner k = false) : heirsB zs owner = false := by
 unfold heirsB; rw [rng_no hk h]; simp
theorem heirs_yes {zs : List Int} {owner : Int} (h1 : 1 ≤ zs.length) (h2 : zs.length ≤ 12) (h : ∀ j, j < zs.length → okH zs owner j = true) : heirsB zs owner = true := by
 unfold heirsB; rw [decide_eq_true h1, decide_eq_true h2, rng_yes h]; rfl
theorem ints_take {w : World} {a : Option Addr} {zs : List Int} (h : IsInts w a zs) (k : Nat) : IsInts w a (zs.take k) := by
 rcases h with rfl | ⟨g, o, ha, hc⟩
 ·exact .inl (by simp)
 ·refine .inr ⟨g, o, ha, fun i hi => ?_⟩
  rw [List.length_take] at hi
  have e : (zs.take k).getD i 0 = zs.getD i 0 := by rw [List.getD_eq_getElem?_getD, List.getD_eq_getElem?_getD, List.getElem?_take_of_lt (by omega)]
  rw [e]; exact hc i (by omega)
theorem mem_get {zs : List Int} {n : Int} : n ∈ zs ↔ ∃ j, j < zs.length ∧ zs.getD j 0 = n := by
 constructor
 ·intro h
  obtain ⟨i, hi, e⟩ := List.getElem_of_mem h; exact ⟨i, hi, by rw [List.getD_eq_getElem?_getD, List.getElem?_eq_getElem hi]; exact e⟩
 ·rintro ⟨j, hj, e⟩
  rw [← e]; exact getD_mem hj
theorem ihas (a : Option Addr) (cap m : Nat) (zs : List Int) (n : Int) (w : World) (h : IsInts w a zs) (hl : zs.length = m) (hn : m ≤ 1048576) :
  Calls Tryz.prog 163 #[.slice a m cap, .int .i64 n] w fun e w' => e = .returned (.bool (decide (n ∈ zs))) ∧ w = w' := by
 subst hl
 rcases h with rfl | ⟨g, o, rfl, hc⟩
 ·go_enter Tryz.func163, Tryz.ntmps163
  go_wp2
  go_rounds 1
  go_ret; exact ⟨rfl, rfl⟩
 ·have HC := Lib.hid hc
  clear hc; go_enter Tryz.func163, Tryz.ntmps163
  go_wp2
  go_loop [9] (fun i => ∃ k : Nat, k ≤ zs.length ∧ i = .int .i64 k ∧ Hid (∀ j, j < k → zs.getD j 0 ≠ n)) (fun i => zs.length - (intOf i).toNat)
  case atStart => exact ⟨0, Nat.zero_le _, rfl, fun j hj => by omega⟩
  case round =>
   obtain ⟨k, hk, rfl, HK⟩ := hrel
   by_cases hlt : k < zs.length
   ·have hc := HC.out k hlt
    have hy : zs.getD k 0 ≠ n → ∀ j, j < k + 1 → zs.getD j 0 ≠ n := fun e j hj => by
     by_cases ej : j = k
     ·subst ej; exact e
     ·exact HK.out j (by omega)
    have hm : zs.getD k 0 = n → decide (n ∈ zs) = true := fun e => decide_eq_true (mem_get.2 ⟨k, hlt, e⟩)
    generalize zs.getD k 0 = z at hc hy hm; have HY := Lib.hid hy; have HM := Lib.hid hm; clear hy hm
    by_cases e : z = n
    ·have eb : (z == n) = true := by simpa using e
     have HMM := Lib.hid (HM.out e); clear e; go_wp2_with fail; go_ret; exact ⟨ret_bool HMM.out.symm, rfl⟩
    ·have eb : (z == n) = false := by simpa using e
     go_wp2_with fail
     go_round
     case rel => exact ⟨k + 1, by omega, by go_num, HY.out e⟩
     case measure => simp [intOf]; omega
   ·have HN : Hid (decide (n ∈ zs) = false) := by
     show _ = _
     rw [decide_eq_false_iff_not, mem_get]; rintro ⟨j, hj, e⟩; exact HK.out j (by omega) e
    go_wp2_with fail; go_ret; exact ⟨ret_bool HN.out.symm, rfl⟩
def PlaceV (zs : List Int) (n : Int) (w : World) (e : Ending) (w' : World) : Prop := ∃ v : Int, e = .returned (.int .i64 v) ∧ (n ∈ zs → 0 ≤ v) ∧ (n ∉ zs → v = -1) ∧ w = w'
theorem splace (a : Option Addr) (cap m : Nat) (zs : List Int) (n : Int) (w : World) (h : IsInts w a zs) (hl : zs.length = m) (hn : m ≤ 1048576) :
  Calls Tryz.prog 119 #[.slice a m cap, .int .i64 n] w (PlaceV zs n w) := by
 subst hl
 rcases h with rfl | ⟨g, o, rfl, hc⟩
 ·go_enter Tryz.func119, Tryz.ntmps119
  go_wp2
  go_rounds 1
  go_ret; exact ⟨-1, rfl, (fun c => by simp at c), (fun _ => rfl), rfl⟩
 ·have HC := Lib.hid hc
  clear hc; go_enter Tryz.func119, Tryz.ntmps119
  go_wp2
  go_loop [5] (fun i => ∃ k : Nat, k ≤ zs.length ∧ i = .int .i64 k ∧ Hid (∀ j, j < k → zs.getD j 0 ≠ n)) (fun i => zs.length - (intOf i).toNat)
  case atStart => exact ⟨0, Nat.zero_le _, rfl, fun j hj => by omega⟩
  case round =>
   obtain ⟨k, hk, rfl, HK⟩ := hrel
   by_cases hlt : k < zs.length
   ·have hc := HC.out k hlt
    have hy : zs.getD k 0 ≠ n → ∀ j, j < k + 1 → zs.getD j 0 ≠ n := fun e j hj => by
     by_cases ej : j = k
     ·subst ej; exact e
     ·exact HK.out j (by omega)
    have hm : zs.getD k 0 = n → n ∈ zs := fun e => mem_get.2 ⟨k, hlt, e⟩
    generalize zs.getD k 0 = z at hc hy hm; have HY := Lib.hid hy; have HM := Lib.hid hm; clear hy hm
    by_cases e : z = n
    ·have eb : (z == n) = true := by simpa using e
     have HMM := Lib.hid (HM.out e); clear e; go_wp2_with fail; go_ret; exact ⟨(k : Int), rfl, (fun _ => by omega), (fun c => absurd HMM.out c), rfl⟩
    ·have eb : (z == n) = false := by simpa using e
     go_wp2_with fail
     go_round
     case rel => exact ⟨k + 1, by omega, by go_num, HY.out e⟩
     case measure => simp [intOf]; omega
   ·have HN : Hid (n ∉ zs) := by
     show _ ∉ _
     rw [mem_get]; rintro ⟨j, hj, e⟩; exact HK.out j (by omega) e
    go_wp2_with fail; go_ret; exact ⟨-1, rfl, (fun c => absurd c HN.out), (fun _ => rfl), rfl⟩
theorem iheirs (a : Option Addr) (cap : Nat) (zs : List Int) (owner : Int) (w : World) (h : IsInts w a zs) (hn : zs.length ≤ 1048576) (hc : zs.length ≤ cap) :
  Calls Tryz.prog 152 #[.slice a zs.length cap, .int .i64 owner] w fun e w' => e = .returned (.bool (heirsB zs owner)) ∧ w = w' := by
 by_cases hlen : zs.length < 1 ∨ 12 < zs.length
 ·have HN := Lib.hid (heirs_no1 (owner := owner) hlen)
  by_cases h1 : zs.length < 1
  ·clear hlen
   go_enter Tryz.func152, Tryz.ntmps152; go_wp2_with fail; go_ret; exact ⟨ret_bool HN.out.symm, rfl⟩
  ·have h2 : 12 < zs.length := by omega
   clear hlen; go_enter Tryz.func152, Tryz.ntmps152; go_wp2_with fail; go_ret; exact ⟨ret_bool HN.out.symm, rfl⟩
 ·have h1 : 1 ≤ zs.length := by omega
  have h2 : zs.length ≤ 12 := by omega
  have g1 : decide ((zs.length : Int) < 1) = false := by simp; omega
  have g2 : decide (12 < (zs.length : Int)) = false := by simp; omega
  have HI := Lib.hid h
  rcases h with rfl | ⟨g, o, rfl, hcc⟩
  ·simp at h1
  ·have HC := Lib.hid hcc
   clear hcc hlen; go_enter Tryz.func152, Tryz.ntmps152; go_wp2_with fail
   go_loop [17] (fun i => ∃ k : Nat, k ≤ zs.length ∧ i = .int .i64 k ∧ Hid (∀ j, j < k → okH zs owner j = true)) (fun i => zs.length - (intOf i).toNat)
   case atStart => exact ⟨0, Nat.zero_le _, rfl, fun j hj => by omega⟩
   case round =>
    obtain ⟨k, hk, rfl, HK⟩ := hrel
    by_cases hlt : k < zs.length
    ·have hcell := HC.out k hlt
     have hok := okH_def zs owner k
     have hha := fun n (W : World) (hW : IsInts W (some ⟨g, o, none⟩) (zs.take k)) => ihas (some ⟨g, o, none⟩) cap k (zs.take k) n W hW (by rw [List.length_take]; omega) (by omega)
     have HT := Lib.hid (ints_take HI.out k); generalize zs.getD k 0 = z at hcell hok; have HO := Lib.hid hok; have HH := Lib.hid hha; clear hok hha
     have hno : okH zs owner k = false → heirsB zs owner = false := fun e => heirs_no2 hlt e
     have HNO := Lib.hid hno; clear hno
     by_cases hr : z < 1 ∨ 999 < z
     ·have HN : Hid (heirsB zs owner = false) := HNO.out (by rw [HO.out]; simp; omega)
      go_wp2_with fail; refine (iowner_no z _ hr).mono ?_; rintro e w' ⟨rfl, rfl⟩; go_wp2_with fail; go_ret; exact ⟨ret_bool HN.out.symm, rfl⟩
     ·have r1 : 1 ≤ z := by omega
      have r2 : z ≤ 999 := by omega
      clear hr
      by_cases ho : z = owner
      ·have HN : Hid (heirsB zs owner = false) := HNO.out (by rw [HO.out]; simp [ho])
       have eb : (z == owner) = true := by simpa using ho
       clear ho; go_wp2_with fail; refine (iowner_yes z _ r1 r2).mono ?_; rintro e w' ⟨rfl, rfl⟩; go_wp2_with fail; go_ret; exact ⟨ret_bool HN.out.symm, rfl⟩
      ·have eb : (z == owner) = false := by simpa using ho
       have HOw := Lib.hid ho; clear ho; go_wp2_with fail; refine (iowner_yes z _ r1 r2).mono ?_; rintro e w' ⟨rfl, rfl⟩; go_wp2_with fail; refine (HH.out z _ HT.out).mono ?_; rintro e w' ⟨rfl, rfl⟩
       by_cases hm : z ∈ zs.take k
       ·have HN : Hid (heirsB zs owner = false) := HNO.out (by rw [HO.out]; simp [hm])
        rw [decide_eq_true hm]; clear hm; go_wp2_with fail; go_ret; exact ⟨ret_bool HN.out.symm, rfl⟩
       ·have HY : Hid (∀ j, j < k + 1 → okH zs owner j = true) := rng_more HK.out (by rw [HO.out, decide_eq_true r1, decide_eq_true r2, decide_eq_true HOw.out, decide_eq_true hm]; rfl)
        rw [decide_eq_false hm]; clear hm; go_wp2_with fail
        go_round
        case rel => exact ⟨k + 1, by omega, by go_num, HY.out⟩
        case measure => simp [intOf]; omega
    ·have HN : Hid (heirsB zs owner = true) := heirs_yes h1 h2 (fun j hj => HK.out j (by omega))
     go_wp2_with fail; go_ret; exact ⟨ret_bool HN.out.symm, rfl⟩


theorem lszI (A : Option Addr) (n cap : Nat) (L : Int) (w : World) (h0 : 0 ≤ L) (h1 : L ≤ 1048576) (hn : n ≤ 9223372036854775807) :
  Calls Tryz.prog 46 #[.slice A n cap, .int .i64 L] w fun e w' => e = .returned (.int .i64 (if L - (n : Int) < 0 then -1 else L - (n : Int))) ∧ w = w' := by
 have wz : IntKind.i64.wrap (L - (n : Int)) = L - (n : Int) := by rw [IntKind.wrap_i64]; omega
 by_cases c : L - (n : Int) < 0
 ·have e0 : decide (L - (n : Int) < 0) = true := decide_eq_true c
  rw [if_pos c]; clear c; go_enter Tryz.func46, Tryz.ntmps46; go_wp2_with fail; go_ret; exact ⟨rfl, rfl⟩
 ·have e0 : decide (L - (n : Int) < 0) = false := decide_eq_false c
  rw [if_neg c]; clear c; go_enter Tryz.func46, Tryz.ntmps46; go_wp2_with fail; go_ret; exact ⟨rfl, rfl⟩
def RowSS (w : World) (g : Nat) (G : Nat → Nat) (n : Nat) (rs : List (List Int)) : Prop := (w.rowIs g 32 rs.length fun j => if j < n then .slice (some ⟨G j, 0, none⟩) (rs.getD j []).length (rs.getD j []).length else .slice none 0 0) ∧ (∀ j, j < n → g < G j ∧ Row w (G j) (rs.getD j [])) ∧ ∀ i j, i < j → j < n → G i < G j

theorem rwNe {w : World} {b g : Nat} {t' : TypeId} {zs : List Int} {cs : Array Value} (h : Row w g zs) (K : Blk w b t' cs) (hne : t' ≠ 3) : g ≠ b := by
 obtain ⟨c, hc, _⟩ := h; exact blk_type K hc hne
theorem rwS {w : World} {b g : Nat} {t' : TypeId} {zs : List Int} {cs : Array Value} (h : Row w g zs) (K : Blk w b t' cs) (hne : t' ≠ 3) (j : Nat) (v : Value) : Row (w.setCell ⟨b, j, none⟩ v) g zs :=
 World.rowIs.of_block h (Below.heap_setCell w ⟨b, j, none⟩ v g (rwNe h K hne))
theorem rwX6 {w : World} {b g : Nat} {t' : TypeId} {zs : List Int} {cs : Array Value} {v0 v1 v2 v3 v4 v5 : Value} (h : Row w g zs) (K : Blk w b t' cs) (hne : t' ≠ 3) : Row (sets6 w b v0 v1 v2 v3 v4 v5) g zs :=
 World.rowIs.of_block h (by
  have hn := rwNe h K hne; unfold sets6
  rw [Below.heap_setCell _ _ _ g hn, Below.heap_setCell _ _ _ g hn, Below.heap_setCell _ _ _ g hn, Below.heap_setCell _ _ _ g hn, Below.heap_setCell _ _ _ g hn, Below.heap_setCell _ _ _ g hn])
theorem wS {w y : World} {b g j : Nat} {t' : TypeId} {zs : List Int} {cs : Array Value} {x : Value} (h : Row w g zs) (K : Blk w b t' cs) (hy : y = w.setCell ⟨b, j, none⟩ x) (hne : t' ≠ 3) : Row y g zs := by subst hy; exact rwS h K hne j x
theorem X6w {w y : World} {b g : Nat} {t' : TypeId} {zs : List Int} {cs : Array Value} {v0 v1 v2 v3 v4 v5 : Value} (h : Row w g zs) (K : Blk w b t' cs) (hy : y = sets6 w b v0 v1 v2 v3 v4 v5) (hne : t' ≠ 3) : Row y g zs := by subst hy; exact rwX6 h K hne
theorem lszDd (A : Option Addr) (cz : Nat) (x : Dd) (L : Int) (w : World) (h0 : 0 ≤ L) (h1 : L ≤ 1048576) (hn : x.zs.length ≤ 9223372036854775807) :
  Calls Tryz.prog 19 #[.agg #[.int .i64 x.k, .int .i64 x.o, .int .i64 x.t, .int .i64 x.n, .int .i64 x.d, .slice A x.zs.length cz], .int .i64 L] w fun e w' => e = .returned (.int .i64 (if L - (x.zs.length : Int) < 0 then -1 else L - (x.zs.length : Int))) ∧ Below w.heap.size w w' := by
 obtain ⟨k, o, t, n, d, zs⟩ := x; dsimp only at hn ⊢; have B := (Below.refl w.heap.size w).alloc (Nat.le_refl _) (.cells #[.int .i64 k, .int .i64 o, .int .i64 t, .int .i64 n, .int .i64 d, .slice A zs.length cz] 34); have K := Blk.new w 34 #[.int .i64 k, .int .i64 o, .int .i64 t, .int .i64 n, .int .i64 d, .slice A zs.length cz]; obtain ⟨q0, q1, q2, q3, q4, q5⟩ := cells6 K
 by_cases c : L - (zs.length : Int) < 0
 ·have e1 : decide ((-1 : Int) < 0) = true := rfl
  have CC : ∀ W, Calls Tryz.prog 46 #[.slice A zs.length cz, .int .i64 L] W fun e w' => e = .returned (.int .i64 (-1)) ∧ W = w' := fun W => by
   have := lszI A zs.length cz L W h0 h1 hn; rw [if_pos c] at this; exact this
  rw [if_pos c]; clear c K; go_enter Tryz.func19, Tryz.ntmps19; go_wp2_with fail; refine (CC _).mono ?_; rintro e u ⟨rfl, rfl⟩; go_wp2_with fail; go_ret; exact ⟨rfl, B⟩
 ·have e1 : decide (L - (zs.length : Int) < 0) = false := decide_eq_false c
  have CC : ∀ W, Calls Tryz.prog 46 #[.slice A zs.length cz, .int .i64 L] W fun e w' => e = .returned (.int .i64 (L - (zs.length : Int))) ∧ W = w' := fun W => by
   have := lszI A zs.length cz L W h0 h1 hn; rw [if_neg c] at this; exact this
  rw [if_neg c]; clear c K; generalize L - (zs.length : Int) = L' at *; go_enter Tryz.func19, Tryz.ntmps19; go_wp2_with fail; refine (CC _).mono ?_; rintro e u ⟨rfl, rfl⟩; go_wp2_with fail; go_ret; exact ⟨rfl, B⟩
def OutDd (w : World) (x : Dd) (e : Ending) (w' : World) : Prop := ∃ g : Nat, e = .returned (.agg #[.int .i64 x.k, .int .i64 x.o, .int .i64 x.t, .int .i64 x.n, .int .i64 x.d, .slice (some ⟨g, 0, none⟩) x.zs.length x.zs.length]) ∧ w.heap.size ≤ g ∧ Row w' g x.zs ∧ Below w.heap.size w w'
theorem ltoDd (A : Option Addr) (cz : Nat) (x : Dd) (w : World) (h : IsInts w A x.zs) (hn : x.zs.length ≤ 1048576) :
  Calls Tryz.prog 27 #[.agg #[.int .i64 x.k, .int .i64 x.o, .int .i64 x.t, .int .i64 x.n, .int .i64 x.d, .slice A x.zs.length cz]] w (OutDd w x) := by
 obtain ⟨k, o, t, n, d, zs⟩ := x; dsimp only at h hn ⊢; have HI := Lib.hid (fun W (hW : Below w.heap.size w W) => ints_below h hW); clear h; go_enter Tryz.func27, Tryz.ntmps27; have KA := ((Blk.new w 34 #[.int .i64 k, .int .i64 o, .int .i64 t, .int .i64 n, .int .i64 d, .slice A zs.length cz]).alloc (.cells #[.int .i64 0, .int .i64 0, .int .i64 0, .int .i64 0, .int .i64 0, .slice none 0 0] 51)).alloc (.cells #[.int .i64 0, .int .i64 0, .int .i64 0, .int .i64 0, .int .i64 0, .slice none 0 0] 51)
 have KR : Blk (((w.alloc (.cells #[.int .i64 k, .int .i64 o, .int .i64 t, .int .i64 n, .int .i64 d, .slice A zs.length cz] 34)).alloc (.cells #[.int .i64 0, .int .i64 0, .int .i64 0, .int .i64 0, .int .i64 0, .slice none 0 0] 51)).alloc (.cells #[.int .i64 0, .int .i64 0, .int .i64 0, .int .i64 0, .int .i64 0, .slice none 0 0] 51)) (w.heap.size + 1) 51 #[.int .i64 0, .int .i64 0, .int .i64 0, .int .i64 0, .int .i64 0, .slice none 0 0] := by
  have := (Blk.new (w.alloc (.cells #[.int .i64 k, .int .i64 o, .int .i64 t, .int .i64 n, .int .i64 d, .slice A zs.length cz] 34)) 51 #[.int .i64 0, .int .i64 0, .int .i64 0, .int .i64 0, .int .i64 0, .slice none 0 0]).alloc (.cells #[.int .i64 0, .int .i64 0, .int .i64 0, .int .i64 0, .int .i64 0, .slice none 0 0] 51); rw [World.size_alloc] at this; exact this
 have KO : Blk (((w.alloc (.cells #[.int .i64 k, .int .i64 o, .int .i64 t, .int .i64 n, .int .i64 d, .slice A zs.length cz] 34)).alloc (.cells #[.int .i64 0, .int .i64 0, .int .i64 0, .int .i64 0, .int .i64 0, .slice none 0 0] 51)).alloc (.cells #[.int .i64 0, .int .i64 0, .int .i64 0, .int .i64 0, .int .i64 0, .slice none 0 0] 51)) (w.heap.size + 1 + 1) 51 #[.int .i64 0, .int .i64 0, .int .i64 0, .int .i64 0, .int .i64 0, .slice none 0 0] := by
  have := Blk.new ((w.alloc (.cells #[.int .i64 k, .int .i64 o, .int .i64 t, .int .i64 n, .int .i64 d, .slice A zs.length cz] 34)).alloc (.cells #[.int .i64 0, .int .i64 0, .int .i64 0, .int .i64 0, .int .i64 0, .slice none 0 0] 51)) 51 #[.int .i64 0, .int .i64 0, .int .i64 0, .int .i64 0, .int .i64 0, .slice none 0 0]; rw [World.size_alloc, World.size_alloc] at this; exact this
 have B : Below w.heap.size w (((w.alloc (.cells #[.int .i64 k, .int .i64 o, .int .i64 t, .int .i64 n, .int .i64 d, .slice A zs.length cz] 34)).alloc (.cells #[.int .i64 0, .int .i64 0, .int .i64 0, .int .i64 0, .int .i64 0, .slice none 0 0] 51)).alloc (.cells #[.int .i64 0, .int .i64 0, .int .i64 0, .int .i64 0, .int .i64 0, .slice none 0 0] 51)) := by go_grown
 obtain ⟨u0, hy⟩ : ∃ y, y = ((w.alloc (.cells #[.int .i64 k, .int .i64 o, .int .i64 t, .int .i64 n, .int .i64 d, .slice A zs.length cz] 34)).alloc (.cells #[.int .i64 0, .int .i64 0, .int .i64 0, .int .i64 0, .int .i64 0, .slice none 0 0] 51)).alloc (.cells #[.int .i64 0, .int .i64 0, .int .i64 0, .int .i64 0, .int .i64 0, .slice none 0 0] 51) := ⟨_, rfl⟩
 rw [← hy] at KA KR KO B; have HY := Lib.hid hy; clear hy; have HS0 := Lib.hid (And.intro KA (And.intro KR (And.intro KO B))); clear KA KR KO B
 go_wp2_with (first | (show wpList _ _ _ _ _ _; rw [← HY.out]; clear HY; obtain ⟨KA, KR, KO, B⟩ := HS0.out; clear HS0; have fz0 := KO.frozen 0; have QA := cells6 KA; have QR := cells6 KR; have QO := cells6 KO; obtain ⟨y1s, hy⟩ : ∃ y, y = World.setCell u0 ⟨w.heap.size + 1 + 1, 0, none⟩ (.int .i64 k) := ⟨_, rfl⟩; replace KA := fS KA hy (by omega); replace KR := fS KR hy (by omega); replace KO := S6_0 KO hy; replace B := bS B hy (by omega); have HY := Lib.hid hy; clear hy; have HS1 := Lib.hid (And.intro KA (And.intro KR (And.intro KO B))); clear KA KR KO B) | (show wpList _ _ _ _ _ (World.setCell u0 _ _); rw [← HY.out]; clear HY fz0; clear QA QR QO; obtain ⟨KA, KR, KO, B⟩ := HS1.out; clear HS1; have fz0 := KO.frozen 1; have QA := cells6 KA; have QR := cells6 KR; have QO := cells6 KO; obtain ⟨y2s, hy⟩ : ∃ y, y = World.setCell y1s ⟨w.heap.size + 1 + 1, 1, none⟩ (.int .i64 o) := ⟨_, rfl⟩; replace KA := fS KA hy (by omega); replace KR := fS KR hy (by omega); replace KO := S6_1 KO hy; replace B := bS B hy (by omega); have HY := Lib.hid hy; clear hy; have HS2 := Lib.hid (And.intro KA (And.intro KR (And.intro KO B))); clear KA KR KO B) | (show wpList _ _ _ _ _ (World.setCell y1s _ _); rw [← HY.out]; clear HY fz0; clear QA QR QO; obtain ⟨KA, KR, KO, B⟩ := HS2.out; clear HS2; have fz0 := KO.frozen 2; have QA := cells6 KA; have QR := cells6 KR; have QO := cells6 KO; obtain ⟨y3s, hy⟩ : ∃ y, y = World.setCell y2s ⟨w.heap.size + 1 + 1, 2, none⟩ (.int .i64 t) := ⟨_, rfl⟩; replace KA := fS KA hy (by omega); replace KR := fS KR hy (by omega); replace KO := S6_2 KO hy; replace B := bS B hy (by omega); have HY := Lib.hid hy; clear hy; have HS3 := Lib.hid (And.intro KA (And.intro KR (And.intro KO B))); clear KA KR KO B) | (show wpList _ _ _ _ _ (World.setCell y2s _ _); rw [← HY.out]; clear HY fz0; clear QA QR QO; obtain ⟨KA, KR, KO, B⟩ := HS3.out; clear HS3; have QA := cells6 KA; have QR := cells6 KR; have QO := cells6 KO))
 refine (ltoFrac n d _).mono ?_; rintro e u1 ⟨rfl, C⟩; clear QA QR QO; replace KA := KA.next C; replace KR := KR.next C; replace KO := KO.next C; replace B := bel_tr B C; clear C; have fz0 := KO.frozen 3; have fz1 := KO.frozen 4; have QA := cells6 KA; have QR := cells6 KR; have QO := cells6 KO
 obtain ⟨y4s, hy⟩ : ∃ y, y = World.setCell (World.setCell u1 ⟨w.heap.size + 1 + 1, 3, none⟩ (.int .i64 n)) ⟨w.heap.size + 1 + 1, 4, none⟩ (.int .i64 d) := ⟨_, rfl⟩
 replace KA := fS2 KA hy (by omega); replace KR := fS2 KR hy (by omega); replace KO := S6_3x2 KO hy; replace B := bS2 B hy (by omega); have HY := Lib.hid hy; clear hy; have HS4 := Lib.hid (And.intro KA (And.intro KR (And.intro KO B))); clear KA KR KO B
 go_wp2_with (first | (show wpList _ _ _ _ _ (World.setCell (World.setCell u1 _ _) _ _); rw [← HY.out]; clear HY fz0 fz1; clear QA QR QO; obtain ⟨KA, KR, KO, B⟩ := HS4.out; clear HS4; have QA := cells6 KA; have QR := cells6 KR; have QO := cells6 KO))
 refine (ltoIntS A cz zs _ (HI.out _ B) hn).mono ?_; rintro e u2 ⟨gz, rfl, lgz, Rz, C⟩; clear QA QR QO
 have lz : w.heap.size ≤ gz := (by have := B.size; omega)
 replace KA := KA.next C; replace KR := KR.next C; replace KO := KO.next C; replace B := bel_tr B C; clear C lgz; have fz0 := KO.frozen 5; have QA := cells6 KA; have QR := cells6 KR; have QO := cells6 KO
 obtain ⟨y5s, hy⟩ : ∃ y, y = World.setCell u2 ⟨w.heap.size + 1 + 1, 5, none⟩ (.slice (some ⟨gz, 0, none⟩) zs.length zs.length) := ⟨_, rfl⟩
 replace Rz := wS Rz KO hy (by decide); replace KA := fS KA hy (by omega); replace KR := fS KR hy (by omega); replace KO := S6_5 KO hy; replace B := bS B hy (by omega); have HY := Lib.hid hy; clear hy; have HS5 := Lib.hid (And.intro KA (And.intro KR (And.intro KO (And.intro Rz B)))); clear KA KR KO Rz B
 go_wp2_with (first | (show wpList _ _ _ _ _ (World.setCell u2 _ _); rw [← HY.out]; clear HY fz0; clear QA QR QO; obtain ⟨KA, KR, KO, Rz, B⟩ := HS5.out; clear HS5; have fr0 := KR.frozen 0; have fr1 := KR.frozen 1; have fr2 := KR.frozen 2; have fr3 := KR.frozen 3; have fr4 := KR.frozen 4; have fr5 := KR.frozen 5; have QA := cells6 KA; have QR := cells6 KR; have QO := cells6 KO; have HF := Lib.hid (And.intro KA (And.intro KR (And.intro KO (And.intro Rz B)))); clear KA KR KO Rz B))
 clear fr0 fr1 fr2 fr3 fr4 fr5; clear QA QR QO; obtain ⟨KA, KR, KO, Rz, B⟩ := HF.out; clear HF
 obtain ⟨uf, hy⟩ : ∃ y, y = sets6 y5s (w.heap.size + 1) (.int .i64 k) (.int .i64 o) (.int .i64 t) (.int .i64 n) (.int .i64 d) (.slice (some ⟨gz, 0, none⟩) zs.length zs.length) := ⟨_, rfl⟩
 change bodyPost _ _ _ _ _ (sets6 _ _ _ _ _ _ _ _); rw [← hy]; replace Rz := X6w Rz KR hy (by decide); replace B := X6B B hy (by omega); have KOLD := KR; replace KR := X6b KR hy; clear KA; clear KO; clear KOLD hy; have QR := cells6 KR; refine bodyPost_ret (v := .agg #[.int .i64 k, .int .i64 o, .int .i64 t, .int .i64 n, .int .i64 d, .slice (some ⟨gz, 0, none⟩) zs.length zs.length]) (by simp [results, Tryz.results27, go_sem, QR]) rfl ⟨gz, rfl, lz, Rz, B⟩
section
open Go.ChangeShapes Go.WideShapes Go.RowKit Go.Deep
theorem trod_intD {H : Type} {enc : TypeId × Value → H} {w : World} {base : Nat} {spare : Nat → Bool} {held : Bool} {fuel : Nat} {c : Value} {x : DataW H × List MemPlace} (h : DataW.trod enc Tryz.prog w base spare held fuel 3 [c] = some x) : ∃ z, c = .int .i64 z := by
 obtain ⟨z, e, _, _⟩ := DataW.trod_int Tryz.underlying3 h; injection e with e; exact ⟨z, e⟩
theorem open_ints1 {H : Type} {enc : TypeId × Value → H} {w : World} {base : Nat} {spare : Nat → Bool} {held : Bool} {fuel : Nat} {c : Value} {x : DataW H × List MemPlace} (h : DataW.trod enc Tryz.prog w base spare held fuel 32 [c] = some x) : ∃ (A : Option Addr) (cz : Nat) (zs : List Int), c = .slice A zs.length cz ∧ IsInts w A zs ∧ zs.length ≤ cz ∧ cz ≤ maxLen := by
 rcases open_ints Tryz.underlying32 Tryz.underlying3 (by kernel_rfl) h with ⟨hcs, _⟩ | ⟨a, len, cap, zs, hcs, _, hl, hm, hz, _, hcell, _⟩
 ·injection hcs with hcs
  exact ⟨none, 0, [], hcs, .inl rfl, Nat.le_refl _, Nat.zero_le _⟩
 ·injection hcs with hcs
  have hlz : len ≤ zs.length := by rw [hz]; split <;> omega
  have hlen : (zs.take len).length = len := by rw [List.length_take]; omega
  refine ⟨some a, cap, zs.take len, by rw [hlen]; exact hcs, ?_, by omega, hm⟩
  by_cases hL : len = 0
  ·exact .inl (by rw [hL]; rfl)
  ·obtain ⟨g, o, s⟩ := a
   have hs : s = none := by simpa [Addr.add] using World.cell?_spot (hcell 0 (by omega))
   subst hs; refine .inr ⟨g, o, rfl, fun j hj => ?_⟩
   have hj' : j < len := by omega
   have := hcell j (by omega); rw [List.getD_eq_getElem?_getD, List.getElem?_take_of_lt hj', ← List.getD_eq_getElem?_getD]
   by_cases hj0 : j = 0
   ·subst hj0; simpa [Addr.add] using this
   ·simpa [Addr.add, hj0] using this
theorem open_deed {H : Type} {enc : TypeId × Value → H} {w : World} {base : Nat} {spare : Nat → Bool} {held : Bool} {fuel : Nat} {cs : List Value} {x : DataW H × List MemPlace} (h : DataW.trod enc Tryz.prog w base spare held fuel 34 cs = some x) : ∃ (A : Option Addr) (cz : Nat) (y : Dd), cs = [.int .i64 y.k, .int .i64 y.o, .int .i64 y.t, .int .i64 y.n, .int .i64 y.d, .slice A y.zs.length cz] ∧ IsInts w A y.zs ∧ y.zs.length ≤ cz ∧ cz ≤ maxLen := by
 obtain ⟨xs, n, _, _, hcl, hxl, hfs⟩ := DataW.trod_struct Tryz.underlying34 h
 have hC : Tryz.prog.cellsOf 34 = 6 := by kernel_rfl
 have hcl := hcl.trans hC; have hxl : xs.length = 5 := hxl
 match xs, hxl, cs, hcl with
 | [y0, y1, y2, y3, y4], _, [c0, c1, c2, c3, c4, c5], _ =>
 have s1 : Tryz.prog.cellsOf 3 = 1 := by kernel_rfl
 have s2 : Tryz.prog.cellsOf 31 = 2 := by kernel_rfl
 have s3 : Tryz.prog.cellsOf 32 = 1 := by kernel_rfl
 have g0 : DataW.trod enc Tryz.prog w base spare held n 3 (([c0, c1, c2, c3, c4, c5].drop 0).take (Tryz.prog.cellsOf 3)) = some y0 := hfs 0 _ rfl; rw [s1] at g0; change DataW.trod enc Tryz.prog w base spare held n 3 [c0] = some y0 at g0; have g1 : DataW.trod enc Tryz.prog w base spare held n 3 (([c0, c1, c2, c3, c4, c5].drop 1).take (Tryz.prog.cellsOf 3)) = some y1 := hfs 1 _ rfl; rw [s1] at g1; change DataW.trod enc Tryz.prog w base spare held n 3 [c1] = some y1 at g1; have g2 : DataW.trod enc Tryz.prog w base spare held n 3 (([c0, c1, c2, c3, c4, c5].drop 2).take (Tryz.prog.cellsOf 3)) = some y2 := hfs 2 _ rfl; rw [s1] at g2; change DataW.trod enc Tryz.prog w base spare held n 3 [c2] = some y2 at g2; have g3 : DataW.trod enc Tryz.prog w base spare held n 31 (([c0, c1, c2, c3, c4, c5].drop 3).take (Tryz.prog.cellsOf 31)) = some y3 := hfs 3 _ rfl; rw [s2] at g3; change DataW.trod enc Tryz.prog w base spare held n 31 [c3, c4] = some y3 at g3; have g4 : DataW.trod enc Tryz.prog w base spare held n 32 (([c0, c1, c2, c3, c4, c5].drop 5).take (Tryz.prog.cellsOf 32)) = some y4 := hfs 4 _ rfl; rw [s3] at g4; change DataW.trod enc Tryz.prog w base spare held n 32 [c5] = some y4 at g4; obtain ⟨k, e0⟩ := trod_intD g0; obtain ⟨o, e1⟩ := trod_intD g1; obtain ⟨t, e2⟩ := trod_intD g2; obtain ⟨m, d, e3⟩ := open_frac g3
 obtain ⟨A, cz, zs, e4, i1, i2, i3⟩ := open_ints1 g4; injection e3 with e3 e5; injection e5 with e5; subst e0 e1 e2 e3 e4 e5; exact ⟨A, cz, ⟨k, o, t, m, d, zs⟩, rfl, i1, i2, i3⟩
end
section
open Go.ChangeShapes Go.WideShapes Go.RowKit Go.Deep Go.Joins
def evI (A : Option Addr) (cz : Nat) (x : Ev) : Value := .agg #[.int .i64 x.k, .int .i64 x.dd.k, .int .i64 x.dd.o, .int .i64 x.dd.t, .int .i64 x.dd.n, .int .i64 x.dd.d, .slice A x.dd.zs.length cz, .int .i64 x.at_, .int .i64 x.nu]
structure EvIn (w : World) (A : Option Addr) (cz : Nat) (x : Ev) : Prop where
 i : IsInts w A x.dd.zs
 k : x.dd.zs.length ≤ cz
 m : cz ≤ maxLen
theorem array9 {cs : Array Value} (h : cs.size = 9) : ∃ c0 c1 c2 c3 c4 c5 c6 c7 c8, cs = #[c0, c1, c2, c3, c4, c5, c6, c7, c8] := by
 obtain ⟨l⟩ := cs
 match l, h with
 | [c0, c1, c2, c3, c4, c5, c6, c7, c8], _ => exact ⟨c0, c1, c2, c3, c4, c5, c6, c7, c8, rfl⟩
theorem open_event {H : Type} {enc : TypeId × Value → H} {w : World} {r : Reach} {b0 base : Nat} {spare : Nat → Bool} {held : Bool} {v : Value} {d : DataW H} {p : List MemPlace} (hv : Value.okWide Tryz.prog w r b0 36 v) (h : DataW.Trod enc Tryz.prog w base spare held 36 v d p) : ∃ A cz x, v = evI A cz x ∧ EvIn w A cz x := by
 obtain ⟨cs, rfl, hsz⟩ := okWide_struct Tryz.underlying36 hv
 have hC : Tryz.prog.cellsOf 36 = 9 := by kernel_rfl
 obtain ⟨c0, c1, c2, c3, c4, c5, c6, c7, c8, rfl⟩ := array9 (hsz.trans hC); obtain ⟨fuel, hf⟩ := h; obtain ⟨xs, n, _, hx, _, hxl, hfs⟩ := DataW.trod_struct Tryz.underlying36 hf; have hxl : xs.length = 4 := hxl
 match xs, hxl with
 | [y0, y1, y2, y3], _ =>
 have s1 : Tryz.prog.cellsOf 3 = 1 := by kernel_rfl
 have s2 : Tryz.prog.cellsOf 34 = 6 := by kernel_rfl
 have g0 : DataW.trod enc Tryz.prog w base spare held n 3 (([c0, c1, c2, c3, c4, c5, c6, c7, c8].drop 0).take (Tryz.prog.cellsOf 3)) = some y0 := hfs 0 _ rfl; have g1 : DataW.trod enc Tryz.prog w base spare held n 34 (([c0, c1, c2, c3, c4, c5, c6, c7, c8].drop 1).take (Tryz.prog.cellsOf 34)) = some y1 := hfs 1 _ rfl; have g2 : DataW.trod enc Tryz.prog w base spare held n 3 (([c0, c1, c2, c3, c4, c5, c6, c7, c8].drop 7).take (Tryz.prog.cellsOf 3)) = some y2 := hfs 2 _ rfl; have g3 : DataW.trod enc Tryz.prog w base spare held n 3 (([c0, c1, c2, c3, c4, c5, c6, c7, c8].drop 8).take (Tryz.prog.cellsOf 3)) = some y3 := hfs 3 _ rfl; rw [s1] at g0 g2 g3; rw [s2] at g1; change DataW.trod enc Tryz.prog w base spare held n 3 [c0] = some y0 at g0; change DataW.trod enc Tryz.prog w base spare held n 34 [c1, c2, c3, c4, c5, c6] = some y1 at g1; change DataW.trod enc Tryz.prog w base spare held n 3 [c7] = some y2 at g2; change DataW.trod enc Tryz.prog w base spare held n 3 [c8] = some y3 at g3; obtain ⟨k, e0⟩ := trod_intD g0; obtain ⟨A, cz, y, e1, i1, i2, i3⟩ := open_deed g1; obtain ⟨at_, e2⟩ := trod_intD g2; obtain ⟨nu, e3⟩ := trod_intD g3; injection e1 with q1 e1; injection e1 with q2 e1; injection e1 with q3 e1; injection e1 with q4 e1; injection e1 with q5 e1; injection e1 with q6 e1; subst e0 q1 q2 q3 q4 q5 q6 e2 e3; exact ⟨A, cz, ⟨k, y, at_, nu⟩, rfl, i1, i2, i3⟩
end
theorem leqTw (p q : TA) (t : Tw) (w : World) (hp : IsTw w p t) (hq : IsTw w q t) :
  Calls Tryz.prog 10 #[twV p t, twV q t] w fun e w' => e = .returned (.bool true) ∧ Below w.heap.size w w' := by
 obtain ⟨a1, c1, a2, c2, a3, c3, a4, c4⟩ := p; obtain ⟨d1, k1, d2, k2, d3, k3, d4, k4⟩ := q; obtain ⟨hs, ts, ns, r, hd, ac, rt, tm, ls, cm⟩ := t; have C1 := Lib.hid (fun W (hW : Below w.heap.size w W) => leqH a1 d1 c1 k1 hs W (hs_below hp.h1 hW) (hs_below hq.h1 hW) hp.n1); have C2 := Lib.hid (fun W (hW : Below w.heap.size w W) => leqTn a2 d2 c2 k2 ts W (tn_below hp.h2 hW) (tn_below hq.h2 hW) hp.n2); have C3 := Lib.hid (fun W (hW : Below w.heap.size w W) => leqNd a3 d3 c3 k3 ns W (nd_below hp.h3 hW) (nd_below hq.h3 hW) hp.n3); have C5 := Lib.hid (fun W (hW : Below w.heap.size w W) => leqAc a4 d4 c4 k4 ac W (ac_below hp.h4 hW) (ac_below hq.h4 hW) hp.n4); clear hp hq
 show Calls _ _ #[.agg #[.slice a1 hs.length c1, .slice a2 ts.length c2, .slice a3 ns.length c3, .int .i64 r, .int .i64 hd, .slice a4 ac.length c4, .int .i64 rt, .int .i64 tm, .int .i64 ls, .int .i64 cm], .agg #[.slice d1 hs.length k1, .slice d2 ts.length k2, .slice d3 ns.length k3, .int .i64 r, .int .i64 hd, .slice d4 ac.length k4, .int .i64 rt, .int .i64 tm, .int .i64 ls, .int .i64 cm]] _ _
 go_enter Tryz.func10, Tryz.ntmps10; have KA := (Blk.new w 45 #[.slice a1 hs.length c1, .slice a2 ts.length c2, .slice a3 ns.length c3, .int .i64 r, .int .i64 hd, .slice a4 ac.length c4, .int .i64 rt, .int .i64 tm, .int .i64 ls, .int .i64 cm]).alloc (.cells #[.slice d1 hs.length k1, .slice d2 ts.length k2, .slice d3 ns.length k3, .int .i64 r, .int .i64 hd, .slice d4 ac.length k4, .int .i64 rt, .int .i64 tm, .int .i64 ls, .int .i64 cm] 45)
 have KB : Blk ((w.alloc (.cells #[.slice a1 hs.length c1, .slice a2 ts.length c2, .slice a3 ns.length c3, .int .i64 r, .int .i64 hd, .slice a4 ac.length c4, .int .i64 rt, .int .i64 tm, .int .i64 ls, .int .i64 cm] 45)).alloc (.cells #[.slice d1 hs.length k1, .slice d2 ts.length k2, .slice d3 ns.length k3, .int .i64 r, .int .i64 hd, .slice d4 ac.length k4, .int .i64 rt, .int .i64 tm, .int .i64 ls, .int .i64 cm] 45)) (w.heap.size + 1) 45 #[.slice d1 hs.length k1, .slice d2 ts.length k2, .slice d3 ns.length k3, .int .i64 r, .int .i64 hd, .slice d4 ac.length k4, .int .i64 rt, .int .i64 tm, .int .i64 ls, .int .i64 cm] := by
  have := Blk.new (w.alloc (.cells #[.slice a1 hs.length c1, .slice a2 ts.length c2, .slice a3 ns.length c3, .int .i64 r, .int .i64 hd, .slice a4 ac.length c4, .int .i64 rt, .int .i64 tm, .int .i64 ls, .int .i64 cm] 45)) 45 #[.slice d1 hs.length k1, .slice d2 ts.length k2, .slice d3 ns.length k3, .int .i64 r, .int .i64 hd, .slice d4 ac.length k4, .int .i64 rt, .int .i64 tm, .int .i64 ls, .int .i64 cm]; rw [World.size_alloc] at this; exact this
 have B : Below w.heap.size w ((w.alloc (.cells #[.slice a1 hs.length c1, .slice a2 ts.length c2, .slice a3 ns.length c3, .int .i64 r, .int .i64 hd, .slice a4 ac.length c4, .int .i64 rt, .int .i64 tm, .int .i64 ls, .int .i64 cm] 45)).alloc (.cells #[.slice d1 hs.length k1, .slice d2 ts.length k2, .slice d3 ns.length k3, .int .i64 r, .int .i64 hd, .slice d4 ac.length k4, .int .i64 rt, .int .i64 tm, .int .i64 ls, .int .i64 cm] 45)) := by go_grown
 obtain ⟨qa0, qa1, qa2, qa3, qa4, qa5, qa6, qa7, qa8, qa9⟩ := tcl KA; obtain ⟨qb0, qb1, qb2, qb3, qb4, qb5, qb6, qb7, qb8, qb9⟩ := tcl KB; go_wp2_with fail; refine (C1.out _ B).mono ?_; rintro e u ⟨rfl, C⟩; replace KA := KA.next C; replace KB := KB.next C; replace B := bel_tr B C; clear C qa0 qa1 qa2 qa3 qa4 qa5 qa6 qa7 qa8 qa9 qb0 qb1 qb2 qb3 qb4 qb5 qb6 qb7 qb8 qb9; obtain ⟨qa0, qa1, qa2, qa3, qa4, qa5, qa6, qa7, qa8, qa9⟩ := tcl KA; obtain ⟨qb0, qb1, qb2, qb3, qb4, qb5, qb6, qb7, qb8, qb9⟩ := tcl KB; go_wp2_with fail; refine (C2.out _ B).mono ?_; rintro e u ⟨rfl, C⟩; replace KA := KA.next C; replace KB := KB.next C; replace B := bel_tr B C; clear C qa0 qa1 qa2 qa3 qa4 qa5 qa6 qa7 qa8 qa9 qb0 qb1 qb2 qb3 qb4 qb5 qb6 qb7 qb8 qb9; obtain ⟨qa0, qa1, qa2, qa3, qa4, qa5, qa6, qa7, qa8, qa9⟩ := tcl KA; obtain ⟨qb0, qb1, qb2, qb3, qb4, qb5, qb6, qb7, qb8, qb9⟩ := tcl KB; go_wp2_with fail; refine (C3.out _ B).mono ?_; rintro e u ⟨rfl, C⟩; replace KA := KA.next C; replace KB := KB.next C; replace B := bel_tr B C; clear C qa0 qa1 qa2 qa3 qa4 qa5 qa6 qa7 qa8 qa9 qb0 qb1 qb2 qb3 qb4 qb5 qb6 qb7 qb8 qb9; obtain ⟨qa0, qa1, qa2, qa3, qa4, qa5, qa6, qa7, qa8, qa9⟩ := tcl KA; obtain ⟨qb0, qb1, qb2, qb3, qb4, qb5, qb6, qb7, qb8, qb9⟩ := tcl KB; go_wp2_with fail; refine (leqBasin r hd _).mono ?_; rintro e u ⟨rfl, C⟩; replace KA := KA.next C; replace KB := KB.next C; replace B := bel_tr B C; clear C qa0 qa1 qa2 qa3 qa4 qa5 qa6 qa7 qa8 qa9 qb0 qb1 qb2 qb3 qb4 qb5 qb6 qb7 qb8 qb9
 obtain ⟨qa0, qa1, qa2, qa3, qa4, qa5, qa6, qa7, qa8, qa9⟩ := tcl KA; obtain ⟨qb0, qb1, qb2, qb3, qb4, qb5, qb6, qb7, qb8, qb9⟩ := tcl KB; go_wp2_with fail; refine (C5.out _ B).mono ?_; rintro e u ⟨rfl, C⟩; replace KA := KA.next C; replace KB := KB.next C; replace B := bel_tr B C; clear C qa0 qa1 qa2 qa3 qa4 qa5 qa6 qa7 qa8 qa9 qb0 qb1 qb2 qb3 qb4 qb5 qb6 qb7 qb8 qb9; obtain ⟨qa0, qa1, qa2, qa3, qa4, qa5, qa6, qa7, qa8, qa9⟩ := tcl KA; obtain ⟨qb0, qb1, qb2, qb3, qb4, qb5, qb6, qb7, qb8, qb9⟩ := tcl KB; go_wp2_with fail; go_ret; exact ⟨rfl, B⟩
theorem RowF.off {w w' : World} {base n : Nat} {t : TypeId} {v : Value} {zs : List Int} {S : Nat → Prop} (h : RowF w base t v n zs) (hO : OffW w w' S) (hS : ∀ q, S q → q < base) : RowF w' base t v n zs := by
 rcases h with h | ⟨g, cap, hv, hg, F, hc⟩
 ·exact .inl h
 ·refine .inr ⟨g, cap, hv, hg, F.of_block (hO.block g F.lt (fun c => ?_)), hc⟩
  have := hS g c; omega
theorem TwO.off {w w' : World} {base : Nat} {p : TA} {t : Tw} {S : Nat → Prop} (h : TwO w base p t) (hO : OffW w w' S) (hS : ∀ q, S q → q < base) : TwO w' base p t :=
 ⟨h.o1.off hO hS, h.n1, h.o2.off hO hS, h.n2, h.o3.off hO hS, h.n3, h.o4.off hO hS, h.n4⟩
def TA.own (p : TA) (q : Nat) : Prop := p.a1.map (·.block) = some q ∨ p.a2.map (·.block) = some q ∨ p.a3.map (·.block) = some q ∨ p.a4.map (·.block) = some q
theorem own_map {a : Option Addr} {n c q : Nat} : (Value.slice a n c).ownBlock = some q ↔ a.map (·.block) = some q := by
 cases a <;> simp [Value.ownBlock]
theorem TwO.own_ge {w : World} {base : Nat} {p : TA} {t : Tw} (h : TwO w base p t) {q : Nat} (hq : p.own q) : base ≤ q ∧ q < w.heap.size := by
 rcases hq with e | e | e | e
 ·exact h.o1.lt q (own_map.2 e)
 ·exact h.o2.lt q (own_map.2 e)
 ·exact h.o3.lt q (own_map.2 e)
 ·exact h.o4.lt q (own_map.2 e)
def mkN (t : Tw) : Nat := t.hs.length * 3 + t.ts.length * 2 + t.ns.length * 5 + t.ac.length * 2
structure MkO (w : World) (base : Nat) (p : TA) (t : Tw) (s : Int) : Prop where
 m1 : RowF w base 103 (.slice p.a1 t.hs.length p.c1) t.hs.length (mkS (s) (t.hs.length * 3))
 n1 : t.hs.length ≤ 1048576
 m2 : RowF w base 108 (.slice p.a2 t.ts.length p.c2) t.ts.length (mkS (s + ((t.hs.length * 3 : Nat) : Int)) (t.ts.length * 2))
 n2 : t.ts.length ≤ 1048576
 m3 : RowF w base 100 (.slice p.a3 t.ns.length p.c3) t.ns.length (mkS (s + ((t.hs.length * 3 : Nat) : Int) + ((t.ts.length * 2 : Nat) : Int)) (t.ns.length * 5))
 n3 : t.ns.length ≤ 1048576
 m4 : RowF w base 114 (.slice p.a4 t.ac.length p.c4) t.ac.length (mkS (s + ((t.hs.length * 3 : Nat) : Int) + ((t.ts.length * 2 : Nat) : Int) + ((t.ns.length * 5 : Nat) : Int)) (t.ac.length * 2))
 n4 : t.ac.length ≤ 1048576
theorem MkO.next {w w' : World} {base : Nat} {p : TA} {t : Tw} {s : Int} (h : MkO w base p t s) (hb : Below w.heap.size w w') : MkO w' base p t s :=
 ⟨h.m1.next hb, h.n1, h.m2.next hb, h.n2, h.m3.next hb, h.n3, h.m4.next hb, h.n4⟩
theorem ty_ne : 103 ≠ 108 ∧ 103 ≠ 100 ∧ 103 ≠ 114 ∧ 108 ≠ 100 ∧ 108 ≠ 114 ∧ 100 ≠ 114 := by decide
theorem blk_apart {w w' : World} {g base n : Nat} {t t' : TypeId} {cs : Array Value} {v : Value} {zs : List Int} (h : Blk w g t cs) (h' : RowF w base t' v n zs) (hne : t ≠ t') (hG : w.grownBy w' v.ownBlock) : Blk w' g t cs := by
 refine h.grown hG (fun c => ?_)
 rcases h' with ⟨e, _⟩ | ⟨g', cap, e, _, F, _⟩
 ·rw [e] at c; cases c
 ·rw [e] at c
  injection c with c; have c : g = g' := c; subst c; obtain ⟨cs', hb, _⟩ := F; unfold Blk at h; rw [h] at hb; injection hb with e; injection e with _ e2; exact hne e2
theorem mkTw (p : TA) (t : Tw) (base : Nat) (s : Int) (w : World) (h : TwO w base p t) (s0 : 0 ≤ s) (s1 : s ≤ 100000000) :
  Calls Tryz.prog 12 #[twV p t, .int .i64 s] w fun e w' => e = .returned (.int .i64 (s + (mkN t : Int))) ∧ MkO w' base p t s ∧ OffW w w' p.own := by
 obtain ⟨a1, c1, a2, c2, a3, c3, a4, c4⟩ := p; obtain ⟨hs, ts, ns, r, hd, ac, rt, tm, ls, cm⟩ := t; obtain ⟨o1, n1, o2, n2, o3, n3, o4, n4⟩ := h; dsimp only at o1 n1 o2 n2 o3 n3 o4 n4; have hl1 := flat_len hs; have hl2 := flatTn_len ts; have hl3 := flatNd_len ns; have hl4 := flatAc_len ac; obtain ⟨t12, t13, t14, t23, t24, t34⟩ := ty_ne; have HN : Hid (mkN ⟨hs, ts, ns, r, hd, ac, rt, tm, ls, cm⟩ = hs.length * 3 + ts.length * 2 + ns.length * 5 + ac.length * 2) := rfl
 show Calls _ _ #[.agg #[.slice a1 hs.length c1, .slice a2 ts.length c2, .slice a3 ns.length c3, .int .i64 r, .int .i64 hd, .slice a4 ac.length c4, .int .i64 rt, .int .i64 tm, .int .i64 ls, .int .i64 cm], .int .i64 s] _ _
 go_enter Tryz.func12, Tryz.ntmps12; have K := Blk.new w 45 #[.slice a1 hs.length c1, .slice a2 ts.length c2, .slice a3 ns.length c3, .int .i64 r, .int .i64 hd, .slice a4 ac.length c4, .int .i64 rt, .int .i64 tm, .int .i64 ls, .int .i64 cm]; have B := (Below.refl w.heap.size w).alloc (Nat.le_refl _) (.cells #[.slice a1 hs.length c1, .slice a2 ts.length c2, .slice a3 ns.length c3, .int .i64 r, .int .i64 hd, .slice a4 ac.length c4, .int .i64 rt, .int .i64 tm, .int .i64 ls, .int .i64 cm] 45); replace o1 := o1.next B; replace o2 := o2.next B; replace o3 := o3.next B; replace o4 := o4.next B; have O : OffW w (w.alloc (.cells #[.slice a1 hs.length c1, .slice a2 ts.length c2, .slice a3 ns.length c3, .int .i64 r, .int .i64 hd, .slice a4 ac.length c4, .int .i64 rt, .int .i64 tm, .int .i64 ls, .int .i64 cm] 45)) (TA.own ⟨a1, c1, a2, c2, a3, c3, a4, c4⟩) := OffW.of_below B; obtain ⟨q0, q1, q2, q3, q4, q5, q6, q7, q8, q9⟩ := tcl K; clear B; go_wp2_with fail; refine (mkH a1 c1 hs.length base _ (s) _ o1 hl1 n1 (by omega) (by omega)).mono ?_; rintro e u1 ⟨rfl, M1, G⟩; replace o2 := o2.apart o1 (t12).symm G; replace o3 := o3.apart o1 (t13).symm G; replace o4 := o4.apart o1 (t14).symm G; replace K := blk_apart K o1 (by decide) G; replace O := O.trans (OffW.of_grown G (fun q hq => .inl (own_map.1 hq)))
 clear G o1 q0 q1 q2 q3 q4 q5 q6 q7 q8 q9; obtain ⟨q0, q1, q2, q3, q4, q5, q6, q7, q8, q9⟩ := tcl K; go_wp2_with fail; refine (mkTn a2 c2 ts.length base _ (s + ((hs.length * 3 : Nat) : Int)) _ o2 hl2 n2 (by omega) (by omega)).mono ?_; rintro e u2 ⟨rfl, M2, G⟩; replace M1 := M1.apart o2 (t12) G; replace o3 := o3.apart o2 (t23).symm G; replace o4 := o4.apart o2 (t24).symm G; replace K := blk_apart K o2 (by decide) G; replace O := O.trans (OffW.of_grown G (fun q hq => .inr (.inl (own_map.1 hq)))); clear G o2 q0 q1 q2 q3 q4 q5 q6 q7 q8 q9; obtain ⟨q0, q1, q2, q3, q4, q5, q6, q7, q8, q9⟩ := tcl K; go_wp2_with fail; refine (mkNd a3 c3 ns.length base _ (s + ((hs.length * 3 : Nat) : Int) + ((ts.length * 2 : Nat) : Int)) _ o3 hl3 n3 (by omega) (by omega)).mono ?_; rintro e u3 ⟨rfl, M3, G⟩; replace M1 := M1.apart o3 (t13) G; replace M2 := M2.apart o3 (t23) G; replace o4 := o4.apart o3 (t34).symm G; replace K := blk_apart K o3 (by decide) G; replace O := O.trans (OffW.of_grown G (fun q hq => .inr (.inr (.inl (own_map.1 hq))))); clear G o3 q0 q1 q2 q3 q4 q5 q6 q7 q8 q9; obtain ⟨q0, q1, q2, q3, q4, q5, q6, q7, q8, q9⟩ := tcl K; go_wp2_with fail; refine (mkAc a4 c4 ac.length base _ (s + ((hs.length * 3 : Nat) : Int) + ((ts.length * 2 : Nat) : Int) + ((ns.length * 5 : Nat) : Int)) _ o4 hl4 n4 (by omega) (by omega)).mono ?_; rintro e u4 ⟨rfl, M4, G⟩; replace M1 := M1.apart o4 (t14) G; replace M2 := M2.apart o4 (t24) G; replace M3 := M3.apart o4 (t34) G; replace K := blk_apart K o4 (by decide) G
 replace O := O.trans (OffW.of_grown G (fun q hq => .inr (.inr (.inr (own_map.1 hq))))); clear G o4 q0 q1 q2 q3 q4 q5 q6 q7 q8 q9; obtain ⟨q0, q1, q2, q3, q4, q5, q6, q7, q8, q9⟩ := tcl K; go_wp2_with fail; go_ret; exact ⟨ret_int (by rw [HN.out]; omega), ⟨M1, n1, M2, n2, M3, n3, M4, n4⟩, O⟩
theorem hkTw (p : TA) (t : Tw) (base : Nat) (s : Int) (w : World) (h : MkO w base p t s) (s0 : 0 ≤ s) (s1 : s ≤ 100000000) :
  Calls Tryz.prog 14 #[twV p t, .int .i64 s] w fun e w' => e = .returned (.int .i64 (s + (mkN t : Int))) ∧ Below w.heap.size w w' := by
 obtain ⟨a1, c1, a2, c2, a3, c3, a4, c4⟩ := p; obtain ⟨hs, ts, ns, r, hd, ac, rt, tm, ls, cm⟩ := t; obtain ⟨m1, n1, m2, n2, m3, n3, m4, n4⟩ := h; dsimp only at m1 n1 m2 n2 m3 n3 m4 n4; have HN : Hid (mkN ⟨hs, ts, ns, r, hd, ac, rt, tm, ls, cm⟩ = hs.length * 3 + ts.length * 2 + ns.length * 5 + ac.length * 2) := rfl
 show Calls _ _ #[.agg #[.slice a1 hs.length c1, .slice a2 ts.length c2, .slice a3 ns.length c3, .int .i64 r, .int .i64 hd, .slice a4 ac.length c4, .int .i64 rt, .int .i64 tm, .int .i64 ls, .int .i64 cm], .int .i64 s] _ _
 go_enter Tryz.func14, Tryz.ntmps14; have K := Blk.new w 45 #[.slice a1 hs.length c1, .slice a2 ts.length c2, .slice a3 ns.length c3, .int .i64 r, .int .i64 hd, .slice a4 ac.length c4, .int .i64 rt, .int .i64 tm, .int .i64 ls, .int .i64 cm]; have B := (Below.refl w.heap.size w).alloc (Nat.le_refl _) (.cells #[.slice a1 hs.length c1, .slice a2 ts.length c2, .slice a3 ns.length c3, .int .i64 r, .int .i64 hd, .slice a4 ac.length c4, .int .i64 rt, .int .i64 tm, .int .i64 ls, .int .i64 cm] 45); replace m1 := m1.next B; replace m2 := m2.next B; replace m3 := m3.next B; replace m4 := m4.next B; obtain ⟨q0, q1, q2, q3, q4, q5, q6, q7, q8, q9⟩ := tcl K; go_wp2_with fail; refine (hkH a1 c1 hs.length base (s) _ m1 n1 (by omega) (by omega)).mono ?_; rintro e u ⟨rfl, rfl⟩; have d1 : decide (s + ((hs.length * 3 : Nat) : Int) < 0) = false := decide_eq_false (by omega); go_wp2_with fail; refine (hkTn a2 c2 ts.length base (s + ((hs.length * 3 : Nat) : Int)) _ m2 n2 (by omega) (by omega)).mono ?_; rintro e u ⟨rfl, rfl⟩; have d2 : decide (s + ((hs.length * 3 : Nat) : Int) + ((ts.length * 2 : Nat) : Int) < 0) = false := decide_eq_false (by omega); go_wp2_with fail; refine (hkNd a3 c3 ns.length base (s + ((hs.length * 3 : Nat) : Int) + ((ts.length * 2 : Nat) : Int)) _ m3 n3 (by omega) (by omega)).mono ?_; rintro e u ⟨rfl, rfl⟩; have d3 : decide (s + ((hs.length * 3 : Nat) : Int) + ((ts.length * 2 : Nat) : Int) + ((ns.length * 5 : Nat) : Int) < 0) = false := decide_eq_false (by omega)
 go_wp2_with fail; refine (hkAc a4 c4 ac.length base (s + ((hs.length * 3 : Nat) : Int) + ((ts.length * 2 : Nat) : Int) + ((ns.length * 5 : Nat) : Int)) _ m4 n4 (by omega) (by omega)).mono ?_; rintro e u ⟨rfl, rfl⟩; have d4 : decide (s + ((hs.length * 3 : Nat) : Int) + ((ts.length * 2 : Nat) : Int) + ((ns.length * 5 : Nat) : Int) + ((ac.length * 2 : Nat) : Int) < 0) = false := decide_eq_false (by omega); go_wp2_with fail; go_ret; exact ⟨ret_int (by rw [HN.out]; omega), B⟩
theorem rowF_not {w : World} {g base n c : Nat} {a : Option Addr} {t t' : TypeId} {cs : Array Value} {zs : List Int} (h : Blk w g t cs) (h' : RowF w base t' (.slice a n c) n zs) (hne : t ≠ t') : ¬ a.map (·.block) = some g := by
 intro q
 rcases h' with ⟨e, _⟩ | ⟨g', cap, e, _, F, _⟩
 ·injection e with e1 e2 e3
  subst e1; cases q
 ·injection e with e1 e2 e3
  subst e1; injection q with q; have q : g' = g := q; subst q; obtain ⟨cs', hb, _⟩ := F; unfold Blk at h; rw [h] at hb; injection hb with e; injection e with _ e2; exact hne e2
theorem TwO.not_own {w : World} {base g : Nat} {p : TA} {t : Tw} {cs : Array Value} (h : TwO w base p t) (K : Blk w g 45 cs) : ¬ p.own g := by
 rintro (q | q | q | q)
 ·exact rowF_not K h.o1 (by decide) q
 ·exact rowF_not K h.o2 (by decide) q
 ·exact rowF_not K h.o3 (by decide) q
 ·exact rowF_not K h.o4 (by decide) q
theorem Blk.off {w w' : World} {g : Nat} {t : TypeId} {cs : Array Value} {S : Nat → Prop} (h : Blk w g t cs) (hO : OffW w w' S) (hS : ¬ S g) : Blk w' g t cs := (hO.block g h.lt hS).trans h

theorem leqDd (A1 A2 : Option Addr) (p1 p2 : Nat) (x : Dd) (w : World) (h1 : IsInts w A1 x.zs) (h2 : IsInts w A2 x.zs) (hn : x.zs.length ≤ 1048576) :
  Calls Tryz.prog 36 #[.agg #[.int .i64 x.k, .int .i64 x.o, .int .i64 x.t, .int .i64 x.n, .int .i64 x.d, .slice A1 x.zs.length p1], .agg #[.int .i64 x.k, .int .i64 x.o, .int .i64 x.t, .int .i64 x.n, .int .i64 x.d, .slice A2 x.zs.length p2]] w fun e w' => e = .returned (.bool true) ∧ Below w.heap.size w w' := by
 obtain ⟨k, o, t, n, d, zs⟩ := x; dsimp only at h1 h2 hn ⊢; have H1 := Lib.hid (fun W (hW : Below w.heap.size w W) => ints_below h1 hW); have H2 := Lib.hid (fun W (hW : Below w.heap.size w W) => ints_below h2 hW); clear h1 h2; have K1 := (Blk.new w 51 #[.int .i64 k, .int .i64 o, .int .i64 t, .int .i64 n, .int .i64 d, .slice A1 zs.length p1]).alloc (.cells #[.int .i64 k, .int .i64 o, .int .i64 t, .int .i64 n, .int .i64 d, .slice A2 zs.length p2] 51); have K2 := Blk.new (w.alloc (.cells #[.int .i64 k, .int .i64 o, .int .i64 t, .int .i64 n, .int .i64 d, .slice A1 zs.length p1] 51)) 51 #[.int .i64 k, .int .i64 o, .int .i64 t, .int .i64 n, .int .i64 d, .slice A2 zs.length p2]; rw [World.size_alloc] at K2
 have B : Below w.heap.size w ((w.alloc (.cells #[.int .i64 k, .int .i64 o, .int .i64 t, .int .i64 n, .int .i64 d, .slice A1 zs.length p1] 51)).alloc (.cells #[.int .i64 k, .int .i64 o, .int .i64 t, .int .i64 n, .int .i64 d, .slice A2 zs.length p2] 51)) := by go_grown
 obtain ⟨q0, q1, q2, q3, q4, q5⟩ := cells6 K1; obtain ⟨r0, r1, r2, r3, r4, r5⟩ := cells6 K2
 have b0 : (k != k) = false := by simp
 have b1 : (o != o) = false := by simp
 have b2 : (t != t) = false := by simp
 go_enter Tryz.func36, Tryz.ntmps36; go_wp2_with fail; refine (leqFrac n d _).mono ?_; rintro e u1 ⟨rfl, C⟩; clear q0 q1 q2 q3 q4 q5 r0 r1 r2 r3 r4 r5; replace B := bel_tr B C; replace K1 := K1.next C; replace K2 := K2.next C; clear C; obtain ⟨q0, q1, q2, q3, q4, q5⟩ := cells6 K1; obtain ⟨r0, r1, r2, r3, r4, r5⟩ := cells6 K2; go_wp2_with fail; refine (leqIntS A1 A2 p1 p2 zs _ (H1.out _ B) (H2.out _ B) hn).mono ?_; rintro e u2 ⟨rfl, C⟩; clear q0 q1 q2 q3 q4 q5 r0 r1 r2 r3 r4 r5 K1 K2; replace B := bel_tr B C; go_wp2_with fail; go_ret; exact ⟨rfl, B⟩
theorem lszEv (A : Option Addr) (cz : Nat) (x : Ev) (L : Int) (w : World) (h0 : 0 ≤ L) (h1 : L ≤ 1048576) (hn : x.dd.zs.length ≤ 9223372036854775807) :
  Calls Tryz.prog 5 #[.agg #[.int .i64 x.k, .int .i64 x.dd.k, .int .i64 x.dd.o, .int .i64 x.dd.t, .int .i64 x.dd.n, .int .i64 x.dd.d, .slice A x.dd.zs.length cz, .int .i64 x.at_, .int .i64 x.nu], .int .i64 L] w fun e w' => e = .returned (.int .i64 (if L - (x.dd.zs.length : Int) < 0 then -1 else L - (x.dd.zs.length : Int))) ∧ Below w.heap.size w w' := by
 obtain ⟨k, ⟨dk, o, t, n, d, zs⟩, at_, nu⟩ := x; dsimp only at hn ⊢; have B := (Below.refl w.heap.size w).alloc (Nat.le_refl _) (.cells #[.int .i64 k, .int .i64 dk, .int .i64 o, .int .i64 t, .int .i64 n, .int .i64 d, .slice A zs.length cz, .int .i64 at_, .int .i64 nu] 36); have K := Blk.new w 36 #[.int .i64 k, .int .i64 dk, .int .i64 o, .int .i64 t, .int .i64 n, .int .i64 d, .slice A zs.length cz, .int .i64 at_, .int .i64 nu]; obtain ⟨q0, q1, q2, q3, q4, q5, q6, q7, q8⟩ := cells9 K
 have CC := fun W => lszDd A cz ⟨dk, o, t, n, d, zs⟩ L W h0 h1 hn
 dsimp only at CC
 by_cases c : L - (zs.length : Int) < 0
 ·have e1 : decide ((-1 : Int) < 0) = true := rfl
  rw [if_pos c] at CC ⊢; clear c K; go_enter Tryz.func5, Tryz.ntmps5; go_wp2_with fail; refine (CC _).mono ?_; rintro e u ⟨rfl, C⟩; replace B := bel_tr B C; go_wp2_with fail; go_ret; exact ⟨rfl, B⟩
 ·have e1 : decide (L - (zs.length : Int) < 0) = false := decide_eq_false c
  rw [if_neg c] at CC ⊢; clear c K; generalize L - (zs.length : Int) = L' at *; go_enter Tryz.func5, Tryz.ntmps5; go_wp2_with fail; refine (CC _).mono ?_; rintro e u ⟨rfl, C⟩; replace B := bel_tr B C; go_wp2_with fail; go_ret; exact ⟨rfl, B⟩
def OutEv (w : World) (x : Ev) (e : Ending) (w' : World) : Prop := ∃ g : Nat, e = .returned (.agg #[.int .i64 x.k, .int .i64 x.dd.k, .int .i64 x.dd.o, .int .i64 x.dd.t, .int .i64 x.dd.n, .int .i64 x.dd.d, .slice (some ⟨g, 0, none⟩) x.dd.zs.length x.dd.zs.length, .int .i64 x.at_, .int .i64 x.nu]) ∧ w.heap.size ≤ g ∧ Row w' g x.dd.zs ∧ Below w.heap.size w w'
theorem rwX9 {w : World} {b g : Nat} {t' : TypeId} {zs : List Int} {cs : Array Value} {v0 v1 v2 v3 v4 v5 v6 v7 v8 : Value} (h : Row w g zs) (K : Blk w b t' cs) (hne : t' ≠ 3) : Row (sets9 w b v0 v1 v2 v3 v4 v5 v6 v7 v8) g zs :=
 World.rowIs.of_block h (by
  have hn := rwNe h K hne; unfold sets9
  rw [Below.heap_setCell _ _ _ g hn, Below.heap_setCell _ _ _ g hn, Below.heap_setCell _ _ _ g hn, Below.heap_setCell _ _ _ g hn, Below.heap_setCell _ _ _ g hn, Below.heap_setCell _ _ _ g hn, Below.heap_setCell _ _ _ g hn, Below.heap_setCell _ _ _ g hn, Below.heap_setCell _ _ _ g hn])
theorem leqEv (A1 A2 : Option Addr) (p1 p2 : Nat) (x : Ev) (w : World) (h1 : IsInts w A1 x.dd.zs) (h2 : IsInts w A2 x.dd.zs) (hn : x.dd.zs.length ≤ 1048576) :
  Calls Tryz.prog 11 #[.agg #[.int .i64 x.k, .int .i64 x.dd.k, .int .i64 x.dd.o, .int .i64 x.dd.t, .int .i64 x.dd.n, .int .i64 x.dd.d, .slice A1 x.dd.zs.length p1, .int .i64 x.at_, .int .i64 x.nu], .agg #[.int .i64 x.k, .int .i64 x.dd.k, .int .i64 x.dd.o, .int .i64 x.dd.t, .int .i64 x.dd.n, .int .i64 x.dd.d, .slice A2 x.dd.zs.length p2, .int .i64 x.at_, .int .i64 x.nu]] w fun e w' => e = .returned (.bool true) ∧ Below w.heap.size w w' := by
 obtain ⟨k, ⟨dk, o, t, n, d, zs⟩, at_, nu⟩ := x; dsimp only at h1 h2 hn ⊢; have CC := Lib.hid (fun W (hW : Below w.heap.size w W) => leqDd A1 A2 p1 p2 ⟨dk, o, t, n, d, zs⟩ W (ints_below h1 hW) (ints_below h2 hW) hn); clear h1 h2; have K1 := (Blk.new w 53 #[.int .i64 k, .int .i64 dk, .int .i64 o, .int .i64 t, .int .i64 n, .int .i64 d, .slice A1 zs.length p1, .int .i64 at_, .int .i64 nu]).alloc (.cells #[.int .i64 k, .int .i64 dk, .int .i64 o, .int .i64 t, .int .i64 n, .int .i64 d, .slice A2 zs.length p2, .int .i64 at_, .int .i64 nu] 53); have K2 := Blk.new (w.alloc (.cells #[.int .i64 k, .int .i64 dk, .int .i64 o, .int .i64 t, .int .i64 n, .int .i64 d, .slice A1 zs.length p1, .int .i64 at_, .int .i64 nu] 53)) 53 #[.int .i64 k, .int .i64 dk, .int .i64 o, .int .i64 t, .int .i64 n, .int .i64 d, .slice A2 zs.length p2, .int .i64 at_, .int .i64 nu]; rw [World.size_alloc] at K2
 have B : Below w.heap.size w ((w.alloc (.cells #[.int .i64 k, .int .i64 dk, .int .i64 o, .int .i64 t, .int .i64 n, .int .i64 d, .slice A1 zs.length p1, .int .i64 at_, .int .i64 nu] 53)).alloc (.cells #[.int .i64 k, .int .i64 dk, .int .i64 o, .int .i64 t, .int .i64 n, .int .i64 d, .slice A2 zs.length p2, .int .i64 at_, .int .i64 nu] 53)) := by go_grown
 obtain ⟨q0, q1, q2, q3, q4, q5, q6, q7, q8⟩ := cells9 K1; obtain ⟨r0, r1, r2, r3, r4, r5, r6, r7, r8⟩ := cells9 K2
 have b0 : (k != k) = false := by simp
 have b1 : (at_ != at_) = false := by simp
 have b2 : (nu != nu) = false := by simp
 go_enter Tryz.func11, Tryz.ntmps11; go_wp2_with fail; refine (CC.out _ B).mono ?_; rintro e u1 ⟨rfl, C⟩; clear q0 q1 q2 q3 q4 q5 q6 q7 q8 r0 r1 r2 r3 r4 r5 r6 r7 r8; replace B := bel_tr B C; replace K1 := K1.next C; replace K2 := K2.next C; clear C; obtain ⟨q0, q1, q2, q3, q4, q5, q6, q7, q8⟩ := cells9 K1; obtain ⟨r0, r1, r2, r3, r4, r5, r6, r7, r8⟩ := cells9 K2; go_wp2_with fail; go_ret; exact ⟨rfl, B⟩
theorem fS6 {w y : World} {g b : Nat} {t : TypeId} {cs : Array Value} {v0 v1 v2 v3 v4 v5 : Value} (h : Blk w g t cs) (hy : y = World.setCell (World.setCell (World.setCell (World.setCell (World.setCell (World.setCell w ⟨b, 1, none⟩ (v0)) ⟨b, 2, none⟩ (v1)) ⟨b, 3, none⟩ (v2)) ⟨b, 4, none⟩ (v3)) ⟨b, 5, none⟩ (v4)) ⟨b, 6, none⟩ (v5)) (hn : g ≠ b) : Blk y g t cs := by subst hy; exact fS (fS (fS (fS (fS (fS h rfl hn) rfl hn) rfl hn) rfl hn) rfl hn) rfl hn
theorem bS6 {w0 w y : World} {b : Nat} {v0 v1 v2 v3 v4 v5 : Value} (h : Below w0.heap.size w0 w) (hy : y = World.setCell (World.setCell (World.setCell (World.setCell (World.setCell (World.setCell w ⟨b, 1, none⟩ (v0)) ⟨b, 2, none⟩ (v1)) ⟨b, 3, none⟩ (v2)) ⟨b, 4, none⟩ (v3)) ⟨b, 5, none⟩ (v4)) ⟨b, 6, none⟩ (v5)) (hb : w0.heap.size ≤ b) : Below w0.heap.size w0 y := by subst hy; exact bS (bS (bS (bS (bS (bS h rfl hb) rfl hb) rfl hb) rfl hb) rfl hb) rfl hb
theorem wS6 {w y : World} {g b : Nat} {t' : TypeId} {zs : List Int} {cs : Array Value} {v0 v1 v2 v3 v4 v5 : Value} (h : Row w g zs) (K : Blk w b t' cs) (hy : y = World.setCell (World.setCell (World.setCell (World.setCell (World.setCell (World.setCell w ⟨b, 1, none⟩ (v0)) ⟨b, 2, none⟩ (v1)) ⟨b, 3, none⟩ (v2)) ⟨b, 4, none⟩ (v3)) ⟨b, 5, none⟩ (v4)) ⟨b, 6, none⟩ (v5)) (hne : t' ≠ 3) : Row y g zs := by
 subst hy; have hn := rwNe h K hne; exact World.rowIs.of_block h (by rw [Below.heap_setCell _ _ _ g hn, Below.heap_setCell _ _ _ g hn, Below.heap_setCell _ _ _ g hn, Below.heap_setCell _ _ _ g hn, Below.heap_setCell _ _ _ g hn, Below.heap_setCell _ _ _ g hn])
theorem S9_1x6 {w y : World} {b : Nat} {t : TypeId} {u0 u1 u2 u3 u4 u5 u6 u7 u8 v0 v1 v2 v3 v4 v5 : Value} (h : Blk w b t #[u0, u1, u2, u3, u4, u5, u6, u7, u8]) (hy : y = World.setCell (World.setCell (World.setCell (World.setCell (World.setCell (World.setCell w ⟨b, 1, none⟩ (v0)) ⟨b, 2, none⟩ (v1)) ⟨b, 3, none⟩ (v2)) ⟨b, 4, none⟩ (v3)) ⟨b, 5, none⟩ (v4)) ⟨b, 6, none⟩ (v5)) : Blk y b t #[u0, v0, v1, v2, v3, v4, v5, u7, u8] := by subst hy; exact S9_6 (S9_5 (S9_4 (S9_3 (S9_2 (S9_1 h rfl) rfl) rfl) rfl) rfl) rfl
theorem X9w {w y : World} {b g : Nat} {t' : TypeId} {zs : List Int} {cs : Array Value} {v0 v1 v2 v3 v4 v5 v6 v7 v8 : Value} (h : Row w g zs) (K : Blk w b t' cs) (hy : y = sets9 w b v0 v1 v2 v3 v4 v5 v6 v7 v8) (hne : t' ≠ 3) : Row y g zs := by subst hy; exact rwX9 h K hne
theorem ltoEv (A : Option Addr) (cz : Nat) (x : Ev) (w : World) (h : IsInts w A x.dd.zs) (hn : x.dd.zs.length ≤ 1048576) :
  Calls Tryz.prog 8 #[.agg #[.int .i64 x.k, .int .i64 x.dd.k, .int .i64 x.dd.o, .int .i64 x.dd.t, .int .i64 x.dd.n, .int .i64 x.dd.d, .slice A x.dd.zs.length cz, .int .i64 x.at_, .int .i64 x.nu]] w (OutEv w x) := by
 obtain ⟨k, ⟨dk, o, t, n, d, zs⟩, at_, nu⟩ := x; dsimp only at h hn ⊢; have CC := Lib.hid (fun W (hW : Below w.heap.size w W) => ltoDd A cz ⟨dk, o, t, n, d, zs⟩ W (ints_below h hW) hn); clear h; go_enter Tryz.func8, Tryz.ntmps8; have KA := ((Blk.new w 36 #[.int .i64 k, .int .i64 dk, .int .i64 o, .int .i64 t, .int .i64 n, .int .i64 d, .slice A zs.length cz, .int .i64 at_, .int .i64 nu]).alloc (.cells #[.int .i64 0, .int .i64 0, .int .i64 0, .int .i64 0, .int .i64 0, .int .i64 0, .slice none 0 0, .int .i64 0, .int .i64 0] 53)).alloc (.cells #[.int .i64 0, .int .i64 0, .int .i64 0, .int .i64 0, .int .i64 0, .int .i64 0, .slice none 0 0, .int .i64 0, .int .i64 0] 53)
 have KR : Blk (((w.alloc (.cells #[.int .i64 k, .int .i64 dk, .int .i64 o, .int .i64 t, .int .i64 n, .int .i64 d, .slice A zs.length cz, .int .i64 at_, .int .i64 nu] 36)).alloc (.cells #[.int .i64 0, .int .i64 0, .int .i64 0, .int .i64 0, .int .i64 0, .int .i64 0, .slice none 0 0, .int .i64 0, .int .i64 0] 53)).alloc (.cells #[.int .i64 0, .int .i64 0, .int .i64 0, .int .i64 0, .int .i64 0, .int .i64 0, .slice none 0 0, .int .i64 0, .int .i64 0] 53)) (w.heap.size + 1) 53 #[.int .i64 0, .int .i64 0, .int .i64 0, .int .i64 0, .int .i64 0, .int .i64 0, .slice none 0 0, .int .i64 0, .int .i64 0] := by
  have := (Blk.new (w.alloc (.cells #[.int .i64 k, .int .i64 dk, .int .i64 o, .int .i64 t, .int .i64 n, .int .i64 d, .slice A zs.length cz, .int .i64 at_, .int .i64 nu] 36)) 53 #[.int .i64 0, .int .i64 0, .int .i64 0, .int .i64 0, .int .i64 0, .int .i64 0, .slice none 0 0, .int .i64 0, .int .i64 0]).alloc (.cells #[.int .i64 0, .int .i64 0, .int .i64 0, .int .i64 0, .int .i64 0, .int .i64 0, .slice none 0 0, .int .i64 0, .int .i64 0] 53); rw [World.size_alloc] at this; exact this
 have KO : Blk (((w.alloc (.cells #[.int .i64 k, .int .i64 dk, .int .i64 o, .int .i64 t, .int .i64 n, .int .i64 d, .slice A zs.length cz, .int .i64 at_, .int .i64 nu] 36)).alloc (.cells #[.int .i64 0, .int .i64 0, .int .i64 0, .int .i64 0, .int .i64 0, .int .i64 0, .slice none 0 0, .int .i64 0, .int .i64 0] 53)).alloc (.cells #[.int .i64 0, .int .i64 0, .int .i64 0, .int .i64 0, .int .i64 0, .int .i64 0, .slice none 0 0, .int .i64 0, .int .i64 0] 53)) (w.heap.size + 1 + 1) 53 #[.int .i64 0, .int .i64 0, .int .i64 0, .int .i64 0, .int .i64 0, .int .i64 0, .slice none 0 0, .int .i64 0, .int .i64 0] := by
  have := Blk.new ((w.alloc (.cells #[.int .i64 k, .int .i64 dk, .int .i64 o, .int .i64 t, .int .i64 n, .int .i64 d, .slice A zs.length cz, .int .i64 at_, .int .i64 nu] 36)).alloc (.cells #[.int .i64 0, .int .i64 0, .int .i64 0, .int .i64 0, .int .i64 0, .int .i64 0, .slice none 0 0, .int .i64 0, .int .i64 0] 53)) 53 #[.int .i64 0, .int .i64 0, .int .i64 0, .int .i64 0, .int .i64 0, .int .i64 0, .slice none 0 0, .int .i64 0, .int .i64 0]; rw [World.size_alloc, World.size_alloc] at this; exact this
 have B : Below w.heap.size w (((w.alloc (.cells #[.int .i64 k, .int .i64 dk, .int .i64 o, .int .i64 t, .int .i64 n, .int .i64 d, .slice A zs.length cz, .int .i64 at_, .int .i64 nu] 36)).alloc (.cells #[.int .i64 0, .int .i64 0, .int .i64 0, .int .i64 0, .int .i64 0, .int .i64 0, .slice none 0 0, .int .i64 0, .int .i64 0] 53)).alloc (.cells #[.int .i64 0, .int .i64 0, .int .i64 0, .int .i64 0, .int .i64 0, .int .i64 0, .slice none 0 0, .int .i64 0, .int .i64 0] 53)) := by go_grown
 obtain ⟨u0, hy⟩ : ∃ y, y = ((w.alloc (.cells #[.int .i64 k, .int .i64 dk, .int .i64 o, .int .i64 t, .int .i64 n, .int .i64 d, .slice A zs.length cz, .int .i64 at_, .int .i64 nu] 36)).alloc (.cells #[.int .i64 0, .int .i64 0, .int .i64 0, .int .i64 0, .int .i64 0, .int .i64 0, .slice none 0 0, .int .i64 0, .int .i64 0] 53)).alloc (.cells #[.int .i64 0, .int .i64 0, .int .i64 0, .int .i64 0, .int .i64 0, .int .i64 0, .slice none 0 0, .int .i64 0, .int .i64 0] 53) := ⟨_, rfl⟩
 rw [← hy] at KA KR KO B; have HY := Lib.hid hy; clear hy; have HS0 := Lib.hid (And.intro KA (And.intro KR (And.intro KO B))); clear KA KR KO B
 go_wp2_with (first | (show wpList _ _ _ _ _ _; rw [← HY.out]; clear HY; obtain ⟨KA, KR, KO, B⟩ := HS0.out; clear HS0; have fz0 := KO.frozen 0; have QA := cells9 KA; have QR := cells9 KR; have QO := cells9 KO; obtain ⟨y1s, hy⟩ : ∃ y, y = World.setCell u0 ⟨w.heap.size + 1 + 1, 0, none⟩ (.int .i64 k) := ⟨_, rfl⟩; replace KA := fS KA hy (by omega); replace KR := fS KR hy (by omega); replace KO := S9_0 KO hy; replace B := bS B hy (by omega); have HY := Lib.hid hy; clear hy; have HS1 := Lib.hid (And.intro KA (And.intro KR (And.intro KO B))); clear KA KR KO B) | (show wpList _ _ _ _ _ (World.setCell u0 _ _); rw [← HY.out]; clear HY fz0; clear QA QR QO; obtain ⟨KA, KR, KO, B⟩ := HS1.out; clear HS1; have QA := cells9 KA; have QR := cells9 KR; have QO := cells9 KO))
 refine (CC.out _ B).mono ?_; rintro e u2 ⟨gz, rfl, lgz, Rz, C⟩; clear QA QR QO
 have lz : w.heap.size ≤ gz := (by have := B.size; omega)
 replace KA := KA.next C; replace KR := KR.next C; replace KO := KO.next C; replace B := bel_tr B C; clear C lgz; dsimp only at Rz; have KSA := Lib.hid KO; have QA := cells9 KA; have QR := cells9 KR; have QO := cells9 KO
 obtain ⟨y2s, hy⟩ : ∃ y, y = World.setCell (World.setCell (World.setCell (World.setCell (World.setCell (World.setCell u2 ⟨w.heap.size + 1 + 1, 1, none⟩ (.int .i64 dk)) ⟨w.heap.size + 1 + 1, 2, none⟩ (.int .i64 o)) ⟨w.heap.size + 1 + 1, 3, none⟩ (.int .i64 t)) ⟨w.heap.size + 1 + 1, 4, none⟩ (.int .i64 n)) ⟨w.heap.size + 1 + 1, 5, none⟩ (.int .i64 d)) ⟨w.heap.size + 1 + 1, 6, none⟩ (.slice (some ⟨gz, 0, none⟩) zs.length zs.length) := ⟨_, rfl⟩
 replace Rz := wS6 Rz KO hy (by decide); replace KA := fS6 KA hy (by omega); replace KR := fS6 KR hy (by omega); replace KO := S9_1x6 KO hy; replace B := bS6 B hy (by omega); have HY := Lib.hid hy; clear hy; have HS2 := Lib.hid (And.intro KA (And.intro KR (And.intro KO (And.intro Rz B)))); clear KA KR KO Rz B
 go_wp2_with (first | (show wpList _ _ _ ({ dst := _, op := Op.store _ _ _, type := _, pos := _, after := _, guard := _ } :: _) _ _; refine wpList_store6 rfl _ _ _ rfl (w.heap.size + 1 + 1) 1 (.int .i64 dk) (.int .i64 o) (.int .i64 t) (.int .i64 n) (.int .i64 d) (.slice (some ⟨gz, 0, none⟩) zs.length zs.length) rfl rfl KSA.out (by rfl) (by kernel_rfl) rfl ?_; show wpList _ _ _ _ _ (World.setCell (World.setCell (World.setCell (World.setCell (World.setCell (World.setCell u2 ⟨w.heap.size + 1 + 1, 1, none⟩ (.int .i64 dk)) ⟨w.heap.size + 1 + 1, 2, none⟩ (.int .i64 o)) ⟨w.heap.size + 1 + 1, 3, none⟩ (.int .i64 t)) ⟨w.heap.size + 1 + 1, 4, none⟩ (.int .i64 n)) ⟨w.heap.size + 1 + 1, 5, none⟩ (.int .i64 d)) ⟨w.heap.size + 1 + 1, 6, none⟩ (.slice (some ⟨gz, 0, none⟩) zs.length zs.length)); rw [← HY.out]; clear KSA HY; clear QA QR QO; obtain ⟨KA, KR, KO, Rz, B⟩ := HS2.out; clear HS2; have fz0 := KO.frozen 7; have QA := cells9 KA; have QR := cells9 KR; have QO := cells9 KO; obtain ⟨y3s, hy⟩ : ∃ y, y = World.setCell y2s ⟨w.heap.size + 1 + 1, 7, none⟩ (.int .i64 at_) := ⟨_, rfl⟩; replace Rz := wS Rz KO hy (by decide); replace KA := fS KA hy (by omega); replace KR := fS KR hy (by omega); replace KO := S9_7 KO hy; replace B := bS B hy (by omega); have HY := Lib.hid hy; clear hy; have HS3 := Lib.hid (And.intro KA (And.intro KR (And.intro KO (And.intro Rz B)))); clear KA KR KO Rz B) | (show wpList _ _ _ _ _ (World.setCell y2s _ _); rw [← HY.out]; clear HY fz0; clear QA QR QO; obtain ⟨KA, KR, KO, Rz, B⟩ := HS3.out; clear HS3; have fz0 := KO.frozen 8; have QA := cells9 KA; have QR := cells9 KR; have QO := cells9 KO; obtain ⟨y4s, hy⟩ : ∃ y, y = World.setCell y3s ⟨w.heap.size + 1 + 1, 8, none⟩ (.int .i64 nu) := ⟨_, rfl⟩; replace Rz := wS Rz KO hy (by decide); replace KA := fS KA hy (by omega); replace KR := fS KR hy (by omega); replace KO := S9_8 KO hy; replace B := bS B hy (by omega); have HY := Lib.hid hy; clear hy; have HS4 := Lib.hid (And.intro KA (And.intro KR (And.intro KO (And.intro Rz B)))); clear KA KR KO Rz B) | (show wpList _ _ _ _ _ (World.setCell y3s _ _); rw [← HY.out]; clear HY fz0; clear QA QR QO; obtain ⟨KA, KR, KO, Rz, B⟩ := HS4.out; clear HS4; have fr0 := KR.frozen 0; have fr1 := KR.frozen 1; have fr2 := KR.frozen 2; have fr3 := KR.frozen 3; have fr4 := KR.frozen 4; have fr5 := KR.frozen 5; have fr6 := KR.frozen 6; have fr7 := KR.frozen 7; have fr8 := KR.frozen 8; have QA := cells9 KA; have QR := cells9 KR; have QO := cells9 KO; have HF := Lib.hid (And.intro KA (And.intro KR (And.intro KO (And.intro Rz B)))); clear KA KR KO Rz B))
 clear fr0 fr1 fr2 fr3 fr4 fr5 fr6 fr7 fr8; clear QA QR QO; obtain ⟨KA, KR, KO, Rz, B⟩ := HF.out; clear HF
 obtain ⟨uf, hy⟩ : ∃ y, y = sets9 y4s (w.heap.size + 1) (.int .i64 k) (.int .i64 dk) (.int .i64 o) (.int .i64 t) (.int .i64 n) (.int .i64 d) (.slice (some ⟨gz, 0, none⟩) zs.length zs.length) (.int .i64 at_) (.int .i64 nu) := ⟨_, rfl⟩
 change bodyPost _ _ _ _ _ (sets9 _ _ _ _ _ _ _ _ _ _ _); rw [← hy]; replace Rz := X9w Rz KR hy (by decide); replace B := X9B B hy (by omega); have KOLD := KR; replace KR := X9b KR hy; clear KA; clear KO; clear KOLD hy; have QR := cells9 KR; refine bodyPost_ret (v := .agg #[.int .i64 k, .int .i64 dk, .int .i64 o, .int .i64 t, .int .i64 n, .int .i64 d, .slice (some ⟨gz, 0, none⟩) zs.length zs.length, .int .i64 at_, .int .i64 nu]) (by simp [results, Tryz.results8, go_sem, QR]) rfl ⟨gz, rfl, lz, Rz, B⟩
theorem lmarkDd (g cz : Nat) (k o t n d s : Int) (zs : List Int) (w : World) (h : Row w g zs) (hn : zs.length ≤ 1048576) (h0 : 0 ≤ s) (h1 : s ≤ 100000000000) :
  Calls Tryz.prog 41 #[.agg #[.int .i64 k, .int .i64 o, .int .i64 t, .int .i64 n, .int .i64 d, .slice (some ⟨g, 0, none⟩) zs.length cz], .int .i64 s] w fun e w' => e = .returned (.int .i64 (s + (zs.length : Int))) ∧ OffW w w' (fun q => q = g) := by
 have B := (Below.refl w.heap.size w).alloc (Nat.le_refl _) (.cells #[.int .i64 k, .int .i64 o, .int .i64 t, .int .i64 n, .int .i64 d, .slice (some ⟨g, 0, none⟩) zs.length cz] 51); have K := Blk.new w 51 #[.int .i64 k, .int .i64 o, .int .i64 t, .int .i64 n, .int .i64 d, .slice (some ⟨g, 0, none⟩) zs.length cz]; obtain ⟨q0, q1, q2, q3, q4, q5⟩ := cells6 K; have CM := Lib.hid (lmarkS g cz zs _ s (row_keep h B) hn h0 (by omega)); have HB := Lib.hid B; clear h B K; go_enter Tryz.func41, Tryz.ntmps41; go_wp2_with fail; refine CM.out.mono ?_; rintro e u ⟨rfl, G⟩; have O := (OffW.of_below (S := fun q => q = g) HB.out).trans (OffW.of_grown (S := fun q => q = g) G (fun q e => by injection e with e; exact e.symm)); clear q0 q1 q2 q3 q4 q5 G; go_wp2_with fail; go_ret; exact ⟨rfl, O⟩
theorem lmarkEv (g cz : Nat) (k dk o t n d at_ nu s : Int) (zs : List Int) (w : World) (h : Row w g zs) (hn : zs.length ≤ 1048576) (h0 : 0 ≤ s) (h1 : s ≤ 100000000000) :
  Calls Tryz.prog 13 #[.agg #[.int .i64 k, .int .i64 dk, .int .i64 o, .int .i64 t, .int .i64 n, .int .i64 d, .slice (some ⟨g, 0, none⟩) zs.length cz, .int .i64 at_, .int .i64 nu], .int .i64 s] w fun e w' => e = .returned (.int .i64 (s + (zs.length : Int))) ∧ OffW w w' (fun q => q = g) := by
 have B := (Below.refl w.heap.size w).alloc (Nat.le_refl _) (.cells #[.int .i64 k, .int .i64 dk, .int .i64 o, .int .i64 t, .int .i64 n, .int .i64 d, .slice (some ⟨g, 0, none⟩) zs.length cz, .int .i64 at_, .int .i64 nu] 53); have K := Blk.new w 53 #[.int .i64 k, .int .i64 dk, .int .i64 o, .int .i64 t, .int .i64 n, .int .i64 d, .slice (some ⟨g, 0, none⟩) zs.length cz, .int .i64 at_, .int .i64 nu]; obtain ⟨q0, q1, q2, q3, q4, q5, q6, q7, q8⟩ := cells9 K; have CM := Lib.hid (lmarkDd g cz dk o t n d s zs _ (row_keep h B) hn h0 h1); have HB := Lib.hid B; clear h B K; go_enter Tryz.func13, Tryz.ntmps13; go_wp2_with fail; refine CM.out.mono ?_; rintro e u ⟨rfl, G⟩; have O := (OffW.of_below (S := fun q => q = g) HB.out).trans G; clear q0 q1 q2 q3 q4 q5 q6 q7 q8 G; go_wp2_with fail; go_ret; exact ⟨rfl, O⟩
theorem TwO.not_ownE {w : World} {base g : Nat} {p : TA} {t : Tw} {cs : Array Value} (h : TwO w base p t) (K : Blk w g 53 cs) : ¬ p.own g := by
 rintro (e | e | e | e)
 ·exact rowF_not K h.o1 (by decide) e
 ·exact rowF_not K h.o2 (by decide) e
 ·exact rowF_not K h.o3 (by decide) e
 ·exact rowF_not K h.o4 (by decide) e
theorem row_off {w w' : World} {g : Nat} {zs : List Int} {S : Nat → Prop} (h : Row w g zs) (hO : OffW w w' S) (hS : ¬ S g) : Row w' g zs := World.rowIs.of_block h (hO.block g h.lt hS)
theorem keepQ {W wq v : World} {x y : Value} {k : Nat} (hb : Below W.heap.size W wq) (h : W.cell? ⟨k, 0, none⟩ = some x ∧ W.cell? ⟨k, 1, none⟩ = some y ∧ Below v.heap.size v W) : wq.cell? ⟨k, 0, none⟩ = some x ∧ wq.cell? ⟨k, 1, none⟩ = some y ∧ Below v.heap.size v wq :=
 ⟨(hb.cell (World.block_lt_of_cell? W _ h.1)).trans h.1, (hb.cell (World.block_lt_of_cell? W _ h.2.1)).trans h.2.1, bel_tr h.2.2 hb⟩
theorem keepQset {W v : World} {x y u z : Value} {b k : Nat} (h : W.cell? ⟨k, 0, none⟩ = some x ∧ W.cell? ⟨k, 1, none⟩ = some y ∧ Below v.heap.size v W) (hlt : k < b) (hv : v.heap.size ≤ b) : ((W.setCell ⟨b, 0, none⟩ u).setCell ⟨b, 1, none⟩ z).cell? ⟨k, 0, none⟩ = some x ∧ ((W.setCell ⟨b, 0, none⟩ u).setCell ⟨b, 1, none⟩ z).cell? ⟨k, 1, none⟩ = some y ∧ Below v.heap.size v ((W.setCell ⟨b, 0, none⟩ u).setCell ⟨b, 1, none⟩ z) := by
 have hq : ∀ (V : World) (i l : Nat) (z : Value), (V.setCell ⟨b, i, none⟩ z).cell? ⟨k, l, none⟩ = V.cell? ⟨k, l, none⟩ := fun V i l z => World.cell?_setCell_other V _ _ z (fun e => by injection e with e; omega)
 exact ⟨by rw [hq, hq]; exact h.1, by rw [hq, hq]; exact h.2.1, (h.2.2.setCell hv _).setCell hv _⟩
theorem keepQR {W v : World} {x y : Value} {o o' : Obj} {k : Nat} (h : (W.alloc o).cell? ⟨k, 0, none⟩ = some x ∧ (W.alloc o).cell? ⟨k, 1, none⟩ = some y ∧ Below v.heap.size v (W.alloc o)) (hB : Below v.heap.size v W) (hk : k < v.heap.size) (hlt : v.heap.size ≤ W.heap.size) : (W.alloc o').cell? ⟨k, 0, none⟩ = some x ∧ (W.alloc o').cell? ⟨k, 1, none⟩ = some y ∧ Below v.heap.size v (W.alloc o') := by
 have e : ∀ (l : Nat) (o : Obj), (W.alloc o).cell? ⟨k, l, none⟩ = W.cell? ⟨k, l, none⟩ := fun l o => World.cell?_alloc_lt W o ⟨k, l, none⟩ (by show k < W.heap.size; omega)
 rw [e, e] at h; exact ⟨by rw [e]; exact h.1, by rw [e]; exact h.2.1, hB.alloc hlt _⟩
theorem keepQR0 {v : World} {x y : Value} {o o' : Obj} {k : Nat} (hk : k < v.heap.size) (h : (v.alloc o).cell? ⟨k, 0, none⟩ = some x ∧ (v.alloc o).cell? ⟨k, 1, none⟩ = some y ∧ Below v.heap.size v (v.alloc o)) : (v.alloc o').cell? ⟨k, 0, none⟩ = some x ∧ (v.alloc o').cell? ⟨k, 1, none⟩ = some y ∧ Below v.heap.size v (v.alloc o') := keepQR h (Below.refl _ _) hk (Nat.le_refl _)
theorem own_next {w w' : World} {base : Nat} {v : Value} {hs : List Hd} (h : OwnH w base v hs) (hb : Below w.heap.size w w') : OwnH w' base v hs := by
 refine ⟨h.1, ?_⟩
 rcases h.2 with h | ⟨g, cap, cur, a, b, c, d⟩
 ·exact .inl h
 ·exact .inr ⟨g, cap, cur, a, b, (hb.block g (Blk.lt c)).trans c, d⟩
theorem keepV {w W wq : World} {p q r s : Addr} {x y u v : Value} (hb : Below W.heap.size W wq) (h : W.cell? p = some x ∧ W.cell? q = some y ∧ W.cell? r = some u ∧ W.cell? s = some v ∧ Below w.heap.size w W) : wq.cell? p = some x ∧ wq.cell? q = some y ∧ wq.cell? r = some u ∧ wq.cell? s = some v ∧ Below w.heap.size w wq := by
 have n : ∀ {p : Addr} {v : Value}, W.cell? p = some v → wq.cell? p = some v := fun h => (hb.cell (World.block_lt_of_cell? W _ h)).trans h
 exact ⟨n h.1, n h.2.1, n h.2.2.1, n h.2.2.2.1, bel_tr h.2.2.2.2 hb⟩
theorem keepVb {w W : World} {p q r s : Addr} {x y u v : Value} (h : W.cell? p = some x ∧ W.cell? q = some y ∧ W.cell? r = some u ∧ W.cell? s = some v ∧ Below w.heap.size w W) : Below w.heap.size w W := h.2.2.2.2
theorem ssubQ {an ad bn bd x y : Int} {b : Bool} (w : World) (ha : Wsh.vfB an ad = true) (hb : Wsh.vfB bn bd = true) (hr : Wsh.redB (an * bd - bn * ad) (ad * bd) = b) (hx : Wsh.rn (an * bd - bn * ad) (ad * bd) = x) (hy : Wsh.rd (an * bd - bn * ad) (ad * bd) = y) :
  Calls Tryz.prog 117 #[.agg #[.int .i64 an, .int .i64 ad], .agg #[.int .i64 bn, .int .i64 bd]] w fun e w' => e = .returned (.tuple #[.agg #[.int .i64 (Wsh.qn b x), .int .i64 (Wsh.qn b y)], .bool b]) ∧ Below w.heap.size w w' := by
 have := ssub an ad bn bd w ha hb; rw [hr, hx, hy] at this; exact this
theorem sshareL (a : Option Addr) (cap : Nat) (L : Led) (hs : List Hd) (o : Int) (w : World) (h : IsHs w a hs) (hh : hs = rawL L) (hn : hs.length ≤ 1048576) :
  Calls Tryz.prog 91 #[.slice a hs.length cap, .int .i64 o] w fun e w' => e = .returned (.agg #[.int .i64 (shareL L o).num, .int .i64 ((shareL L o).den : Int)]) ∧ Below w.heap.size w w' := by
 have := sshare a cap hs o w h hn; unfold ShareV at this; rw [hh, shR_raw] at this; rw [hh]; exact this
theorem sub_led2 {L : Led} (hf : ∀ x ∈ L, frB x.2 = true) (o : Int) {p : Rat} (hp : frB p = true) :
  Wsh.vfB (shareL L o).num ((shareL L o).den : Int) = true ∧ Wsh.vfB p.num (p.den : Int) = true ∧ Wsh.redB ((shareL L o).num * (p.den : Int) - p.num * ((shareL L o).den : Int)) (((shareL L o).den : Int) * (p.den : Int)) = frB (shareL L o - p) ∧ Wsh.redB ((shareL L o).num * (p.den : Int) + p.num * ((shareL L o).den : Int)) (((shareL L o).den : Int) * (p.den : Int)) = frB (shareL L o + p) :=
 ⟨q_vf (share_frA hf o), q_vf hp, (sub_red (shareL L o) p).1, (add_red (shareL L o) p).1⟩
theorem ssell (a : Option Addr) (cap : Nat) (L : Led) (hs : List Hd) (fr tt pn pd : Int) (p : Rat) (w : World) (hcc : IsHs w a hs) (hh : hs = rawL L) (hn : hs.length ≤ 900) (hf : ∀ x ∈ L, frB x.2 = true) (hp : frB p = true) (hpn : pn = p.num) (hpd : pd = (p.den : Int)) :
    Calls Tryz.prog 89 #[.slice a hs.length cap, .int .i64 fr, .int .i64 tt, .agg #[.int .i64 pn, .int .i64 pd]] w (MoveV w (sellB L fr tt p) (soldL L fr tt p)) := by
  obtain ⟨q4, q5, q1, r1⟩ := sub_led2 hf fr hp; obtain ⟨_, q2, q3⟩ := sub_led hf fr hp; obtain ⟨s4, _, _, s1⟩ := sub_led2 hf tt hp; obtain ⟨_, s2, s3⟩ := add_led hf tt hp; have A1 := Lib.hid q1; have A2 := Lib.hid q2; have A3 := Lib.hid q3; have A4 := Lib.hid q4; have A5 := Lib.hid q5; have C1 := Lib.hid s1; have C2 := Lib.hid s2; have C3 := Lib.hid s3; have C4 := Lib.hid s4; have HI := Lib.hid hcc; have HH := Lib.hid hh; have HF := Lib.hid hf; have HP := Lib.hid hp; have HPn := Lib.hid hpn; have HPd := Lib.hid hpd; rw [← hpn, ← hpd] at A1 A2 A3 A5 C1 C2 C3; clear q1 q2 q3 q4 q5 r1 s1 s2 s3 s4 hcc hh hf hp hpn hpd
  obtain ⟨b, hb⟩ : ∃ b, frB (shareL L fr - p) = b := ⟨_, rfl⟩
  obtain ⟨c, hc⟩ : ∃ c, frB (shareL L tt + p) = c := ⟨_, rfl⟩
  rw [hb] at A1; rw [hc] at C1; have HB := Lib.hid hb; have HC := Lib.hid hc; clear hb hc; go_enter Tryz.func89, Tryz.ntmps89
  go_upto_region 1 with fail
  go_cut [10, 11] (fun sx sy wx => ∃ k : Nat, sx = .pointer (some ⟨k, 0, none⟩) ∧ sy = .bool b ∧ Blk wx k 49 #[.int .i64 (Wsh.qn b (shareL L fr - p).num), .int .i64 (Wsh.qn b ((shareL L fr - p).den : Int))] ∧ w.heap.size < k ∧ wx.cell? ⟨w.heap.size, 0, none⟩ = some (.int .i64 pn) ∧ wx.cell? ⟨w.heap.size, 1, none⟩ = some (.int .i64 pd) ∧ Below w.heap.size w wx)
  case first =>
    go_region_held3 (fun w' => w'.cell? ⟨w.heap.size, 0, none⟩ = some (.int .i64 pn) ∧ w'.cell? ⟨w.heap.size, 1, none⟩ = some (.int .i64 pd) ∧ Below w.heap.size w w') (first | (exact keepM hb (by assumption)) | (exact keepM ((Below.refl _ _).alloc (Nat.le_refl _) _) (by assumption)) | (exact keepMR (by assumption) hBq (by omega)) | (exact keepMset (by assumption) (by first | omega | (simp; omega))) | (refine ⟨?_, ?_, ?_⟩ <;> first | (go_keep; done) | (go_grown; done)))
      (first | (go_at_call 91; refine (sshareL _ _ L hs fr _ (hs_below HI.out (And.right (And.right (by assumption)))) HH.out (by omega)).mono ?_; rintro e wq ⟨rfl, hb⟩; have hBq := (keepM hb (by assumption)).2.2; obtain ⟨hc, hf⟩ := bcell hb; have hzz := hb.size; (try simp only [World.size_alloc] at hzz); (try simp only [World.size_drew] at hzz); (try simp only [World.size_alloc] at hzz); (try simp only [Nat.add_one_le_iff] at hzz); (try have hq : w.heap.size + 1 < wq.heap.size := by omega); (try have hq3 : w.heap.size < wq.heap.size := by omega)) | (go_at_call 117; refine (ssubQ _ A4.out A5.out A1.out A2.out A3.out).mono ?_; rintro e wq ⟨rfl, hb⟩; have hBq := (keepM hb (by assumption)).2.2; obtain ⟨hc, hf⟩ := bcell hb; have hzz := hb.size; (try simp only [World.size_alloc] at hzz); (try simp only [World.size_drew] at hzz); (try simp only [World.size_alloc] at hzz); (try simp only [Nat.add_one_le_iff] at hzz); (try have hq : w.heap.size + 1 < wq.heap.size := by omega); (try have hq3 : w.heap.size < wq.heap.size := by omega)))
    all_goals
      have hS := ‹_ ∧ _›; go_wp2_with fail
      go_meet
      first
      | exact ⟨_, rfl, rfl, Blk.new _ _ _, by omega, hS.1, hS.2.1, hS.2.2⟩
      | exact ⟨_, rfl, rfl, ((Blk.new _ _ _).next hb).two _ _, by omega, hS.1, hS.2.1, hS.2.2⟩
      | exact ⟨_, rfl, rfl, (((blk_second w _ _ _).next (by assumption)).next hb).two _ _, by omega, hS.1, hS.2.1, hS.2.2⟩
      | exact ⟨_, rfl, rfl, (((blk_second w _ _ _).drew.next (by assumption)).next hb).two _ _, by omega, hS.1, hS.2.1, hS.2.2⟩
  case rest =>
    obtain ⟨k, rfl, rfl, hblk, hk, c0, c1, hB⟩ := hcut; have hbx : w.heap.size < wc.heap.size := World.block_lt_of_cell? wc _ c0; have HK := Lib.hid hblk; clear hblk
    go_upto_region 2 with fail
    go_cut [12, 13] (fun sx sy wx => ∃ k : Nat, sx = .pointer (some ⟨k, 0, none⟩) ∧ sy = .bool c ∧ Blk wx k 49 #[.int .i64 (Wsh.qn c (shareL L tt + p).num), .int .i64 (Wsh.qn c ((shareL L tt + p).den : Int))] ∧ wc.heap.size ≤ k ∧ wx.cell? ⟨w.heap.size, 0, none⟩ = some (.int .i64 pn) ∧ wx.cell? ⟨w.heap.size, 1, none⟩ = some (.int .i64 pd) ∧ Below wc.heap.size wc wx)
    case first =>
      go_region_held3 (fun w' => w'.cell? ⟨w.heap.size, 0, none⟩ = some (.int .i64 pn) ∧ w'.cell? ⟨w.heap.size, 1, none⟩ = some (.int .i64 pd) ∧ Below wc.heap.size wc w') (first | (exact keepQ hb (by assumption)) | (exact keepQ ((Below.refl _ _).alloc (Nat.le_refl _) _) (by assumption)) | (exact keepQR (by assumption) hBq hbx (by omega)) | (exact keepQR0 hbx (by assumption)) | (exact keepQset (by assumption) (by first | omega | (simp; omega)) (by first | omega | (simp; omega))) | (refine ⟨?_, ?_, ?_⟩ <;> first | (go_keep; done) | (exact (Below.refl _ _).drew) | (go_grown; done)))
        (first | (go_at_call 91; refine (sshareL _ _ L hs tt _ (hs_below (hs_below HI.out hB) (And.right (And.right (by assumption)))) HH.out (by omega)).mono ?_; rintro e wq ⟨rfl, hb⟩; have hBq := (keepQ hb (by assumption)).2.2; obtain ⟨hc, hf⟩ := bcell hb; have hzz := hb.size; (try simp only [World.size_alloc] at hzz); (try simp only [World.size_drew] at hzz); (try simp only [World.size_alloc] at hzz); (try simp only [Nat.add_one_le_iff] at hzz); (try have hq : wc.heap.size + 1 < wq.heap.size := by omega); (try have hq3 : wc.heap.size < wq.heap.size := by omega); (try have hq4 : wc.heap.size ≤ wq.heap.size := by omega)) | (go_at_call 116; refine (saddQ _ C4.out A5.out C1.out C2.out C3.out).mono ?_; rintro e wq ⟨rfl, hb⟩; have hBq := (keepQ hb (by assumption)).2.2; obtain ⟨hc, hf⟩ := bcell hb; have hzz := hb.size; (try simp only [World.size_alloc] at hzz); (try simp only [World.size_drew] at hzz); (try simp only [World.size_alloc] at hzz); (try simp only [Nat.add_one_le_iff] at hzz); (try have hq : wc.heap.size + 1 < wq.heap.size := by omega); (try have hq3 : wc.heap.size < wq.heap.size := by omega); (try have hq4 : wc.heap.size ≤ wq.heap.size := by omega)))
      all_goals
        have hS := ‹_ ∧ _›; go_wp2_with fail
        go_meet
        first
        | exact ⟨_, rfl, rfl, Blk.new _ _ _, by omega, hS.1, hS.2.1, hS.2.2⟩
        | exact ⟨_, rfl, rfl, ((Blk.new _ _ _).next hb).two _ _, by omega, hS.1, hS.2.1, hS.2.2⟩
        | exact ⟨_, rfl, rfl, (((Blk.new wc _ _).next (by assumption)).next hb).two _ _, by omega, hS.1, hS.2.1, hS.2.2⟩
        | exact ⟨_, rfl, rfl, (((Blk.new wc _ _).drew.next (by assumption)).next hb).two _ _, by omega, hS.1, hS.2.1, hS.2.2⟩
    case rest =>
      obtain ⟨k2, rfl, rfl, hblk2, hk2, d0, d1, hB2⟩ := hcut; obtain ⟨t0, t1, t2, t3, t4⟩ := blk_two (HK.out.next hB2); obtain ⟨r0, r1, r2, r3, r4⟩ := blk_two hblk2; have hBB := bel_tr hB hB2; clear hblk2 c0 c1 HK hB2 hB
      have HE : Hid (sellB L fr tt p = (b && c && decide (p ≠ 0) && decide (fr ≠ tt) && decide (1 ≤ tt) && decide (tt ≤ 999) && vlB (soldL L fr tt p))) := by show _ = _; unfold sellB; rw [HB.out, HC.out]
      have HZ : Hid ((pn = 0) ↔ p = 0) := by show _ ↔ _; rw [HPn.out]; exact num_zero p
      cases b with
      | false =>
        have HN : Hid (sellB L fr tt p = false) := HE.out; go_wp2_with fail
        go_returns
        exact ⟨_, by rw [HN.out]; rfl, (fun _ => rfl), (fun c => by rw [HN.out] at c; cases c), hBB⟩
      | true =>
        cases c with
        | false =>
          have HN : Hid (sellB L fr tt p = false) := HE.out; go_wp2_with fail
          go_returns
          exact ⟨_, by rw [HN.out]; rfl, (fun _ => rfl), (fun c => by rw [HN.out] at c; cases c), hBB⟩
        | true =>
          rw [Wsh.qn_true] at t0 t1 r0 r1
          by_cases hp0 : pn = 0
          · have HN : Hid (sellB L fr tt p = false) := by show _ = _; rw [HE.out]; simp [HZ.out.1 hp0]
            have e : (pn == 0) = true := by simpa using hp0
            clear hp0; go_wp2_with fail
            go_returns
            exact ⟨_, by rw [HN.out]; rfl, (fun _ => rfl), (fun c => by rw [HN.out] at c; cases c), hBB⟩
          · have e : (pn == 0) = false := by simpa using hp0
            have HPz : Hid (p ≠ 0) := fun c => hp0 (HZ.out.2 c)
            clear hp0
            by_cases hft : fr = tt
            · have HN : Hid (sellB L fr tt p = false) := by show _ = _; rw [HE.out]; simp [hft]
              have e2 : (fr == tt) = true := by simpa using hft
              clear hft; go_wp2_with fail
              go_returns
              exact ⟨_, by rw [HN.out]; rfl, (fun _ => rfl), (fun c => by rw [HN.out] at c; cases c), hBB⟩
            · have e2 : (fr == tt) = false := by simpa using hft
              have HFT := Lib.hid hft; clear hft
              by_cases hr : tt < 1 ∨ 999 < tt
              · have HN : Hid (sellB L fr tt p = false) := by show _ = _; rw [HE.out]; simp; omega
                go_wp2_with fail; refine (inRange_no tt 1 999 _ hr).mono ?_; rintro e w' ⟨rfl, rfl⟩; go_wp2_with fail
                go_returns
                exact ⟨_, by rw [HN.out]; rfl, (fun _ => rfl), (fun c => by rw [HN.out] at c; cases c), hBB⟩
              · have hE : sellB L fr tt p = vlB (soldL L fr tt p) := by
                  have h1 : 1 ≤ tt := by omega
                  have h2 : tt ≤ 999 := by omega
                  rw [HE.out]; simp [HPz.out, HFT.out, h1, h2]
                have HEE := Lib.hid hE; clear hE
                have hl1 : (rawL (setL L fr (shareL L fr - p))).length ≤ 1000 := by
                  rw [raw_len]; have := set_len (L := L) fr (shareL L fr - p); have e := congrArg List.length HH.out; rw [raw_len] at e
                  omega
                have hl2 : (rawL (soldL L fr tt p)).length ≤ 1048576 := by
                  rw [raw_len]; have := set_len (L := setL L fr (shareL L fr - p)) tt (shareL L tt + p); rw [raw_len] at hl1; unfold soldL
                  omega
                go_wp2_with fail; refine (inRange_yes tt 1 999 _ (by omega) (by omega)).mono ?_; rintro e w' ⟨rfl, rfl⟩; go_wp2_with fail
                go_region_held3 (fun w' => w'.cell? ⟨k, 0, none⟩ = some (.int .i64 (shareL L fr - p).num) ∧ w'.cell? ⟨k, 1, none⟩ = some (.int .i64 ((shareL L fr - p).den : Int)) ∧ w'.cell? ⟨k2, 0, none⟩ = some (.int .i64 (shareL L tt + p).num) ∧ w'.cell? ⟨k2, 1, none⟩ = some (.int .i64 ((shareL L tt + p).den : Int)) ∧ Below w.heap.size w w') (first | (exact keepV hb (by assumption)) | (refine ⟨?_, ?_, ?_, ?_, ?_⟩ <;> first | (go_keep; done) | exact hBB.drew))
                  (first | (go_at_call_of 118 (Value.slice a hs.length cap); refine (sset a cap L hs fr _ _ (shareL L fr - p) _ (hs_below HI.out (keepVb (by assumption))) HH.out (by omega) (.inl ⟨rfl, rfl⟩)).mono ?_; rintro e wq ⟨v1, rfl, hO, hb⟩; have hsz1 := hb.size; obtain ⟨b1, cp1, rfl, hI1, hc1⟩ := own_hs2 hO) | (go_at_call 118; refine (sset _ _ (setL L fr (shareL L fr - p)) _ tt _ _ (shareL L tt + p) _ hI1 rfl hl1 (.inl ⟨rfl, rfl⟩)).mono ?_; rintro e wq2 ⟨v2, rfl, hO2, hb⟩))
                have hBF : Below w.heap.size w wq2 := keepVb (by assumption); have hO3 : OwnH wq2 w.heap.size v2 (rawL (soldL L fr tt p)) := own_le hO2 (Nat.le_trans hBB.size hsz1); obtain ⟨b2, cp2, rfl, hI2, hc2⟩ := own_hs2 hO3; have hv := svl b2 cp2 _ wq2 hI2 hl2; rw [vlR_vl] at hv; have HO3 := Lib.hid hO3; clear hO3 hO2 hO
                cases hvl : vlB (soldL L fr tt p) with
                | false =>
                  rw [hvl] at hv
                  have HN : Hid (sellB L fr tt p = false) := by show _ = _; rw [HEE.out]; exact hvl
                  clear hvl; go_wp2_with fail; refine hv.mono ?_; rintro e w4 ⟨rfl, hb4⟩; go_wp2_with fail
                  go_returns
                  exact ⟨_, by rw [HN.out]; rfl, (fun _ => rfl), (fun c => by rw [HN.out] at c; cases c), bel_tr hBF hb4⟩
                | true =>
                  rw [hvl] at hv
                  have HN : Hid (sellB L fr tt p = true) := by show _ = _; rw [HEE.out]; exact hvl
                  clear hvl; go_wp2_with fail; refine hv.mono ?_; rintro e w4 ⟨rfl, hb4⟩; go_wp2_with fail
                  go_returns
                  exact ⟨_, by rw [HN.out]; rfl, (fun c => by rw [HN.out] at c; cases c), (fun _ => own_next HO3.out hb4), bel_tr hBF hb4⟩
def selB (hs : List Hd) (fr tt pn pd : Int) : Bool := vlR hs && Wsh.vfB pn pd && sellB (ledOf hs) fr tt (Rat.divInt pn pd)
def selL (hs : List Hd) (fr tt pn pd : Int) : Led := soldL (ledOf hs) fr tt (Rat.divInt pn pd)
theorem led_eq {hs : List Hd} (h : vlR hs = true) : hs = rawL (ledOf hs) := (vlR_is h).1.symm
theorem led_le {hs : List Hd} (h : vlR hs = true) : hs.length ≤ 12 := by have := (vlR_is h).2.len; rwa [led_len] at this
theorem ipart_yes (n d : Int) (w : World) (h : Wsh.vfB n d = true) (h0 : 0 < n) :
  Calls Tryz.prog 149 #[.agg #[.int .i64 n, .int .i64 d]] w fun e w' => e = .returned (.bool true) ∧ Below w.heap.size w w' := by
 have IV := iValid n d (w.alloc (.cells #[.int .i64 n, .int .i64 d] 49)); rw [h] at IV; clear h; go_enter Tryz.func149, Tryz.ntmps149; go_wp2_with fail; refine IV.mono ?_; rintro e w1 ⟨rfl, hb⟩; obtain ⟨t0, t1, t2, t3, t4⟩ := blk_two ((Blk.new w 49 #[.int .i64 n, .int .i64 d]).next hb); have hB1 : Below w.heap.size w w1 := bel_tr (by go_grown) hb; clear hb; go_wp2_with fail; go_ret; exact ⟨ret_bool (by simp), hB1⟩
theorem ipart_no (n d : Int) (w : World) (h : Wsh.vfB n d = false ∨ n ≤ 0) :
    Calls Tryz.prog 149 #[.agg #[.int .i64 n, .int .i64 d]] w fun e w' => e = .returned (.bool false) ∧ Below w.heap.size w w' := by
  have IV := iValid n d (w.alloc (.cells #[.int .i64 n, .int .i64 d] 49))
  cases hv : Wsh.vfB n d with
  | false =>
    rw [hv] at IV; clear h hv; go_enter Tryz.func149, Tryz.ntmps149; go_wp2_with fail; refine IV.mono ?_; rintro e w1 ⟨rfl, hb⟩; have hB1 : Below w.heap.size w w1 := bel_tr (by go_grown) hb; go_wp2_with fail; go_ret; exact ⟨rfl, hB1⟩
  | true =>
    rw [hv] at IV
    have h0 : n ≤ 0 := by
      rcases h with h | h
      · rw [hv] at h; cases h
      · exact h
    clear h hv; go_enter Tryz.func149, Tryz.ntmps149; go_wp2_with fail; refine IV.mono ?_; rintro e w1 ⟨rfl, hb⟩; obtain ⟨t0, t1, t2, t3, t4⟩ := blk_two ((Blk.new w 49 #[.int .i64 n, .int .i64 d]).next hb); have hB1 : Below w.heap.size w w1 := bel_tr (by go_grown) hb; clear hb; go_wp2_with fail; go_ret; exact ⟨ret_bool (by simp; omega), hB1⟩
theorem iSell (a : Option Addr) (cap : Nat) (hs : List Hd) (fr tt pn pd : Int) (w : World) (h : IsHs w a hs) (hn : hs.length ≤ 1048576) (hc : hs.length ≤ cap) :
    Calls Tryz.prog 131 #[.slice a hs.length cap, .int .i64 fr, .int .i64 tt, .agg #[.int .i64 pn, .int .i64 pd]] w (MoveV w (selB hs fr tt pn pd) (selL hs fr tt pn pd)) := by
  have hB0 : Below w.heap.size w (w.alloc (.cells #[.int .i64 pn, .int .i64 pd] 49)) := by go_grown
  have CV := iVL a cap hs (w.alloc (.cells #[.int .i64 pn, .int .i64 pd] 49)) (hs_below h hB0) hn; have HI := Lib.hid h; have HB0 := Lib.hid hB0; have HC := Lib.hid hc; clear h hB0 hc
  cases hv : vlR hs with
  | false =>
    rw [hv] at CV
    have HN : Hid (selB hs fr tt pn pd = false) := by show _ = _; unfold selB; rw [hv]; rfl
    clear hv; go_enter Tryz.func131, Tryz.ntmps131; go_wp2_with fail; refine CV.mono ?_; rintro e w1 ⟨rfl, hb⟩; go_wp2_with fail
    go_returns
    exact ⟨_, by rw [HN.out]; rfl, (fun _ => rfl), (fun c => by rw [HN.out] at c; cases c), bel_tr HB0.out hb⟩
  | true =>
    rw [hv] at CV; have HV := Lib.hid hv; clear hv
    by_cases hr : tt < 1 ∨ 999 < tt
    · have HN : Hid (selB hs fr tt pn pd = false) := by
        show _ = _
        cases hx : selB hs fr tt pn pd with
        | false => rfl
        | true =>
          unfold selB at hx; simp only [Bool.and_eq_true] at hx; have := (sell_iff _ _ _ _).1 hx.2
          omega
      go_enter Tryz.func131, Tryz.ntmps131; go_wp2_with fail; refine CV.mono ?_; rintro e w1 ⟨rfl, hb⟩; have hB1 := bel_tr HB0.out hb; go_wp2_with fail; refine (iowner_no tt _ hr).mono ?_; rintro e w' ⟨rfl, rfl⟩; go_wp2_with fail
      go_returns
      exact ⟨_, by rw [HN.out]; rfl, (fun _ => rfl), (fun c => by rw [HN.out] at c; cases c), hB1⟩
    · have h1 : 1 ≤ tt := by omega
      have h2 : tt ≤ 999 := by omega
      clear hr
      by_cases hft : fr = tt
      · have HN : Hid (selB hs fr tt pn pd = false) := by
          show _ = _
          cases hx : selB hs fr tt pn pd with
          | false => rfl
          | true =>
            unfold selB at hx; simp only [Bool.and_eq_true] at hx; exact absurd hft ((sell_iff _ _ _ _).1 hx.2).2.2.2.1
        have e2 : (fr == tt) = true := by simpa using hft
        clear hft; go_enter Tryz.func131, Tryz.ntmps131; go_wp2_with fail; refine CV.mono ?_; rintro e w1 ⟨rfl, hb⟩; have hB1 := bel_tr HB0.out hb; go_wp2_with fail; refine (iowner_yes tt _ h1 h2).mono ?_; rintro e w' ⟨rfl, rfl⟩; go_wp2_with fail
        go_returns
        exact ⟨_, by rw [HN.out]; rfl, (fun _ => rfl), (fun c => by rw [HN.out] at c; cases c), hB1⟩
      · have e2 : (fr == tt) = false := by simpa using hft
        have HFT := Lib.hid hft; clear hft
        by_cases hp : Wsh.vfB pn pd = false ∨ pn ≤ 0
        · have HN : Hid (selB hs fr tt pn pd = false) := by
            show _ = _
            cases hx : selB hs fr tt pn pd with
            | false => rfl
            | true =>
              unfold selB at hx; simp only [Bool.and_eq_true] at hx; have hp0 := ((sell_iff _ _ _ _).1 hx.2).2.2.1; have hvf := hx.1.2
              rcases hp with hp | hp
              · rw [hp] at hvf; cases hvf
              · have hk := (Wsh.vfB_iff _ _).1 hvf
                have : pn = 0 := by omega
                obtain ⟨e1, _, _⟩ := vf_q hvf; exact absurd ((num_zero _).1 (e1.trans this)) hp0
          have HP : Hid (Wsh.vfB pn pd = false ∨ pn ≤ 0) := hp; clear hp; go_enter Tryz.func131, Tryz.ntmps131; go_wp2_with fail; refine CV.mono ?_; rintro e w1 ⟨rfl, hb⟩; obtain ⟨t0, t1, t2, t3, t4⟩ := blk_two ((Blk.new w 49 #[.int .i64 pn, .int .i64 pd]).next hb); have hB1 := bel_tr HB0.out hb; clear hb CV; go_wp2_with fail; refine (iowner_yes tt _ h1 h2).mono ?_; rintro e w' ⟨rfl, rfl⟩; go_wp2_with fail; refine (ipart_no pn pd _ HP.out).mono ?_; rintro e w2 ⟨rfl, hb⟩; go_wp2_with fail
          go_returns
          exact ⟨_, by rw [HN.out]; rfl, (fun _ => rfl), (fun c => by rw [HN.out] at c; cases c), bel_tr hB1 hb⟩
        · have hvf : Wsh.vfB pn pd = true := by
            cases hx : Wsh.vfB pn pd with
            | true => rfl
            | false => exact absurd (.inl hx) hp
          have hpos : 0 < pn := by
            rcases Int.lt_or_le 0 pn with h | h
            · exact h
            · exact absurd (.inr (by omega)) hp
          clear hp; obtain ⟨e1, e2', e3⟩ := vf_q hvf; have hL := (vlR_is HV.out).2; have hle := led_le HV.out; have HVL := Lib.hid hL; have HEq := Lib.hid (led_eq HV.out)
          obtain ⟨p, hpe⟩ : ∃ p, p = Rat.divInt pn pd := ⟨_, rfl⟩
          rw [← hpe] at e1 e2' e3
          have HE : Hid (selB hs fr tt pn pd = (frB (shareL (ledOf hs) fr - p) && frB (shareL (ledOf hs) tt + p) && vlB (soldL (ledOf hs) fr tt p))) := by
            show _ = _
            have hp0 : p ≠ 0 := fun c => by rw [(num_zero p).2 c] at e1; omega
            unfold selB sellB; rw [HV.out, hvf, ← hpe, decide_eq_true hp0, decide_eq_true HFT.out, decide_eq_true h1, decide_eq_true h2]
            simp
          have HSl : Hid (selL hs fr tt pn pd = soldL (ledOf hs) fr tt p) := by show _ = _; unfold selL; rw [hpe]
          have HT2 : Hid (setL (setL (ledOf hs) fr (shareL (ledOf hs) fr - p)) tt (shareL (setL (ledOf hs) fr (shareL (ledOf hs) fr - p)) tt + p) = soldL (ledOf hs) fr tt p) := sold_two hL.asc (fun e => HFT.out e.symm) p
          have HT3 : Hid (shareL (setL (ledOf hs) fr (shareL (ledOf hs) fr - p)) tt = shareL (ledOf hs) tt) := by show _ = _; rw [share_set hL.asc, if_neg (fun e => HFT.out e.symm)]
          have HVf := Lib.hid hvf; have E1 := Lib.hid e1; have E2 := Lib.hid e2'; have E3 := Lib.hid e3
          have hl2 : (rawL (soldL (ledOf hs) fr tt p)).length ≤ 1048576 := by
            rw [raw_len]; have b1 := set_len (L := setL (ledOf hs) fr (shareL (ledOf hs) fr - p)) tt (shareL (ledOf hs) tt + p); have b2 := set_len (L := ledOf hs) fr (shareL (ledOf hs) fr - p); rw [led_len] at b2; unfold soldL
            omega
          clear e1 e2' e3 hvf hL hpe; go_enter Tryz.func131, Tryz.ntmps131; go_wp2_with fail; refine CV.mono ?_; rintro e w1 ⟨rfl, hb⟩; have hblk := (Blk.new w 49 #[.int .i64 pn, .int .i64 pd]).next hb; obtain ⟨t0, t1, t2, t3, t4⟩ := blk_two hblk; have HK := Lib.hid hblk; have hB1 := bel_tr HB0.out hb; clear hb CV hblk; go_wp2_with fail; refine (iowner_yes tt _ h1 h2).mono ?_; rintro e w' ⟨rfl, rfl⟩; go_wp2_with fail; refine (ipart_yes pn pd _ HVf.out hpos).mono ?_; rintro e w2 ⟨rfl, hb⟩; obtain ⟨t0, t1, t2, t3, t4⟩ := blk_two (HK.out.next hb); have hB2 := bel_tr hB1 hb; clear hb HK; go_wp2_with fail; have MV := imove a cap (ledOf hs) hs fr tt pn pd p w2 (hs_below HI.out hB2) HEq.out (by omega) HVL.out.asc HVL.out.fr E3.out E1.out.symm E2.out.symm HC.out; rw [HT2.out, HT3.out] at MV; refine MV.mono ?_; rintro e w3 ⟨v, rfl, m1, m2, hb⟩; have hB3 := bel_tr hB2 hb
          have hO0 := fun c => own_le (m2 c) hB2.size
          have HE' := HE.out; generalize (frB (shareL (ledOf hs) fr - p) && frB (shareL (ledOf hs) tt + p)) = bb at m1 m2 hO0 HE' ⊢; have HM := Lib.hid m1; have HO := Lib.hid hO0; have HEE := Lib.hid HE'; clear m1 m2 hO0 HE' hb MV
          cases bb with
          | false =>
            have HN : Hid (selB hs fr tt pn pd = false) := by show _ = _; rw [HEE.out]; rfl
            go_wp2_with fail
            go_returns
            exact ⟨_, by rw [HN.out]; rfl, (fun _ => rfl), (fun c => by rw [HN.out] at c; cases c), hB3⟩
          | true =>
            have hO := HO.out rfl; obtain ⟨b2, cp2, rfl, hI2, hc2⟩ := own_hs2 hO; have hv := iVL b2 cp2 _ w3 hI2 hl2; rw [vlR_vl] at hv; have HO3 := Lib.hid hO; clear hO HO HM
            cases hvl : vlB (soldL (ledOf hs) fr tt p) with
            | false =>
              rw [hvl] at hv
              have HN : Hid (selB hs fr tt pn pd = false) := by show _ = _; rw [HEE.out, hvl]; rfl
              clear hvl; go_wp2_with fail; refine hv.mono ?_; rintro e w4 ⟨rfl, hb4⟩; go_wp2_with fail
              go_returns
              exact ⟨_, by rw [HN.out]; rfl, (fun _ => rfl), (fun c => by rw [HN.out] at c; cases c), bel_tr hB3 hb4⟩
            | true =>
              rw [hvl] at hv
              have HN : Hid (selB hs fr tt pn pd = true) := by show _ = _; rw [HEE.out, hvl]; rfl
              clear hvl; go_wp2_with fail; refine hv.mono ?_; rintro e w4 ⟨rfl, hb4⟩; go_wp2_with fail
              go_returns
              exact ⟨_, by rw [HN.out]; rfl, (fun c => by rw [HN.out] at c; cases c), (fun _ => by rw [HSl.out]; exact own_next HO3.out hb4), bel_tr hB3 hb4⟩
def joinB (hs : List Hd) (fr tt : Int) : Bool := selB hs fr tt (shV hs fr).1 (shV hs fr).2
def joinL' (hs : List Hd) (fr tt : Int) : Led := selL hs fr tt (shV hs fr).1 (shV hs fr).2
theorem iJoin (a : Option Addr) (cap : Nat) (hs : List Hd) (fr tt : Int) (w : World) (h : IsHs w a hs) (hn : hs.length ≤ 1048576) (hc : hs.length ≤ cap) :
  Calls Tryz.prog 133 #[.slice a hs.length cap, .int .i64 fr, .int .i64 tt] w (MoveV w (joinB hs fr tt) (joinL' hs fr tt)) := by
 have HI := Lib.hid h; clear h; go_enter Tryz.func133, Tryz.ntmps133; go_wp2_with fail; refine (iShareOf a cap hs fr _ HI.out hn).mono ?_; rintro e w1 ⟨rfl, hb⟩; go_wp2_with fail; refine (iSell a cap hs fr tt _ _ _ (hs_below HI.out hb) hn hc).mono ?_; rintro e w2 ⟨v, rfl, m1, m2, hb2⟩; go_wp2_with fail
 go_returns
 exact ⟨v, rfl, m1, (fun c => own_le (m2 c) hb.size), bel_tr hb hb2⟩
def gvTo (p : Rat) (L : Led) (zs : List Int) (k : Nat) : Led := giveL p L (zs.take k)
def gvOk (p : Rat) (L : Led) (zs : List Int) (k : Nat) : Bool := frB (shareL (gvTo p L zs k) (zs.getD k 0) + p)
def gvAll (p : Rat) (L : Led) (zs : List Int) : Bool := (List.range zs.length).all (gvOk p L zs)
theorem gv_zero (p : Rat) (L : Led) (zs : List Int) : gvTo p L zs 0 = L := rfl
theorem gv_succ (p : Rat) (L : Led) {zs : List Int} {k : Nat} (h : k < zs.length) : gvTo p L zs (k + 1) = setL (gvTo p L zs k) (zs.getD k 0) (shareL (gvTo p L zs k) (zs.getD k 0) + p) := by
 unfold gvTo; rw [take_snocD zs h 0, give_snoc]
theorem gv_end (p : Rat) (L : Led) (zs : List Int) : gvTo p L zs zs.length = giveL p L zs := by unfold gvTo; rw [List.take_of_length_le (Nat.le_refl _)]
theorem gv_asc {p : Rat} {L : Led} (h : Asc L) (zs : List Int) (k : Nat) : Asc (gvTo p L zs k) := give_asc p _ _ h
theorem gv_fr {p : Rat} {L : Led} (h : ∀ x ∈ L, frB x.2 = true) {zs : List Int} : ∀ k, k ≤ zs.length → (∀ j, j < k → gvOk p L zs j = true) → ∀ x ∈ gvTo p L zs k, frB x.2 = true := by
  intro k
  induction k with
  | zero => intro _ _; exact h
  | succ k ih =>
    intro hk hj; rw [gv_succ p L (by omega)]; exact fr_set (ih (by omega) (fun j hj' => hj j (by omega))) _ (hj k (by omega))
theorem gv_len {p : Rat} {L : Led} {zs : List Int} : ∀ k, k ≤ zs.length → (gvTo p L zs k).length ≤ L.length + k := by
  intro k
  induction k with
  | zero => intro _; exact Nat.le_refl _
  | succ k ih =>
    intro hk; rw [gv_succ p L (by omega)]; have a := ih (by omega); have b := set_len (L := gvTo p L zs k) (zs.getD k 0) (shareL (gvTo p L zs k) (zs.getD k 0) + p)
    omega
theorem igainEach (a : Option Addr) (cap : Nat) (L : Led) (hs : List Hd) (A : Option Addr) (capz : Nat) (zs : List Int) (pn pd : Int) (p : Rat) (w : World) (hcc : IsHs w a hs) (hh : hs = rawL L) (hn : hs.length ≤ 100) (hz : IsInts w A zs) (hzn : zs.length ≤ 12) (ha : Asc L) (hf : ∀ x ∈ L, frB x.2 = true) (hp : frB p = true) (hpn : pn = p.num) (hpd : pd = (p.den : Int)) :
    Calls Tryz.prog 153 #[.slice a hs.length cap, .slice A zs.length capz, .agg #[.int .i64 pn, .int .i64 pd]] w (MoveV w (gvAll p L zs) (giveL p L zs)) := by
  have hll : hs.length = L.length := by rw [hh, raw_len]
  have HI := Lib.hid hcc; have HH := Lib.hid hh; have HZ := Lib.hid hz; have HA := Lib.hid ha; have HF := Lib.hid hf; have HP := Lib.hid hp; have HPn := Lib.hid hpn; have HPd := Lib.hid hpd; have HL0 := Lib.hid hll
  have hln : L.length ≤ 100 := by omega
  clear hcc hh hz ha hf hp hpn hpd hll; go_enter Tryz.func153, Tryz.ntmps153; go_wp2_with fail
  have hB0 : Below w.heap.size w (w.alloc (.cells #[.int .i64 pn, .int .i64 pd] 49)) := by go_grown
  refine (icopyN hs.length a cap hs _ (hs_below HI.out hB0) rfl (by omega)).mono ?_; rintro e w1 ⟨v, rfl, hO, hb⟩; have hB1 := bel_tr hB0 hb; have hK1 := (Blk.new w 49 #[.int .i64 pn, .int .i64 pd]).next hb
  have hO1 : OwnH w1 w.heap.size v (rawL (gvTo p L zs 0)) := by rw [gv_zero, ← HH.out]; exact own_le hO hB0.size
  clear hO hb hB0; go_wp2_with fail
  go_loopw [8, 17] (fun v i wr => ∃ k : Nat, k ≤ zs.length ∧ i = .int .i64 k ∧ Hid (∀ j, j < k → gvOk p L zs j = true) ∧ OwnH wr w.heap.size v (rawL (gvTo p L zs k)) ∧ Blk wr w.heap.size 49 #[.int .i64 pn, .int .i64 pd] ∧ Below w.heap.size w wr) (fun _ i _ => zs.length - (intOf i).toNat)
  case atStart => exact ⟨0, Nat.zero_le _, rfl, (fun j hj => by omega), hO1, hK1, hB1⟩
  case round =>
    clear hO1 hK1 hB1; obtain ⟨k, hk, rfl, HK, hO, hS, hB⟩ := hrel; obtain ⟨b1, c1, hv1, hI1, hc1⟩ := own_hs2 hO; subst hv1
    by_cases hlt : k < zs.length
    · have hcz : ∃ g o, A = some ⟨g, o, none⟩ ∧ wr.cell? ⟨g, o + k, none⟩ = some (.int .i64 (zs.getD k 0)) := by
        rcases HZ.out with he | ⟨g, o, hA, hc⟩
        · rw [he] at hlt; simp at hlt
        · exact ⟨g, o, hA, (hB.cell (p := ⟨g, o + k, none⟩) (World.block_lt_of_cell? w _ (hc k hlt))).trans (hc k hlt)⟩
      obtain ⟨gz, oz, rfl, hcz⟩ := hcz
      have hlen : (rawL (gvTo p L zs k)).length ≤ 1000 := by
        rw [raw_len]; have := gv_len (p := p) (L := L) (zs := zs) k hk; omega
      have hgain := fun W hW => igain b1 c1 (gvTo p L zs k) (rawL (gvTo p L zs k)) (zs.getD k 0) pn pd p W hW rfl hlen (gv_asc HA.out zs k) (gv_fr HF.out k hk HK.out) HP.out HPn.out HPd.out hc1
      rw [← gv_succ p L hlt] at hgain; have hgo : frB (shareL (gvTo p L zs k) (zs.getD k 0) + p) = gvOk p L zs k := rfl; rw [hgo] at hgain
      obtain ⟨b, hb⟩ : ∃ b, gvOk p L zs k = b := ⟨_, rfl⟩
      rw [hb] at hgain
      have hno : b = false → gvAll p L zs = false := fun e => rng_no hlt (hb.trans e)
      have hyes : b = true → ∀ j, j < k + 1 → gvOk p L zs j = true := fun e => rng_more HK.out (hb.trans e)
      generalize zs.getD k 0 = z at hcz hgain; have HG := Lib.hid hgain; have HNO := Lib.hid hno; have HYES := Lib.hid hyes; have HI1 := Lib.hid hI1; have HB := Lib.hid hB; have HS := Lib.hid hS; obtain ⟨t0, t1, t2, t3, t4⟩ := blk_two hS; clear hgain hgo hb hno hyes hI1 hO hB hS
      cases b with
      | false =>
        have HN := Lib.hid (HNO.out rfl); go_wp2_with fail; refine (HG.out _ HI1.out).mono ?_; rintro e w2 ⟨v, rfl, m1, m2, hb2⟩; clear m1 m2; go_wp2_with fail
        go_returns
        exact ⟨_, by rw [HN.out]; rfl, (fun _ => rfl), (fun c => by rw [HN.out] at c; cases c), bel_tr HB.out hb2⟩
      | true =>
        have HY := Lib.hid (HYES.out rfl); go_wp2_with fail; refine (HG.out _ HI1.out).mono ?_; rintro e w2 ⟨v, rfl, m1, m2, hb2⟩; have hO2 := own_le (m2 rfl) HB.out.size; have HO2 := Lib.hid hO2; clear m1 m2 hO2; go_wp2_with fail
        go_roundw
        case rel => exact ⟨k + 1, by omega, by go_num, HY.out, HO2.out, HS.out.next hb2, bel_tr HB.out hb2⟩
        case measure => simp [intOf]; omega
    · obtain rfl : zs.length = k := by omega
      have HN : Hid (gvAll p L zs = true) := rng_yes HK.out; rw [gv_end] at hO hI1 hc1 ⊢; have HO := Lib.hid hO; clear hO hI1 hS; go_wp2_with fail
      go_returns
      exact ⟨_, by rw [HN.out]; rfl, (fun c => by rw [HN.out] at c; cases c), (fun _ => HO.out), hB⟩
def inhQ (hs : List Hd) (owner : Int) (zs : List Int) : Rat := Rat.divInt (shareL (ledOf hs) owner).num ((shareL (ledOf hs) owner).den * (zs.length : Int))
def inhL (hs : List Hd) (owner : Int) (zs : List Int) : Led := giveL (inhQ hs owner zs) (setL (ledOf hs) owner 0) zs
def inhB (hs : List Hd) (owner : Int) (zs : List Int) : Bool :=
 vlR hs && decide (shareL (ledOf hs) owner ≠ 0) && heirsB zs owner && frB (inhQ hs owner zs) && gvAll (inhQ hs owner zs) (setL (ledOf hs) owner 0) zs && vlB (inhL hs owner zs)
theorem inh_no {hs : List Hd} {owner : Int} {zs : List Int} (h : vlR hs = false ∨ shareL (ledOf hs) owner = 0 ∨ heirsB zs owner = false ∨ frB (inhQ hs owner zs) = false ∨ gvAll (inhQ hs owner zs) (setL (ledOf hs) owner 0) zs = false ∨ vlB (inhL hs owner zs) = false) : inhB hs owner zs = false := by
 unfold inhB
 rcases h with h | h | h | h | h | h
 ·rw [h]; rfl
 ·rw [h]; simp
 all_goals (rw [h]; simp)
theorem inh_yes {hs : List Hd} {owner : Int} {zs : List Int} (h1 : vlR hs = true) (h2 : shareL (ledOf hs) owner ≠ 0) (h3 : heirsB zs owner = true) (h4 : frB (inhQ hs owner zs) = true) (h5 : gvAll (inhQ hs owner zs) (setL (ledOf hs) owner 0) zs = true) (h6 : vlB (inhL hs owner zs) = true) : inhB hs owner zs = true := by
 unfold inhB; rw [h1, h3, h4, h5, h6, decide_eq_true h2]; rfl
theorem shV_yes {hs : List Hd} (h : vlR hs = true) (o : Int) : shV hs o = ((shareL (ledOf hs) o).num, ((shareL (ledOf hs) o).den : Int)) := by
 unfold shV; rw [h]
 conv => lhs; rw [led_eq h]
 exact shR_raw _ _
theorem inh_red {hs : List Hd} (owner : Int) {zs : List Int} (h : 1 ≤ zs.length) :
  Wsh.redB (shareL (ledOf hs) owner).num (((shareL (ledOf hs) owner).den : Int) * (zs.length : Int)) = frB (inhQ hs owner zs) ∧ Wsh.rn (shareL (ledOf hs) owner).num (((shareL (ledOf hs) owner).den : Int) * (zs.length : Int)) = (inhQ hs owner zs).num ∧ Wsh.rd (shareL (ledOf hs) owner).num (((shareL (ledOf hs) owner).den : Int) * (zs.length : Int)) = ((inhQ hs owner zs).den : Int) := by
 have hd : 0 < ((shareL (ledOf hs) owner).den : Int) * (zs.length : Int) := Int.mul_pos (by have := den_pos (shareL (ledOf hs) owner); omega) (by omega); exact ⟨redB_q hd, rn_q hd, rd_q hd⟩
theorem iInherit (a : Option Addr) (cap : Nat) (hs : List Hd) (owner : Int) (A : Option Addr) (capz : Nat) (zs : List Int) (w : World) (h : IsHs w a hs) (hn : hs.length ≤ 1048576) (hc : hs.length ≤ cap) (hz : IsInts w A zs) (hzn : zs.length ≤ 1048576) (hzc : zs.length ≤ capz) :
    Calls Tryz.prog 132 #[.slice a hs.length cap, .int .i64 owner, .slice A zs.length capz] w (MoveV w (inhB hs owner zs) (inhL hs owner zs)) := by
  have CV := iShareOf a cap hs owner w h hn; have HI := Lib.hid h; have HZ := Lib.hid hz; clear h hz
  cases hv : vlR hs with
  | false =>
    have HN : Hid (inhB hs owner zs = false) := inh_no (.inl hv); unfold ShareO shV at CV; rw [hv] at CV; clear hv; go_enter Tryz.func132, Tryz.ntmps132; go_wp2_with fail; refine CV.mono ?_; rintro e w1 ⟨rfl, hb⟩; have hB1 := hb.alloc hb.size (.cells #[.int .i64 0, .int .i64 0] 49); go_wp2_with fail
    go_returns
    exact ⟨_, by rw [HN.out]; rfl, (fun _ => rfl), (fun c => by rw [HN.out] at c; cases c), hB1⟩
  | true =>
    unfold ShareO at CV; rw [shV_yes hv] at CV; have HV := Lib.hid hv; have hVL := (vlR_is hv).2; have hle := led_le hv; have hbd := (frB_iff _).1 (share_frA hVL.fr owner); have hdp := den_pos (shareL (ledOf hs) owner); have hz0 := num_zero (shareL (ledOf hs) owner)
    have hred := fun h1 => inh_red (hs := hs) owner (zs := zs) h1
    have hfr0 := share_frA hVL.fr owner; have HVL := Lib.hid hVL; have HEq := Lib.hid (led_eq hv); clear hv hVL
    obtain ⟨n, hn'⟩ : ∃ n, n = (shareL (ledOf hs) owner).num := ⟨_, rfl⟩
    obtain ⟨d, hd'⟩ : ∃ d, d = ((shareL (ledOf hs) owner).den : Int) := ⟨_, rfl⟩
    rw [← hn', ← hd'] at CV hbd; rw [← hd'] at hdp; rw [← hn'] at hz0; rw [← hn', ← hd'] at hred; obtain ⟨hb0, hb1, hb2⟩ := hbd; have HZ0 := Lib.hid hz0; have HRED := Lib.hid hred; clear hz0 hred hn' hd'
    by_cases hnz : n = 0
    · have HN : Hid (inhB hs owner zs = false) := inh_no (.inr (.inl (HZ0.out.1 hnz)))
      have e0 : (n == 0) = true := by simpa using hnz
      clear hnz; go_enter Tryz.func132, Tryz.ntmps132; go_wp2_with fail; refine CV.mono ?_; rintro e w1 ⟨rfl, hb⟩; have hB1 := hb.alloc hb.size (.cells #[.int .i64 n, .int .i64 d] 49); go_wp2_with fail
      go_returns
      exact ⟨_, by rw [HN.out]; rfl, (fun _ => rfl), (fun c => by rw [HN.out] at c; cases c), hB1⟩
    · have e0 : (n == 0) = false := by simpa using hnz
      have HNZ : Hid (shareL (ledOf hs) owner ≠ 0) := fun c => hnz (HZ0.out.2 c)
      clear hnz
      cases hhe : heirsB zs owner with
      | false =>
        have HN : Hid (inhB hs owner zs = false) := inh_no (.inr (.inr (.inl hhe))); have HHe := Lib.hid hhe; clear hhe; go_enter Tryz.func132, Tryz.ntmps132; go_wp2_with fail; refine CV.mono ?_; rintro e w1 ⟨rfl, hb⟩; have hB1 := hb.alloc hb.size (.cells #[.int .i64 n, .int .i64 d] 49); go_wp2_with fail; have AH := iheirs A capz zs owner _ (ints_below HZ.out hB1) hzn hzc; rw [HHe.out] at AH; refine AH.mono ?_; rintro e w' ⟨rfl, rfl⟩; go_wp2_with fail
        go_returns
        exact ⟨_, by rw [HN.out]; rfl, (fun _ => rfl), (fun c => by rw [HN.out] at c; cases c), hB1⟩
      | true =>
        have hzl : 1 ≤ zs.length ∧ zs.length ≤ 12 := by
          unfold heirsB at hhe; simp only [Bool.and_eq_true, decide_eq_true_eq] at hhe; exact hhe.1
        obtain ⟨z1, z2⟩ := hzl; obtain ⟨r1, r2, r3⟩ := HRED.out z1; have HHe := Lib.hid hhe
        have hdm : 1 ≤ d * (zs.length : Int) ∧ d * (zs.length : Int) ≤ 120000 := ⟨Int.mul_pos (by omega) (by omega), Int.le_trans (Int.mul_le_mul hb2 (by omega : (zs.length : Int) ≤ 12) (by omega) (by omega)) (by decide)⟩
        obtain ⟨dm0, dm1⟩ := hdm
        have IR := fun W => ired n (d * (zs.length : Int)) W dm0 (by omega)
        rw [r1, r2, r3] at IR; have HIR := Lib.hid IR
        obtain ⟨p, hp⟩ : ∃ p, inhQ hs owner zs = p := ⟨_, rfl⟩
        rw [hp] at HIR; have HPQ := Lib.hid hp; clear hhe hp r1 r2 r3 IR
        obtain ⟨b, hb⟩ : ∃ b, frB p = b := ⟨_, rfl⟩
        rw [hb] at HIR; have HBb := Lib.hid hb; clear hb
        cases b with
        | false =>
          have HN : Hid (inhB hs owner zs = false) := inh_no (.inr (.inr (.inr (.inl (by rw [HPQ.out]; exact HBb.out))))); go_enter Tryz.func132, Tryz.ntmps132; go_wp2_with fail; refine CV.mono ?_; rintro e w1 ⟨rfl, hb⟩; have hB1 := hb.alloc hb.size (.cells #[.int .i64 n, .int .i64 d] 49); go_wp2_with fail; have AH := iheirs A capz zs owner _ (ints_below HZ.out hB1) hzn hzc; rw [HHe.out] at AH; refine AH.mono ?_; rintro e w' ⟨rfl, rfl⟩; clear AH; go_wp2_with fail; refine (HIR.out _).mono ?_; rintro e w2 ⟨rfl, hb⟩; have hB2 := bel_tr hB1 hb; clear hb CV; have hB3 := hB2.alloc hB2.size (.cells #[.int .i64 (Wsh.qn false p.num), .int .i64 (Wsh.qn false (p.den : Int))] 49); go_wp2_with fail
          go_returns
          exact ⟨_, by rw [HN.out]; rfl, (fun _ => rfl), (fun c => by rw [HN.out] at c; cases c), hB3⟩
        | true =>
          have HIR2 : ∀ W : World, Calls Tryz.prog 130 #[.int .i64 n, .int .i64 (d * (zs.length : Int))] W fun e w' => e = .returned (.tuple #[.agg #[.int .i64 p.num, .int .i64 (p.den : Int)], .bool true]) ∧ Below W.heap.size W w' := HIR.out
          go_enter Tryz.func132, Tryz.ntmps132; go_wp2_with fail; refine CV.mono ?_; rintro e w1 ⟨rfl, hb⟩; have hB1 := hb.alloc hb.size (.cells #[.int .i64 n, .int .i64 d] 49); go_wp2_with fail; have AH := iheirs A capz zs owner _ (ints_below HZ.out hB1) hzn hzc; rw [HHe.out] at AH; refine AH.mono ?_; rintro e w' ⟨rfl, rfl⟩; clear AH; go_wp2_with fail; refine (HIR2 _).mono ?_; rintro e w2 ⟨rfl, hb⟩; have hB2 := bel_tr hB1 hb; clear hb CV; have hB3 := hB2.alloc hB2.size (.cells #[.int .i64 p.num, .int .i64 (p.den : Int)] 49); have t3 := blk_two (Blk.new w2 49 #[.int .i64 p.num, .int .i64 (p.den : Int)])
          obtain ⟨w3, hw3⟩ : ∃ w3, w3 = w2.alloc (.cells #[.int .i64 p.num, .int .i64 (p.den : Int)] 49) := ⟨_, rfl⟩
          obtain ⟨G, hG⟩ : ∃ G, G = w2.heap.size := ⟨_, rfl⟩
          rw [← hw3, ← hG] at t3; rw [← hw3] at hB3; go_wp2_with fail; rw [← hw3, ← hG]; clear hw3 hG
          have HN0 : ∀ c, inhB hs owner zs = c → True := fun _ _ => trivial
          have hpf := HBb.out; have hpn := Rat.num_nonneg.2 (frB_nonneg hpf)
          have hlen0 : (rawL (setL (ledOf hs) owner 0)).length ≤ 100 := by
            rw [raw_len]; have := set_len (L := ledOf hs) owner 0; rw [led_len] at this; omega
          have HA0 : Hid (Asc (setL (ledOf hs) owner 0)) := asc_set HVL.out.asc _ _; have HF0 : Hid (∀ x ∈ setL (ledOf hs) owner 0, frB x.2 = true) := fr_set HVL.out.fr _ frB_zero
          have hlin : (rawL (inhL hs owner zs)).length ≤ 1048576 := by
            rw [raw_len]; unfold inhL; rw [← gv_end]; have a := gv_len (p := inhQ hs owner zs) (L := setL (ledOf hs) owner 0) (zs := zs) zs.length (Nat.le_refl _); rw [raw_len] at hlen0
            omega
          have hBd := hB3.drew
          go_upto_region 7 with fail
          go_cut [11, 10] (fun sx sy wx => ∃ v : Value, sx = v ∧ sy = .bool (gvAll p (setL (ledOf hs) owner 0) zs) ∧ (gvAll p (setL (ledOf hs) owner 0) zs = true → OwnH wx w.heap.size v (rawL (giveL p (setL (ledOf hs) owner 0) zs))) ∧ Below w.heap.size w wx)
          case first =>
            go_region_held3 (fun w' => w'.cell? ⟨G, 0, none⟩ = some (.int .i64 p.num) ∧ w'.cell? ⟨G, 1, none⟩ = some (.int .i64 (p.den : Int)) ∧ Below w.heap.size w w') (first | (exact keepQ hb (by assumption)) | (exact ⟨t3.1, t3.2.1, hBd⟩) | (refine ⟨?_, ?_, ?_⟩ <;> first | (go_keep; done) | exact hBd))
              (first | (go_at_call 100; refine (inoShare _).mono ?_; rintro e wq ⟨rfl, hb⟩) | (go_at_call 154; refine (iwithA a cap (ledOf hs) hs owner _ _ 0 _ (hs_below HI.out (And.right (And.right (by assumption)))) HEq.out (by omega) HVL.out.asc share_no (by omega) hc).mono ?_; rintro e wq ⟨v1, rfl, hO, hb⟩; have hszq := (keepQ hb (by assumption)).2.2.size; obtain ⟨b1, cp1, rfl, hI1, hc1⟩ := own_hs2 hO) | (go_at_call 153; refine (igainEach b1 cp1 (setL (ledOf hs) owner 0) _ A capz zs _ _ p _ hI1 rfl hlen0 (ints_below HZ.out (And.right (And.right (by assumption)))) z2 HA0.out HF0.out hpf rfl rfl).mono ?_; rintro e wq2 ⟨v2, rfl, m1, m2, hb⟩))
            have hS := ‹_ ∧ _›; go_wp2_with fail
            go_meet
            exact ⟨v2, rfl, rfl, (fun c => own_le (m2 c) hszq), hS.2.2⟩
          case rest =>
            obtain ⟨v, rfl, rfl, m2, hB⟩ := hcut; have HM := Lib.hid m2
            have HG2 : Hid (giveL p (setL (ledOf hs) owner 0) zs = inhL hs owner zs) := by show _ = _; unfold inhL; rw [HPQ.out]
            have HG3 : Hid (gvAll p (setL (ledOf hs) owner 0) zs = gvAll (inhQ hs owner zs) (setL (ledOf hs) owner 0) zs) := by show _ = _; rw [HPQ.out]
            clear m2
            cases hga : gvAll p (setL (ledOf hs) owner 0) zs with
            | false =>
              have HN : Hid (inhB hs owner zs = false) := inh_no (.inr (.inr (.inr (.inr (.inl (by rw [← HG3.out]; exact hga)))))); clear hga; go_wp2_with fail
              go_returns
              exact ⟨_, by rw [HN.out]; rfl, (fun _ => rfl), (fun c => by rw [HN.out] at c; cases c), hB⟩
            | true =>
              have hO := HM.out hga; rw [HG2.out] at hO
              have HGA : Hid (gvAll (inhQ hs owner zs) (setL (ledOf hs) owner 0) zs = true) := by show _ = _; rw [← HG3.out]; exact hga
              obtain ⟨b2, cp2, hv2, hI2, hc2⟩ := own_hs2 hO; subst hv2; have hv := iVL b2 cp2 _ wc hI2 hlin; rw [vlR_vl] at hv; have HO3 := Lib.hid hO; clear hO hga HM
              cases hvl : vlB (inhL hs owner zs) with
              | false =>
                rw [hvl] at hv; have HN : Hid (inhB hs owner zs = false) := inh_no (.inr (.inr (.inr (.inr (.inr hvl))))); clear hvl; go_wp2_with fail; refine hv.mono ?_; rintro e w4 ⟨rfl, hb4⟩; go_wp2_with fail
                go_returns
                exact ⟨_, by rw [HN.out]; rfl, (fun _ => rfl), (fun c => by rw [HN.out] at c; cases c), bel_tr hB hb4⟩
              | true =>
                rw [hvl] at hv; have HN : Hid (inhB hs owner zs = true) := inh_yes HV.out HNZ.out HHe.out (by rw [HPQ.out]; exact hpf) HGA.out hvl; clear hvl; go_wp2_with fail; refine hv.mono ?_; rintro e w4 ⟨rfl, hb4⟩; go_wp2_with fail
                go_returns
                exact ⟨_, by rw [HN.out]; rfl, (fun c => by rw [HN.out] at c; cases c), (fun _ => own_next HO3.out hb4), bel_tr hB hb4⟩
def cdR (hs : List Hd) : Int := if vlR hs && decide (lcmTo (ledOf hs) hs.length ≤ 1000000) then (lcmTo (ledOf hs) hs.length : Int) else -1
theorem cd_no1 {hs : List Hd} (h : vlR hs = false) : cdR hs = -1 := by unfold cdR; rw [h]; rfl
theorem cd_no2 {hs : List Hd} {k : Nat} (hk : k ≤ hs.length) (h : 1000000 < lcmTo (ledOf hs) k) : cdR hs = -1 := by
 have := lcm_mono' (ledOf hs) (hs.length - k) k; rw [show k + (hs.length - k) = hs.length from by omega] at this; unfold cdR; rw [decide_eq_false (by omega), Bool.and_false]; rfl
theorem cd_yes {hs : List Hd} (h : vlR hs = true) (h2 : lcmTo (ledOf hs) hs.length ≤ 1000000) : cdR hs = (lcmTo (ledOf hs) hs.length : Int) := by
 unfold cdR; rw [h, decide_eq_true h2]; rfl
theorem lcm_div (n d : Nat) (_hn : 0 < n) : ((n : Int) / (Int.gcd (n : Int) (d : Int) : Int)) * (d : Int) = (Nat.lcm n d : Int) := by
 have hg : Int.gcd (n : Int) (d : Int) = Nat.gcd n d := rfl; rw [hg]; have hd : Nat.gcd n d ∣ n := Nat.gcd_dvd_left n d
 have e : Nat.lcm n d = n / Nat.gcd n d * d := by
  unfold Nat.lcm; rw [Nat.div_mul_right_comm hd]
 rw [e, Int.natCast_mul, Int.natCast_ediv]
theorem cd_step {hs : List Hd} (hv : vlR hs = true) {k : Nat} (hk : k < hs.length) (hn : lcmTo (ledOf hs) k ≤ 1000000) :
  1 ≤ (hs.getD k hd0).2.2 ∧ (hs.getD k hd0).2.2 ≤ 10000 ∧ (lcmTo (ledOf hs) k : Int) / (Int.gcd (lcmTo (ledOf hs) k : Int) (hs.getD k hd0).2.2 : Int) * (hs.getD k hd0).2.2 = (lcmTo (ledOf hs) (k + 1) : Int) ∧ 0 < (Int.gcd (lcmTo (ledOf hs) k : Int) (hs.getD k hd0).2.2 : Int) ∧ 0 ≤ (lcmTo (ledOf hs) k : Int) / (Int.gcd (lcmTo (ledOf hs) k : Int) (hs.getD k hd0).2.2 : Int) ∧ (lcmTo (ledOf hs) k : Int) / (Int.gcd (lcmTo (ledOf hs) k : Int) (hs.getD k hd0).2.2 : Int) ≤ 1000000 ∧ (lcmTo (ledOf hs) (k + 1) : Int) ≤ 10000000000 := by
 obtain ⟨he, hV⟩ := vlR_is hv
 have hkl : k < (ledOf hs).length := by rw [led_len]; exact hk
 have hg : (hs.getD k hd0).2.2 = (((ledOf hs).getD k (0, 0)).2.den : Int) := by
  conv => lhs; rw [← he]
  rw [raw_get _ hkl]; rfl
 have hfr := hV.fr _ (List.getElem_mem hkl); rw [← getD_lt _ hkl (0, 0)] at hfr; have hb := (frB_iff _).1 hfr; have hdp := den_pos ((ledOf hs).getD k (0, 0)).2; have hlp := lcm_pos (ledOf hs) k; rw [hg]
 have hgp : 0 < (Int.gcd (lcmTo (ledOf hs) k : Int) (((ledOf hs).getD k (0, 0)).2.den : Int) : Int) := by
  have : Int.gcd (lcmTo (ledOf hs) k : Int) (((ledOf hs).getD k (0, 0)).2.den : Int) ≠ 0 := fun c => by
   have := Int.gcd_eq_zero_iff.1 c
   omega
  omega
 have hq0 : 0 ≤ (lcmTo (ledOf hs) k : Int) / (Int.gcd (lcmTo (ledOf hs) k : Int) (((ledOf hs).getD k (0, 0)).2.den : Int) : Int) := Int.ediv_nonneg (by omega) (by omega); have hq1 : (lcmTo (ledOf hs) k : Int) / (Int.gcd (lcmTo (ledOf hs) k : Int) (((ledOf hs).getD k (0, 0)).2.den : Int) : Int) ≤ 1000000 := Int.le_trans (Int.ediv_le_self _ (by omega)) (by omega); have hs' := lcm_div (lcmTo (ledOf hs) k) ((ledOf hs).getD k (0, 0)).2.den hlp; refine ⟨hdp, hb.2.2, ?_, hgp, hq0, hq1, ?_⟩
 ·rw [hs', lcm_succ]
 ·rw [lcm_succ, ← hs']
  exact Int.le_trans (Int.mul_le_mul hq1 hb.2.2 (by omega) (by omega)) (by decide)
theorem iCD (a : Option Addr) (cap : Nat) (hs : List Hd) (w : World) (h : IsHs w a hs) (hn : hs.length ≤ 1048576) :
    Calls Tryz.prog 134 #[.slice a hs.length cap] w fun e w' => e = .returned (.int .i64 (cdR hs)) ∧ Below w.heap.size w w' := by
  have CV := iVL a cap hs w h hn
  cases hv : vlR hs with
  | false =>
    rw [hv] at CV; have HN := Lib.hid (cd_no1 hv); clear hv; go_enter Tryz.func134, Tryz.ntmps134; go_wp2_with fail; refine CV.mono ?_; rintro e w1 ⟨rfl, hb⟩; go_wp2_with fail; go_ret; exact ⟨ret_int HN.out.symm, hb⟩
  | true =>
    rw [hv] at CV; have HV := Lib.hid hv; clear hv
    rcases h with rfl | ⟨g, off, rfl, hc⟩
    · exact absurd (vlR_is HV.out).2.one (by decide)
    · have HC := Lib.hid hc
      clear hc; go_enter Tryz.func134, Tryz.ntmps134; go_wp2_with fail; refine CV.mono ?_; rintro e w1 ⟨rfl, hb⟩; have HB1 := Lib.hid hb; clear CV hb; go_wp2_with fail
      go_loopw [3, 11] (fun n i wr => ∃ k : Nat, k ≤ hs.length ∧ i = .int .i64 k ∧ n = .int .i64 (lcmTo (ledOf hs) k : Int) ∧ Hid (lcmTo (ledOf hs) k ≤ 1000000) ∧ Below w.heap.size w wr) (fun _ i _ => hs.length - (intOf i).toNat)
      case atStart => exact ⟨0, Nat.zero_le _, rfl, rfl, (by show (1 : Nat) ≤ 1000000; omega), HB1.out⟩
      case round =>
        obtain ⟨k, hk, rfl, rfl, HL, hB⟩ := hrel
        by_cases hlt : k < hs.length
        · obtain ⟨c0, c1, c2⟩ := cells_at HC.out hB hlt
          obtain ⟨d0, d1, d2, d3, d4, d5, d6⟩ := cd_step HV.out hlt HL.out
          have hno : 1000000 < lcmTo (ledOf hs) (k + 1) → cdR hs = -1 := fun c => cd_no2 (by omega) c
          have hpos := lcm_pos (ledOf hs) k; have hle := HL.out
          have hnn : (0 : Int) ≤ (lcmTo (ledOf hs) (k + 1) : Int) := by omega
          have hyes : (lcmTo (ledOf hs) (k + 1) : Int) ≤ 1000000 → lcmTo (ledOf hs) (k + 1) ≤ 1000000 := fun c => by omega
          have hno2 : 1000000 < (lcmTo (ledOf hs) (k + 1) : Int) → cdR hs = -1 := fun c => hno (by omega)
          generalize hs.getD k hd0 = hh at c0 c1 c2 d0 d1 d2 d3 d4 d5; obtain ⟨x, n, d⟩ := hh; dsimp only at c0 c1 c2 d0 d1 d2 d3 d4 d5
          have hcm : (1 : Int) ≤ (lcmTo (ledOf hs) k : Int) := by omega
          have hcm2 : (lcmTo (ledOf hs) k : Int) ≤ 1000000 := by omega
          generalize (lcmTo (ledOf hs) k : Int) = cm at d2 d3 d4 d5 hcm hcm2
          obtain ⟨nx, hnx⟩ : ∃ nx, nx = (lcmTo (ledOf hs) (k + 1) : Int) := ⟨_, rfl⟩
          rw [← hnx] at d2 d6 hyes hno2 hnn; have KG := Lib.hid (fun (W : World) (j : Nat) => Calls.quiet_of_same (w := W) (n := j) ((igcd cm d _ (by omega) (by omega) (by omega) (by omega)).mono (fun _ _ h => ⟨h.1, h.2.symm⟩)))
          have hg0 : ((Int.gcd cm d : Int) == 0) = false := by simp; omega
          have D2 := Lib.hid d2; have HNX := Lib.hid hnx; have HB := Lib.hid hB; have HNO := Lib.hid hno2; have HYES := Lib.hid hyes
          have hw : IntKind.i64.wrap (cm / (Int.gcd cm d : Int) * d) = nx := by rw [d2]; exact IntWalk.i64_in _ (by omega)
          clear hno hnx hB hno2 hyes hpos hle d2; go_wp2_with fail
          go_quiet (first | (go_at_call_of 148 (Value.int .i64 cm); exact KG.out _ _))
          by_cases hb : 1000000 < nx
          · go_wp2_with fail
            go_ret; exact ⟨ret_int (HNO.out hb).symm, below_drewN (HB.out.alloc HB.out.size _) _⟩
          · go_wp2_with fail
            go_roundw
            case rel => exact ⟨k + 1, by omega, by go_num, by rw [HNX.out], HYES.out (by omega), below_drewN (HB.out.alloc HB.out.size _) _⟩
            case measure => simp [intOf]; omega
        · obtain rfl : hs.length = k := by omega
          have HN := Lib.hid (cd_yes HV.out HL.out); go_wp2_with fail; go_ret; exact ⟨ret_int HN.out.symm, hB⟩
def SDen (w : World) (hs : List Hd) (e : Ending) (w' : World) : Prop := ∃ v : Int, e = .returned (.int .i64 v) ∧ (v ≤ 1000000 → cdR hs = v) ∧ (1000000 < v → cdR hs = -1) ∧ 0 ≤ v ∧ v ≤ 10000000000 ∧ Below w.heap.size w w'
theorem scd (a : Option Addr) (cap : Nat) (hs : List Hd) (w : World) (h : IsHs w a hs) (hn : hs.length ≤ 1048576) (hv : vlR hs = true) :
  Calls Tryz.prog 121 #[.slice a hs.length cap] w (SDen w hs) := by
 have HV := Lib.hid hv; clear hv
 rcases h with rfl | ⟨g, off, rfl, hc⟩
 ·exact absurd (vlR_is HV.out).2.one (by decide)
 ·have HC := Lib.hid hc
  clear hc; go_enter Tryz.func121, Tryz.ntmps121; go_wp2_with fail
  go_loopw [3, 4] (fun n i wr => ∃ k : Nat, k ≤ hs.length ∧ i = .int .i64 k ∧ n = .int .i64 (lcmTo (ledOf hs) k : Int) ∧ Hid (lcmTo (ledOf hs) k ≤ 10000000000) ∧ Below w.heap.size w wr) (fun _ i _ => hs.length - (intOf i).toNat)
  case atStart => exact ⟨0, Nat.zero_le _, rfl, rfl, (by show (1 : Nat) ≤ 10000000000; omega), by go_grown⟩
  case round =>
   obtain ⟨k, hk, rfl, rfl, HL, hB⟩ := hrel; have hle := HL.out
   by_cases hlt : k < hs.length
   ·by_cases hbig : 1000000 < lcmTo (ledOf hs) k
    ·have HN := Lib.hid (cd_no2 hk hbig)
     obtain ⟨cm, hcm⟩ : ∃ cm, cm = (lcmTo (ledOf hs) k : Int) := ⟨_, rfl⟩
     rw [← hcm]
     have q1 : 1000000 < cm := by omega
     have q2 : cm ≤ 10000000000 := by omega
     have q3 : decide (cm ≤ 1000000) = false := by simp; omega
     clear hcm hle hbig; go_wp2_with fail; go_ret; exact ⟨cm, rfl, (fun c => by omega), (fun _ => HN.out), by omega, q2, hB⟩
    ·obtain ⟨c0, c1, c2⟩ := cells_at HC.out hB hlt
     obtain ⟨d0, d1, d2, d3, d4, d5, d6⟩ := cd_step HV.out hlt (by omega); have hpos := lcm_pos (ledOf hs) k
     have hnn : (0 : Int) ≤ (lcmTo (ledOf hs) (k + 1) : Int) := by omega
     have hyes : (lcmTo (ledOf hs) (k + 1) : Int) ≤ 10000000000 → lcmTo (ledOf hs) (k + 1) ≤ 10000000000 := fun c => by omega
     generalize hs.getD k hd0 = hh at c0 c1 c2 d0 d1 d2 d3 d4 d5; obtain ⟨x, n, d⟩ := hh; dsimp only at c0 c1 c2 d0 d1 d2 d3 d4 d5
     have hcm : (1 : Int) ≤ (lcmTo (ledOf hs) k : Int) := by omega
     have hcm2 : (lcmTo (ledOf hs) k : Int) ≤ 1000000 := by omega
     clear hle hbig hpos; generalize (lcmTo (ledOf hs) k : Int) = cm at d2 d3 d4 d5 hcm hcm2
     obtain ⟨nx, hnx⟩ : ∃ nx, nx = (lcmTo (ledOf hs) (k + 1) : Int) := ⟨_, rfl⟩
     rw [← hnx] at d2 d6 hyes hnn; have KG := Lib.hid (fun (W : World) (j : Nat) => Calls.quiet_of_same (w := W) (n := j) ((sgcd cm d _ (by omega) (by omega) (by omega) (by omega)).mono (fun _ _ h => ⟨h.1, h.2.symm⟩)))
     have hg0 : ((Int.gcd cm d : Int) == 0) = false := by simp; omega
     have D2 := Lib.hid d2; have HNX := Lib.hid hnx; have HB := Lib.hid hB; have HYES := Lib.hid hyes
     have i0 : (0 : Int) ≤ (k : Int) := by omega
     have i1 : (k : Int) < (hs.length : Int) := by omega
     have hw : IntKind.i64.wrap (cm / (Int.gcd cm d : Int) * d) = nx := by rw [d2]; exact IntWalk.i64_in _ (by omega)
     clear hnx hB hyes d2; go_wp2_with fail
     go_quiet (first | (go_at_call_of 115 (Value.int .i64 cm); exact KG.out _ _))
     go_wp2_with fail
     go_roundw
     case rel => exact ⟨k + 1, by omega, by go_num, by rw [HNX.out], HYES.out d6, below_drewN HB.out _⟩
     case measure => simp [intOf]; omega
   ·obtain rfl : hs.length = k := by omega
    have h1 : lcmTo (ledOf hs) hs.length ≤ 1000000 → cdR hs = (lcmTo (ledOf hs) hs.length : Int) := fun c => cd_yes HV.out c
    have h2 : 1000000 < lcmTo (ledOf hs) hs.length → cdR hs = -1 := fun c => cd_no2 (Nat.le_refl _) c
    have H1 : Hid ((lcmTo (ledOf hs) hs.length : Int) ≤ 1000000 → cdR hs = (lcmTo (ledOf hs) hs.length : Int)) := fun c => h1 (by omega)
    have H2 : Hid (1000000 < (lcmTo (ledOf hs) hs.length : Int) → cdR hs = -1) := fun c => h2 (by omega)
    have q0 : (0 : Int) ≤ (lcmTo (ledOf hs) hs.length : Int) := by omega
    have q2 : (lcmTo (ledOf hs) hs.length : Int) ≤ 10000000000 := by omega
    clear h1 h2 hle; generalize (lcmTo (ledOf hs) hs.length : Int) = cm at q0 q2 H1 H2; go_wp2_with fail; go_ret; exact ⟨cm, rfl, H1.out, H2.out, q0, q2, hB⟩
def unR (hs : List Hd) : List Int := hs.map fun h => (lcmTo (ledOf hs) hs.length : Int) / h.2.2 * h.2.1
theorem un_len (hs : List Hd) : (unR hs).length = hs.length := by unfold unR; simp
theorem un_get (hs : List Hd) {k : Nat} (h : k < hs.length) : (unR hs).getD k 0 = (lcmTo (ledOf hs) hs.length : Int) / (hs.getD k hd0).2.2 * (hs.getD k hd0).2.1 := by
 unfold unR; rw [List.getD_eq_getElem?_getD, List.getElem?_map, getD_lt hs h, List.getElem?_eq_getElem h]; rfl
theorem cd_pos {hs : List Hd} (h : cdR hs ≠ -1) : vlR hs = true ∧ lcmTo (ledOf hs) hs.length ≤ 1000000 ∧ cdR hs = (lcmTo (ledOf hs) hs.length : Int) := by
 unfold cdR at h ⊢
 by_cases c : (vlR hs && decide (lcmTo (ledOf hs) hs.length ≤ 1000000)) = true
 ·rw [if_pos c]
  simp only [Bool.and_eq_true, decide_eq_true_eq] at c; exact ⟨c.1, c.2, rfl⟩
 ·rw [if_neg c] at h; exact absurd rfl h
theorem un_bd {hs : List Hd} (h : vlR hs = true) (h2 : lcmTo (ledOf hs) hs.length ≤ 1000000) {k : Nat} (hk : k < hs.length) : 1 ≤ (hs.getD k hd0).2.2 ∧ 0 ≤ (hs.getD k hd0).2.1 ∧ 0 ≤ (lcmTo (ledOf hs) hs.length : Int) / (hs.getD k hd0).2.2 ∧ (lcmTo (ledOf hs) hs.length : Int) / (hs.getD k hd0).2.2 ≤ 1000000 ∧ 0 ≤ (lcmTo (ledOf hs) hs.length : Int) / (hs.getD k hd0).2.2 * (hs.getD k hd0).2.1 ∧ (lcmTo (ledOf hs) hs.length : Int) / (hs.getD k hd0).2.2 * (hs.getD k hd0).2.1 ≤ 10000000000 := by
 have hs1 : allS hs = true := by unfold vlR at h; simp only [Bool.and_eq_true, decide_eq_true_eq] at h; exact h.1.2
 unfold allS at hs1; rw [rng_all] at hs1; have := (Wsh.vfB_iff _ _).1 (okF_is (okS_is (hs1 k hk)).1).1; have q0 : 0 ≤ (lcmTo (ledOf hs) hs.length : Int) / (hs.getD k hd0).2.2 := Int.ediv_nonneg (by omega) (by omega); have q1 : (lcmTo (ledOf hs) hs.length : Int) / (hs.getD k hd0).2.2 ≤ 1000000 := Int.le_trans (Int.ediv_le_self _ (by omega)) (by omega); exact ⟨this.1, this.2.2.1, q0, q1, Int.mul_nonneg q0 this.2.2.1, Int.le_trans (Int.mul_le_mul q1 (by omega : (hs.getD k hd0).2.1 ≤ 10000) this.2.2.1 (by omega)) (by decide)⟩
theorem iUnits_no (a : Option Addr) (cap : Nat) (hs : List Hd) (w : World) (h : IsHs w a hs) (hn : hs.length ≤ 1048576) (hcd : cdR hs = -1) :
  Calls Tryz.prog 107 #[.slice a hs.length cap] w fun e w' => e = .returned (.slice none 0 0) ∧ Below w.heap.size w w' := by
 have CV := iCD a cap hs w h hn; rw [hcd] at CV; clear hcd; go_enter Tryz.func107, Tryz.ntmps107; go_wp2_with fail; refine CV.mono ?_; rintro e w1 ⟨rfl, hb⟩; go_wp2_with fail; go_ret; exact ⟨rfl, hb⟩
def UnitsI (w : World) (hs : List Hd) (e : Ending) (w' : World) : Prop := ∃ g : Nat, e = .returned (.slice (some ⟨g, 0, none⟩) hs.length hs.length) ∧ w.heap.size ≤ g ∧ Row w' g (unR hs) ∧ Below w.heap.size w w'
theorem iUnits (a : Option Addr) (cap : Nat) (hs : List Hd) (w : World) (h : IsHs w a hs) (hn : hs.length ≤ 1048576) (hcd : cdR hs ≠ -1) :
  Calls Tryz.prog 107 #[.slice a hs.length cap] w (UnitsI w hs) := by
 obtain ⟨hv, hl, hce⟩ := cd_pos hcd; have CV := iCD a cap hs w h hn; rw [hce] at CV; have hmk := run_make_row' (P := Tryz.prog) 32 3 (.int .i64 0) 8 Tryz.underlying32 infoInt rfl .i64 .i64 hs.length (by omega) (by omega); have HV := Lib.hid hv; have HL := Lib.hid hl
 rcases h with rfl | ⟨g, off, rfl, hc⟩
 ·exact absurd (vlR_is hv).2.one (by decide)
 ·have HC := Lib.hid hc
  have cm0 : (0 : Int) ≤ (lcmTo (ledOf hs) hs.length : Int) := by omega
  have cm1 : (lcmTo (ledOf hs) hs.length : Int) ≤ 1000000 := by omega
  obtain ⟨cm, hcm⟩ : ∃ cm, cm = (lcmTo (ledOf hs) hs.length : Int) := ⟨_, rfl⟩
  rw [← hcm] at CV cm0 cm1; have HCM := Lib.hid hcm; clear hc hv hl hce hcd hcm; go_enter Tryz.func107, Tryz.ntmps107; go_wp2_with fail; refine CV.mono ?_; rintro e w1 ⟨rfl, hb⟩; have HB1 := Lib.hid hb; have hsz := hb.size; clear hb CV; go_wp2_with fail; clear hmk
  obtain ⟨G, hG⟩ : ∃ G, G = w1.heap.size := ⟨_, rfl⟩
  rw [← hG]
  have hGw : w.heap.size ≤ G := by omega
  have hr0 : (w1.alloc (.cells (madeCells #[.int .i64 0] hs.length) 3)).rowIs G 3 hs.length (fun j => if j < 0 then .int .i64 ((unR hs).getD j 0) else .int .i64 0) := by
   rw [hG]; exact (World.rowIs_made w1 (.int .i64 0) hs.length _).congr (fun i hi => by simp)
  have hB0 := HB1.out.alloc HB1.out.size (.cells (madeCells #[.int .i64 0] hs.length) 3); clear hG
  go_loopw [16] (fun i wr => ∃ k : Nat, k ≤ hs.length ∧ i = .int .i64 k ∧ wr.rowIs G 3 hs.length (fun j => if j < k then .int .i64 ((unR hs).getD j 0) else .int .i64 0) ∧ Below w.heap.size w wr) (fun i _ => hs.length - (intOf i).toNat)
  case atStart => exact ⟨0, Nat.zero_le _, rfl, hr0, hB0⟩
  case round =>
   clear hr0 hB0; obtain ⟨k, hk, rfl, hrow, hB⟩ := hrel
   by_cases hlt : k < hs.length
   ·obtain ⟨c0, c1, c2⟩ := cells_at HC.out hB hlt
    obtain ⟨b0, b1, b2, b3, b4, b5⟩ := un_bd HV.out HL.out hlt; have hg := un_get hs hlt; rw [← HCM.out] at b2 b3 b4 b5 hg
    have hd : wr.cell? ⟨G, k, none⟩ = some (.int .i64 0) := by rw [hrow.cell hlt, if_neg (Nat.lt_irrefl k)]
    have hf := hrow.frozen k; have hGl := World.rowIs.lt hrow
    have hcon : ∀ z : Int, (unR hs).getD k 0 = z → (wr.setCell ⟨G, k, none⟩ (.int .i64 z)).rowIs G 3 hs.length (fun j => if j < k + 1 then .int .i64 ((unR hs).getD j 0) else .int .i64 0) := fun z hz =>
     (hrow.set k (.int .i64 z)).congr (fun j hj => by
      show (if j = k then Value.int .i64 z else if j < k then .int .i64 ((unR hs).getD j 0) else .int .i64 0) = _
      by_cases hjk : j = k
      ·subst hjk; rw [if_pos rfl, if_pos (by omega), hz]
      ·rw [if_neg hjk]
       by_cases hl : j < k
       ·rw [if_pos hl, if_pos (by omega)]
       ·rw [if_neg hl, if_neg (by omega)])
    have hcon2 := hcon _ hg; clear hcon; generalize hs.getD k hd0 = hh at c0 c1 c2 b0 b1 b2 b3 b4 b5 hcon2; obtain ⟨x, n, d⟩ := hh; dsimp only at c0 c1 c2 b0 b1 b2 b3 b4 b5 hcon2
    have hd0' : (d == 0) = false := by simp; omega
    have hw : IntKind.i64.wrap (cm / d * n) = cm / d * n := IntWalk.i64_in _ (by omega)
    have i0 : (0 : Int) ≤ (k : Int) := by omega
    have i1 : (k : Int) < (hs.length : Int) := by omega
    have HR := Lib.hid hcon2; have HB := Lib.hid hB; clear hcon2 hrow hB hg; go_wp2_with fail
    go_region
    all_goals (
     go_wp2_with fail
     go_roundw
     case rel => exact ⟨k + 1, by omega, by go_num, (HR.out.alloc _).drew, ((HB.out.setCell hGw _).alloc (by simpa using HB.out.size) _).drew⟩
     case measure => simp [intOf]; omega)
   ·have HR := Lib.hid hrow
    have HB := Lib.hid hB; clear hrow hB; go_wp2_with fail; go_ret; refine ⟨_, rfl, hGw, ?_, HB.out⟩; have e := un_len hs; unfold Row; rw [e]; exact HR.out.congr (fun i hi => by rw [if_pos (by omega)])
theorem sUnits_no (a : Option Addr) (cap : Nat) (hs : List Hd) (w : World) (h : IsHs w a hs) (hn : hs.length ≤ 1048576) (hcd : cdR hs = -1) :
    Calls Tryz.prog 92 #[.slice a hs.length cap] w fun e w' => e = .returned (.slice none 0 0) ∧ Below w.heap.size w w' := by
  have CV := svl a cap hs w h hn; have HI := Lib.hid h; clear h
  cases hv : vlR hs with
  | false =>
    rw [hv] at CV; clear hcd hv; go_enter Tryz.func92, Tryz.ntmps92; go_wp2_with fail; refine CV.mono ?_; rintro e w1 ⟨rfl, hb⟩; go_wp2_with fail; go_ret; exact ⟨rfl, hb⟩
  | true =>
    rw [hv] at CV; have HV := Lib.hid hv; have HC := Lib.hid hcd; clear hcd hv; go_enter Tryz.func92, Tryz.ntmps92; go_wp2_with fail; refine CV.mono ?_; rintro e w1 ⟨rfl, hb⟩; go_wp2_with fail; refine (scd a cap hs _ (hs_below HI.out hb) hn HV.out).mono ?_; rintro e w2 ⟨v, rfl, e1, e2, q0, q2, hb2⟩
    have hbig : 1000000 < v := by
      rcases Int.lt_or_le 1000000 v with h | h
      · exact h
      · have := e1 h; rw [HC.out] at this; omega
    clear e1 e2; go_wp2_with fail; go_ret; exact ⟨rfl, bel_tr hb hb2⟩
theorem keepU {w W : World} {g off k : Nat} {hs : List Hd} {x n d : Int} (hc : ∀ i, i < hs.length → w.cell? ⟨g, off + i * 3, none⟩ = some (.int .i64 (hs.getD i hd0).1) ∧ w.cell? ⟨g, off + i * 3 + 1, none⟩ = some (.int .i64 (hs.getD i hd0).2.1) ∧ w.cell? ⟨g, off + i * 3 + 2, none⟩ = some (.int .i64 (hs.getD i hd0).2.2)) (hk : k < hs.length) (hx : hs.getD k hd0 = (x, n, d)) (hB : Below w.heap.size w W) :
  W.cell? ⟨g, off + k * 3 + 1, none⟩ = some (.int .i64 n) ∧ W.cell? ⟨g, off + k * 3 + 2, none⟩ = some (.int .i64 d) ∧ Below w.heap.size w W := by
 obtain ⟨_, c1, c2⟩ := cells_at hc hB hk; rw [hx] at c1 c2; exact ⟨c1, c2, hB⟩
theorem take_mapI (l : List Int) (k : Nat) (h : k < l.length) : (l.take (k + 1)).map (Value.int .i64) = (l.take k).map (Value.int .i64) ++ [.int .i64 (l.getD k 0)] := by
 rw [List.take_succ_eq_append_getElem h, List.map_append, List.getD_eq_getElem?_getD, List.getElem?_eq_getElem h]; rfl
theorem new_reads (w : World) (u : Value) (t : TypeId) : Reads (w.alloc (.cells #[u] t)) (w.heap.size + 1) 1 (some ⟨w.heap.size, 0, none⟩) 1 [u] :=
 ⟨rfl, fun _ => ⟨_, rfl, Nat.lt_succ_self _, new_cells w [u] t⟩⟩
def UnitsS (w : World) (hs : List Hd) (e : Ending) (w' : World) : Prop := ∃ v, e = .returned v ∧ w'.ownsRow w.heap.size 3 1 v hs.length ((unR hs).map (Value.int .i64)) ∧ Below w.heap.size w w'
theorem sUnits (a : Option Addr) (cap : Nat) (hs : List Hd) (w : World) (h : IsHs w a hs) (hn : hs.length ≤ 1048576) (hcd : cdR hs ≠ -1) :
  Calls Tryz.prog 92 #[.slice a hs.length cap] w (UnitsS w hs) := by
 obtain ⟨hv, hl, hce⟩ := cd_pos hcd; have CV := svl a cap hs w h hn; rw [hv] at CV; have HI := Lib.hid h; obtain ⟨i0, hi, hz0, hz1, hz2⟩ := info_parts infoInt; have HV := Lib.hid hv; have HL := Lib.hid hl
 rcases h with rfl | ⟨g, off, rfl, hc⟩
 ·exact absurd (vlR_is hv).2.one (by decide)
 ·have HC := Lib.hid hc
  have cm0 : (0 : Int) ≤ (lcmTo (ledOf hs) hs.length : Int) := by omega
  have cm1 : (lcmTo (ledOf hs) hs.length : Int) ≤ 1000000 := by omega
  obtain ⟨cm, hcm⟩ : ∃ cm, cm = (lcmTo (ledOf hs) hs.length : Int) := ⟨_, rfl⟩
  rw [← hcm] at hce cm0 cm1; have HCM := Lib.hid hcm; have HCE := Lib.hid hce
  have scm : ∀ (W : World), IsHs W (some ⟨g, off, none⟩) hs → Calls Tryz.prog 121 #[.slice (some ⟨g, off, none⟩) hs.length cap] W fun e w' => e = .returned (.int .i64 cm) ∧ Below W.heap.size W w' := fun W hW => (scd _ cap hs W hW hn hv).mono (by
   rintro e w2 ⟨v, rfl, e1, e2, q0, q2, hb2⟩
   rcases Int.lt_or_le 1000000 v with h | h
   ·have := e2 h; rw [hce] at this; omega
   ·have := e1 h; rw [hce] at this; rw [this]; exact ⟨rfl, hb2⟩)
  have SCM := Lib.hid scm; clear hc hv hl hce hcd hcm scm; go_enter Tryz.func92, Tryz.ntmps92; go_wp2_with fail; refine CV.mono ?_; rintro e w1 ⟨rfl, hb⟩; clear CV; go_wp2_with fail; refine (SCM.out _ (hs_below HI.out hb)).mono ?_; rintro e w2 ⟨rfl, hb2⟩; have hB2 := bel_tr hb hb2; clear hb hb2; go_wp2_with fail; have hB2a := hB2.alloc hB2.size (.cells #[] 3); refine (SCM.out _ (hs_below HI.out hB2a)).mono ?_; rintro e w3 ⟨rfl, hb3⟩; have hB3 := bel_tr hB2a hb3; have hblk := (Blk.new w2 3 #[]).next hb3
  have hown0 : w3.ownsRow w.heap.size 3 1 (.slice (some ⟨w2.heap.size, 0, none⟩) 0 0) 0 (((unR hs).take 0).map (Value.int .i64)) := ⟨by simp, .inr ⟨w2.heap.size, 0, #[], rfl, hB2.size, hblk, Nat.le_refl _, by unfold maxLen; omega, rfl, rfl⟩⟩
  clear hb3 hblk hB2a; go_wp2_with fail
  go_loopw [3, 5] (fun v i wr => ∃ k : Nat, k ≤ hs.length ∧ i = .int .i64 k ∧ wr.ownsRow w.heap.size 3 1 v k (((unR hs).take k).map (Value.int .i64)) ∧ Below w.heap.size w wr) (fun _ i _ => hs.length - (intOf i).toNat)
  case atStart => exact ⟨0, Nat.zero_le _, rfl, hown0, hB3⟩
  case round =>
   clear hown0 hB3 hB2; obtain ⟨k, hk, rfl, hown, hB⟩ := hrel
   by_cases hlt : k < hs.length
   ·obtain ⟨b0, b1, b2, b3, b4, b5⟩ := un_bd HV.out HL.out hlt
    have hg := un_get hs hlt; have ht := take_mapI (unR hs) k (by rw [un_len]; exact hlt); rw [hg] at ht; rw [← HCM.out] at b2 b3 b4 b5 ht
    obtain ⟨hh, hhe⟩ : ∃ hh, hs.getD k hd0 = hh := ⟨_, rfl⟩
    obtain ⟨x, n, d⟩ := hh; rw [hhe] at b0 b1 b2 b3 b4 b5 ht; dsimp only at b0 b1 b2 b3 b4 b5 ht; have HHE := Lib.hid hhe; have HT := Lib.hid ht
    have hd0' : (d == 0) = false := by simp; omega
    have hw : IntKind.i64.wrap (cm / d * n) = cm / d * n := IntWalk.i64_in _ (by omega); have hq1 : cm.tdiv d = cm / d := Int.tdiv_eq_ediv_of_nonneg cm0; have hq2 : IntKind.i64.wrap (cm / d) = cm / d := IntWalk.i64_in _ (by omega)
    have hdz : ¬ d = 0 := by omega
    have i0' : (0 : Int) ≤ (k : Int) := by omega
    have i1 : (k : Int) < (hs.length : Int) := by omega
    have HB := Lib.hid hB; have hBd := hB.drew; clear hg ht hB hhe; go_wp2_with fail
    have hownD := (show World.ownsRow wr.drew _ _ _ _ _ _ from hown)
    have hownA := hownD.alloc (.cells #[.int .i64 (cm / d * n)] 3); have hnew : Reads (wr.drew.alloc (.cells #[.int .i64 (cm / d * n)] 3)) (wr.heap.size + 1) 1 (some ⟨wr.heap.size, 0, none⟩) 1 [.int .i64 (cm / d * n)] := new_reads wr.drew _ _
    have hbs : w.heap.size ≤ (wr.drew.alloc (.cells #[.int .i64 (cm / d * n)] 3)).heap.size := by have := hBd.size; simp at this ⊢; omega
    go_region_held3 (fun w' => w'.cell? ⟨g, off + k * 3 + 1, none⟩ = some (.int .i64 n) ∧ w'.cell? ⟨g, off + k * 3 + 2, none⟩ = some (.int .i64 d) ∧ Below w.heap.size w w') (first | (exact keepU HC.out hlt HHE.out hBd) | (exact keepU HC.out hlt HHE.out (hBd.alloc hBd.size _)) | (exact keepU HC.out hlt HHE.out ((hBd.alloc hBd.size _).grown hg3 (hBd.alloc hBd.size _).size (fun q hq => (hown.lt q hq).1))))
     ((refine step_append_any _ rfl (.tmp 23) (.tmp 39) 32 (by rfl) w.heap.size 3 i0 (.int .i64 0) 1 8 Tryz.underlying32 hi hz0 hz1 hz2 rfl (by decide) _ k (((unR hs).take k).map (Value.int .i64)) (by rfl) hownA (wr.heap.size + 1) (some ⟨wr.heap.size, 0, none⟩) 1 1 [.int .i64 (cm / d * n)] (by rfl) hnew (fun x hx => by simp at hx; subst hx; rfl) (by unfold maxLen; omega) (by omega) hbs ?_; intro v' w3 hown' hg3 hat3))
    have hB3 : Below w.heap.size w w3 := (And.right (And.right (by assumption)))
    have hown3 : w3.ownsRow w.heap.size 3 1 v' (k + 1) (((unR hs).take (k + 1)).map (Value.int .i64)) := by rw [HT.out]; exact hown'
    go_wp2_with fail
    go_roundw
    case rel => exact ⟨k + 1, by omega, by go_num, hown3, hB3⟩
    case measure => simp [intOf]; omega
   ·obtain rfl : hs.length = k := by omega
    have HO := Lib.hid hown; have HB := Lib.hid hB; clear hown hB; go_wp2_with fail; go_ret; refine ⟨_, rfl, ?_, HB.out⟩; have ho := HO.out; rw [List.take_of_length_le (by rw [un_len]; exact Nat.le_refl _)] at ho; exact ho
def tfTo (hs : List Hd) (gs : List Int) : Nat → List Tn
 | 0 => []
 | k + 1 => if 0 < gs.getD k 0 then tfTo hs gs k ++ [((hs.getD k hd0).1, gs.getD k 0)] else tfTo hs gs k
theorem tfTo_yes {hs : List Hd} {gs : List Int} {k : Nat} (h : 0 < gs.getD k 0) : tfTo hs gs (k + 1) = tfTo hs gs k ++ [((hs.getD k hd0).1, gs.getD k 0)] := if_pos h
theorem tfTo_no {hs : List Hd} {gs : List Int} {k : Nat} (h : ¬ 0 < gs.getD k 0) : tfTo hs gs (k + 1) = tfTo hs gs k := if_neg h
theorem tfTo_len (hs : List Hd) (gs : List Int) : ∀ k, (tfTo hs gs k).length ≤ k := by
  intro k
  induction k with
  | zero => exact Nat.le_refl _
  | succ k ih =>
    by_cases h : 0 < gs.getD k 0
    · rw [tfTo_yes h, List.length_append]; show _ + 1 ≤ _; omega
    · rw [tfTo_no h]; omega
theorem tfTo_some (hs : List Hd) (gs : List Int) : ∀ k, (∃ j, j < k ∧ 0 < gs.getD j 0) → 0 < (tfTo hs gs k).length := by
  intro k
  induction k with
  | zero => rintro ⟨j, h, _⟩; omega
  | succ k ih =>
    rintro ⟨j, h, hj⟩
    by_cases c : 0 < gs.getD k 0
    · rw [tfTo_yes c, List.length_append]; show 0 < _ + 1; omega
    · rw [tfTo_no c]
      refine ih ⟨j, ?_, hj⟩
      by_cases e : j = k
      · subst e; exact absurd hj c
      · omega
theorem sum_pos_at : ∀ l : List Int, 0 < l.sum → ∃ j, j < l.length ∧ 0 < l.getD j 0 := by
  intro l
  induction l with
  | nil => intro h; simp at h
  | cons z t ih =>
    intro h; rw [List.sum_cons] at h
    by_cases c : 0 < z
    · exact ⟨0, by simp, c⟩
    · obtain ⟨j, a, b⟩ := ih (by omega)
      exact ⟨j + 1, by simpa using a, b⟩
def tfB (hs : List Hd) (n : Int) : Bool := decide (cdR hs ≠ -1) && (decide (1 ≤ n) && decide (n ≤ 336)) && vwB (unR hs)
def tfL (hs : List Hd) (n : Int) : List Tn := tfTo hs (sr n (unR hs)) hs.length
theorem tf_no {hs : List Hd} {n : Int} (h : cdR hs = -1 ∨ (n < 1 ∨ 336 < n) ∨ vwB (unR hs) = false) : tfB hs n = false := by
 unfold tfB
 rcases h with h | h | h
 ·rw [h]; rfl
 ·rcases h with h | h
  ·rw [decide_eq_false (by omega : ¬ 1 ≤ n)]; simp
  ·rw [decide_eq_false (by omega : ¬ n ≤ 336)]; simp
 ·rw [h]; simp
theorem tf_yes {hs : List Hd} {n : Int} (h1 : cdR hs ≠ -1) (h2 : 1 ≤ n) (h3 : n ≤ 336) (h4 : vwB (unR hs) = true) : tfB hs n = true := by
 unfold tfB; rw [h4, decide_eq_true h1, decide_eq_true h2, decide_eq_true h3]; rfl
theorem tf_cs {hs : List Hd} {n : Int} (h2 : 1 ≤ n) (h3 : n ≤ 336) (h4 : vwB (unR hs) = true) : csB n (unR hs) = true := by
 unfold csB; rw [h4, decide_eq_true (by omega : 0 ≤ n), decide_eq_true (by omega : n ≤ 500)]; rfl
theorem tf_some {hs : List Hd} {n : Int} (h2 : 1 ≤ n) (hc : csB n (unR hs) = true) : 0 < (tfL hs n).length := by
 obtain ⟨j, a, b⟩ := sum_pos_at (sr n (unR hs)) (by rw [sr_sum hc]; omega)
 rw [sr_len, un_len] at a; exact tfTo_some _ _ _ ⟨j, a, b⟩
theorem tf_len (hs : List Hd) (n : Int) : (tfL hs n).length ≤ hs.length := tfTo_len _ _ _
def OutTT (w : World) (b : Bool) (L : List Tn) (e : Ending) (w' : World) : Prop := (b = false → e = .returned (.tuple #[.slice none 0 0, .bool false])) ∧ (b = true → ∃ g cap, e = .returned (.tuple #[.slice (some ⟨g, 0, none⟩) L.length cap, .bool true]) ∧ w.heap.size ≤ g ∧ Flat w' g 108 (flatTn L) ∧ L.length ≤ cap) ∧ Below w.heap.size w w'
theorem tt_no {w w' : World} {L : List Tn} {e : Ending} (he : e = .returned (.tuple #[.slice none 0 0, .bool false])) (h : Below w.heap.size w w') : OutTT w false L e w' := ⟨fun _ => he, (fun c => by cases c), h⟩
theorem tt_yes {w w' : World} {L : List Tn} {g cap n : Nat} {e : Ending} (he : e = .returned (.tuple #[.slice (some ⟨g, 0, none⟩) n cap, .bool true])) (hn : n = L.length) (hg : w.heap.size ≤ g) (hF : Flat w' g 108 (flatTn L)) (hc : L.length ≤ cap) (h : Below w.heap.size w w') : OutTT w true L e w' := ⟨(fun c => by cases c), fun _ => ⟨g, cap, by rw [he, hn], hg, hF, hc⟩, h⟩
theorem own_nextT {w w' : World} {base n : Nat} {v : Value} {xs : List Value} (h : w.ownsRow base 108 2 v n xs) (hb : Below w.heap.size w w') : w'.ownsRow base 108 2 v n xs := by
 refine ⟨h.1, ?_⟩
 rcases h.2 with h0 | ⟨g, cap, cur, a, b, c, d⟩
 ·exact .inl h0
 ·refine .inr ⟨g, cap, cur, a, b, ?_, d⟩
  have hg : g < w.heap.size := (World.ownsRow.lt h g (by rw [a]; rfl)).2; rw [hb.block g hg]; exact c
theorem own_unitsT {w : World} {base : Nat} {v : Value} {hs : List Hd} (h : w.ownsRow base 3 1 v hs.length ((unR hs).map (Value.int .i64))) : ∃ (b : Option Addr) (cap : Nat), v = .slice b hs.length cap ∧ IsInts w b (unR hs) := by
 have hl := un_len hs; rw [← hl] at h; obtain ⟨b, cap, e, i⟩ := own_ints h; exact ⟨b, cap, by rw [e, hl], i⟩
theorem hs_at {w wr : World} {g o : Nat} {hs : List Hd} (h : ∀ i, i < hs.length → w.cell? ⟨g, o + i * 3, none⟩ = some (.int .i64 (hs.getD i hd0).1) ∧ w.cell? ⟨g, o + i * 3 + 1, none⟩ = some (.int .i64 (hs.getD i hd0).2.1) ∧ w.cell? ⟨g, o + i * 3 + 2, none⟩ = some (.int .i64 (hs.getD i hd0).2.2)) (hB : Below w.heap.size w wr) {k : Nat} (hk : k < hs.length) : wr.cell? ⟨g, o + k * 3, none⟩ = some (.int .i64 (hs.getD k hd0).1) :=
 (hB.cell (p := ⟨g, o + k * 3, none⟩) (World.block_lt_of_cell? w _ (h k hk).1)).trans (h k hk).1
end Go.Proofs.YthagafkjlecagabGreat
