/- A part that goes from one owner to another, by impl. Condition: at most 1000 holdings. -/
import Derived.Test.YtaehemmjemhgpabGreatZASetI
import Derived.Test.YtaehemmjemhgpabGreatZAG4
import Derived.Deep.RegionHeld3
import Derived.Deep.DeepCutAuto
set_option maxRecDepth 100000
set_option maxHeartbeats 16000000
namespace Go.Proofs.YtaehemmjemhgpabGreat
open Go.RowKit

theorem iSubQ {an ad bn bd x y : Int} {b : Bool} (w : World) (hb : (Wsh.vfB an ad && Wsh.vfB bn bd && Wsh.redB (an * bd - bn * ad) (ad * bd)) = b) (hx : Wsh.rn (an * bd - bn * ad) (ad * bd) = x) (hy : Wsh.rd (an * bd - bn * ad) (ad * bd) = y) :
  Calls Tryz.prog 192 #[.agg #[.int .i64 an, .int .i64 ad], .agg #[.int .i64 bn, .int .i64 bd]] w fun e w' => e = .returned (.tuple #[.agg #[.int .i64 (Wsh.qn b x), .int .i64 (Wsh.qn b y)], .bool b]) ∧ Below w.heap.size w w' := by
 have := iSub an ad bn bd w; rw [hb, hx, hy] at this; exact this
theorem iAddB {an ad bn bd x y : Int} {b : Bool} (w : World) (hb : (Wsh.vfB an ad && Wsh.vfB bn bd && Wsh.redB (an * bd + bn * ad) (ad * bd)) = b) (hx : Wsh.rn (an * bd + bn * ad) (ad * bd) = x) (hy : Wsh.rd (an * bd + bn * ad) (ad * bd) = y) :
  Calls Tryz.prog 110 #[.agg #[.int .i64 an, .int .i64 ad], .agg #[.int .i64 bn, .int .i64 bd]] w fun e w' => e = .returned (.tuple #[.agg #[.int .i64 (Wsh.qn b x), .int .i64 (Wsh.qn b y)], .bool b]) ∧ Below w.heap.size w w' := by
 have := iAdd an ad bn bd w; rw [hb, hx, hy] at this; exact this
theorem sub_led {L : Led} (hf : ∀ x ∈ L, frB x.2 = true) (o : Int) {p : Rat} (hp : frB p = true) :
  (Wsh.vfB (jq5 L o).num ((jq5 L o).den : Int) && Wsh.vfB p.num (p.den : Int) && Wsh.redB ((jq5 L o).num * (p.den : Int) - p.num * ((jq5 L o).den : Int)) (((jq5 L o).den : Int) * (p.den : Int))) = frB (jq5 L o - p) ∧
  Wsh.rn ((jq5 L o).num * (p.den : Int) - p.num * ((jq5 L o).den : Int)) (((jq5 L o).den : Int) * (p.den : Int)) = (jq5 L o - p).num ∧ Wsh.rd ((jq5 L o).num * (p.den : Int) - p.num * ((jq5 L o).den : Int)) (((jq5 L o).den : Int) * (p.den : Int)) = ((jq5 L o - p).den : Int) := by
 obtain ⟨a, b, c⟩ := sub_red (jq5 L o) p; exact ⟨by rw [q_vf (share_frA hf o), q_vf hp, a]; rfl, b, c⟩
theorem add_led {L : Led} (hf : ∀ x ∈ L, frB x.2 = true) (o : Int) {p : Rat} (hp : frB p = true) :
  (Wsh.vfB (jq5 L o).num ((jq5 L o).den : Int) && Wsh.vfB p.num (p.den : Int) && Wsh.redB ((jq5 L o).num * (p.den : Int) + p.num * ((jq5 L o).den : Int)) (((jq5 L o).den : Int) * (p.den : Int))) = frB (jq5 L o + p) ∧
  Wsh.rn ((jq5 L o).num * (p.den : Int) + p.num * ((jq5 L o).den : Int)) (((jq5 L o).den : Int) * (p.den : Int)) = (jq5 L o + p).num ∧ Wsh.rd ((jq5 L o).num * (p.den : Int) + p.num * ((jq5 L o).den : Int)) (((jq5 L o).den : Int) * (p.den : Int)) = ((jq5 L o + p).den : Int) := by
 obtain ⟨a, b, c⟩ := add_red (jq5 L o) p; exact ⟨by rw [q_vf (share_frA hf o), q_vf hp, a]; rfl, b, c⟩
theorem ishareL (a : Option Addr) (cap : Nat) (L : Led) (hs : List Hd) (o : Int) (w : World) (h : IsHs w a hs) (hh : hs = rawL L) (hn : hs.length ≤ 1048576) :
  Calls Tryz.prog 193 #[.slice a hs.length cap, .int .i64 o] w fun e w' => e = .returned (.agg #[.int .i64 (jq5 L o).num, .int .i64 ((jq5 L o).den : Int)]) ∧ Below w.heap.size w w' := by
 have := ishare a cap hs o w h hn; unfold ShareV at this; rw [hh, shR_raw] at this; rw [hh]; exact this

theorem keepM {w W wq : World} {x y : Value} (hb : Below W.heap.size W wq) (h : W.cell? ⟨w.heap.size, 0, none⟩ = some x ∧ W.cell? ⟨w.heap.size, 1, none⟩ = some y ∧ Below w.heap.size w W) : wq.cell? ⟨w.heap.size, 0, none⟩ = some x ∧ wq.cell? ⟨w.heap.size, 1, none⟩ = some y ∧ Below w.heap.size w wq :=
 ⟨(hb.cell (World.block_lt_of_cell? W _ h.1)).trans h.1, (hb.cell (World.block_lt_of_cell? W _ h.2.1)).trans h.2.1, jq1 h.2.2 hb⟩
theorem keepMset {w W : World} {x y u v : Value} {b : Nat} (h : W.cell? ⟨w.heap.size, 0, none⟩ = some x ∧ W.cell? ⟨w.heap.size, 1, none⟩ = some y ∧ Below w.heap.size w W) (hlt : w.heap.size < b) : ((W.setCell ⟨b, 0, none⟩ u).setCell ⟨b, 1, none⟩ v).cell? ⟨w.heap.size, 0, none⟩ = some x ∧ ((W.setCell ⟨b, 0, none⟩ u).setCell ⟨b, 1, none⟩ v).cell? ⟨w.heap.size, 1, none⟩ = some y ∧ Below w.heap.size w ((W.setCell ⟨b, 0, none⟩ u).setCell ⟨b, 1, none⟩ v) := by
 have hq : ∀ (V : World) (k l : Nat) (z : Value), (V.setCell ⟨b, k, none⟩ z).cell? ⟨w.heap.size, l, none⟩ = V.cell? ⟨w.heap.size, l, none⟩ := fun V k l z => World.cell?_setCell_other V _ _ z (fun e => by injection e with e; omega)
 exact ⟨by rw [hq, hq]; exact h.1, by rw [hq, hq]; exact h.2.1, (h.2.2.setCell (Nat.le_of_lt hlt) _).setCell (Nat.le_of_lt hlt) _⟩

theorem keepMR {w W : World} {x y : Value} {o o' : Obj} (h : (W.alloc o).cell? ⟨w.heap.size, 0, none⟩ = some x ∧ (W.alloc o).cell? ⟨w.heap.size, 1, none⟩ = some y ∧ Below w.heap.size w (W.alloc o)) (hB : Below w.heap.size w W) (hlt : w.heap.size < W.heap.size) : (W.alloc o').cell? ⟨w.heap.size, 0, none⟩ = some x ∧ (W.alloc o').cell? ⟨w.heap.size, 1, none⟩ = some y ∧ Below w.heap.size w (W.alloc o') := by
 have e : ∀ (l : Nat) (o : Obj), (W.alloc o).cell? ⟨w.heap.size, l, none⟩ = W.cell? ⟨w.heap.size, l, none⟩ := fun l o => World.cell?_alloc_lt W o ⟨w.heap.size, l, none⟩ hlt
 rw [e, e] at h; exact ⟨by rw [e]; exact h.1, by rw [e]; exact h.2.1, hB.alloc (Nat.le_of_lt hlt) _⟩

theorem blk_second (w : World) (o : Obj) (t : TypeId) (cs : Array Value) : Blk ((w.alloc o).alloc (.cells cs t)) (w.heap.size + 1) t cs := by
 have := Blk.new (w.alloc o) t cs; rw [World.size_alloc] at this; exact this
def MoveV (w : World) (b : Bool) (L : Led) (e : Ending) (w' : World) : Prop := ∃ v, e = .returned (.tuple #[v, .bool b]) ∧ (b = false → v = .slice none 0 0) ∧ (b = true → OwnH w' w.heap.size v (rawL L)) ∧ Below w.heap.size w w'
theorem iwith0 (a : Option Addr) (cap : Nat) (o n d : Int) (q : Rat) (w : World) (hq : shareIs n d q) (h0 : 0 ≤ n) :
  Calls Tryz.prog 171 #[.slice a 0 cap, .int .i64 o, .agg #[.int .i64 n, .int .i64 d]] w (NewH w (rawL (setL [] o q))) := by
 obtain ⟨i0, hi0, hz0, hz1, hz2⟩ := info_parts infoH; have hw := with_raw (L := []) List.Pairwise.nil (hs := []) rfl hq (k := 0) (o := o) (Nat.le_refl _) (fun j hj => by omega) (fun c => absurd c (by simp)) (s := 0) (by simp); have HR : Hid (jj3 w w.heap.size 3 a 0 (jz3 [])) := jji (.inl rfl); clear hq
 by_cases hz : n = 0
 ·have HW : Hid (rawL (setL [] o q) = []) := by show _ = _; rw [hw, if_pos hz]; rfl
  have hz' : ¬ 0 < n := by omega
  clear hw hz; go_enter Tryz.func171, Tryz.ntmps171; go_wp2_with fail; refine wp_loop_rounds 1 ?_; rw [rounds_succ]; go_wp2_with fail; refine (icopyN 0 _ _ [] _ (.inl rfl) rfl (by omega)).mono ?_; rintro e w1 ⟨v1, rfl, hO1, hb⟩; have hB1 : Below w.heap.size w w1 := jq1 (by go_grown) hb; obtain ⟨t0, t1, t2, t3, t4⟩ := jqh ((Blk.new w 32 #[.int .i64 n, .int .i64 d]).next hb)
  have hO1' : w1.ownsRow (w.heap.size + 1) 123 3 v1 0 (jz3 []) := by
   have := hO1; unfold OwnH at this; rw [World.size_alloc] at this; exact this
  clear hO1 hb
  by_cases hck : cap = 0
  ·go_wp2_with (first | (at_builtin; refine jq2 _ rfl (.tmp 52) (.tmp 55) _ rfl (w.heap.size + 1) 123 i0 _ 3 24 Tryz.underlying23 hi0 hz0 hz1 hz2 rfl (by omega) v1 0 (jz3 []) rfl hO1' w.heap.size _ 0 _ (jz3 []) (by rfl) ⟨rfl, fun h => absurd h (by omega)⟩ (jz8 _) (by unfold maxLen; omega) (by omega) (by omega) ?_; intro v3 w3 hown3 hg3 hat3))
   go_ret; exact ⟨v3, rfl, by rw [HW.out]; exact own_base hown3, hB1.grown hg3 hB1.size (fun q hq => by have := (hO1'.lt q hq).1; omega)⟩
  ·go_wp2_with (first | (at_builtin; refine jq2 _ rfl (.tmp 52) (.tmp 55) _ rfl (w.heap.size + 1) 123 i0 _ 3 24 Tryz.underlying23 hi0 hz0 hz1 hz2 rfl (by omega) v1 0 (jz3 []) rfl hO1' w.heap.size _ 0 _ (jz3 []) (by rfl) ⟨rfl, fun h => absurd h (by omega)⟩ (jz8 _) (by unfold maxLen; omega) (by omega) (by omega) ?_; intro v3 w3 hown3 hg3 hat3))
   go_ret; exact ⟨v3, rfl, by rw [HW.out]; exact own_base hown3, hB1.grown hg3 hB1.size (fun q hq => by have := (hO1'.lt q hq).1; omega)⟩
 ·have HW : Hid (rawL (setL [] o q) = [(o, n, d)]) := by show _ = _; rw [hw, if_neg hz]; rfl
  have hz' : 0 < n := by omega
  clear hw hz; go_enter Tryz.func171, Tryz.ntmps171; go_wp2_with fail; refine wp_loop_rounds 1 ?_; rw [rounds_succ]; go_wp2_with fail; refine (icopyN 0 _ _ [] _ (.inl rfl) rfl (by omega)).mono ?_; rintro e w1 ⟨v1, rfl, hO1, hb⟩; have hB1 : Below w.heap.size w w1 := jq1 (by go_grown) hb; obtain ⟨t0, t1, t2, t3, t4⟩ := jqh ((Blk.new w 32 #[.int .i64 n, .int .i64 d]).next hb)
  have hO1' : w1.ownsRow (w.heap.size + 1) 123 3 v1 0 (jz3 []) := by
   have := hO1; unfold OwnH at this; rw [World.size_alloc] at this; exact this
  clear hO1 hb
  by_cases hck : cap = 0
  ·go_wp2_with (first | (at_builtin; refine wpList_append_own _ rfl (.tmp 31) (.tmp 35) _ rfl (w.heap.size + 1) 123 i0 _ 3 24 Tryz.underlying23 hi0 hz0 hz1 hz2 rfl (by decide) v1 0 (jz3 []) rfl (hO1'.alloc _) ⟨w1.heap.size, 0, none⟩ 1 1 [.int .i64 o, .int .i64 n, .int .i64 d] rfl rfl (jzg w1 _ _) (jz8 [(o, n, d)]) (by unfold maxLen; omega) (by omega) (by simp; omega) ?_; intro v2 w2 hO2 hg2 hat2; have BB : Below w.heap.size w w2 := (hB1.alloc hB1.size _).grown hg2 (by simp; omega) (fun q hq => by have := (hO1'.lt q hq).1; omega); have hzz : w1.heap.size + 1 ≤ w2.heap.size := (by have := hg2.size; simpa using this)) | (at_builtin; refine jq2 _ rfl (.tmp 52) (.tmp 55) _ rfl (w.heap.size + 1) 123 i0 _ 3 24 Tryz.underlying23 hi0 hz0 hz1 hz2 rfl (by omega) v2 (0 + 1) (jz3 [] ++ [.int .i64 o, .int .i64 n, .int .i64 d]) rfl hO2 w.heap.size _ 0 _ (jz3 []) (by rfl) ⟨rfl, fun h => absurd h (by omega)⟩ (jz8 _) (by unfold maxLen; omega) (by omega) (by omega) ?_; intro v3 w3 hown3 hg3 hat3))
   go_ret; exact ⟨v3, rfl, by rw [HW.out]; exact own_base hown3, BB.grown hg3 BB.size (fun q hq => by have := (hO2.lt q hq).1; omega)⟩
  ·go_wp2_with (first | (at_builtin; refine wpList_append_own _ rfl (.tmp 31) (.tmp 35) _ rfl (w.heap.size + 1) 123 i0 _ 3 24 Tryz.underlying23 hi0 hz0 hz1 hz2 rfl (by decide) v1 0 (jz3 []) rfl (hO1'.alloc _) ⟨w1.heap.size, 0, none⟩ 1 1 [.int .i64 o, .int .i64 n, .int .i64 d] rfl rfl (jzg w1 _ _) (jz8 [(o, n, d)]) (by unfold maxLen; omega) (by omega) (by simp; omega) ?_; intro v2 w2 hO2 hg2 hat2; have BB : Below w.heap.size w w2 := (hB1.alloc hB1.size _).grown hg2 (by simp; omega) (fun q hq => by have := (hO1'.lt q hq).1; omega); have hzz : w1.heap.size + 1 ≤ w2.heap.size := (by have := hg2.size; simpa using this)) | (at_builtin; refine jq2 _ rfl (.tmp 52) (.tmp 55) _ rfl (w.heap.size + 1) 123 i0 _ 3 24 Tryz.underlying23 hi0 hz0 hz1 hz2 rfl (by omega) v2 (0 + 1) (jz3 [] ++ [.int .i64 o, .int .i64 n, .int .i64 d]) rfl hO2 w.heap.size _ 0 _ (jz3 []) (by rfl) ⟨rfl, fun h => absurd h (by omega)⟩ (jz8 _) (by unfold maxLen; omega) (by omega) (by omega) ?_; intro v3 w3 hown3 hg3 hat3))
   go_ret; exact ⟨v3, rfl, by rw [HW.out]; exact own_base hown3, BB.grown hg3 BB.size (fun q hq => by have := (hO2.lt q hq).1; omega)⟩

theorem iwithA (a : Option Addr) (cap : Nat) (L : Led) (hs : List Hd) (o n d : Int) (q : Rat) (w : World) (h : IsHs w a hs) (hh : hs = rawL L) (hn : hs.length ≤ 1000) (ha : Asc L) (hq : shareIs n d q) (h0 : 0 ≤ n) (hc : hs.length ≤ cap) :
  Calls Tryz.prog 171 #[.slice a hs.length cap, .int .i64 o, .agg #[.int .i64 n, .int .i64 d]] w (NewH w (rawL (setL L o q))) := by
 rcases h with he | ⟨g, off, rfl, hcc⟩
 ·have hL : L = [] := by
   have := congrArg List.length hh; rw [he, jx5] at this; exact List.eq_nil_of_length_eq_zero this.symm
  subst hL; subst he; exact iwith0 a cap o n d q w hq h0
 ·exact iwith g off cap L hs o n d q w hcc hh hn ha hq h0 hc
theorem own_le {w : World} {base base' : Nat} {v : Value} {hs : List Hd} (h : OwnH w base' v hs) (hb : base ≤ base') : OwnH w base v hs := by
 refine ⟨h.1, ?_⟩
 rcases h.2 with h | ⟨g, cap, cur, a, b, c⟩
 ·exact .inl h
 ·exact .inr ⟨g, cap, cur, a, Nat.le_trans hb b, c⟩
theorem own_hs2 {w : World} {base : Nat} {v : Value} {hs : List Hd} (h : OwnH w base v hs) : ∃ (b : Option Addr) (cap : Nat), v = .slice b hs.length cap ∧ IsHs w b hs ∧ hs.length ≤ cap := by
 have h0 := h
 rcases h.2 with ⟨hv, hn⟩ | ⟨g, cap, cur, hv, _, _, hnc, _⟩
 ·exact ⟨none, 0, by rw [hv, hn], .inl (List.eq_nil_of_length_eq_zero hn), by omega⟩
 ·subst hv
  exact ⟨some ⟨g, 0, none⟩, cap, rfl, reads_hs (jj3.of_own h0) (fun ad e => by injection e with e; rw [← e]), hnc⟩

theorem igain (a : Option Addr) (cap : Nat) (L : Led) (hs : List Hd) (o pn pd : Int) (p : Rat) (w : World) (hcc : IsHs w a hs) (hh : hs = rawL L) (hn : hs.length ≤ 1000) (ha : Asc L) (hf : ∀ x ∈ L, frB x.2 = true) (hp : frB p = true) (hpn : pn = p.num) (hpd : pd = (p.den : Int)) (hc : hs.length ≤ cap) :
    Calls Tryz.prog 194 #[.slice a hs.length cap, .int .i64 o, .agg #[.int .i64 pn, .int .i64 pd]] w (MoveV w (frB (jq5 L o + p)) (setL L o (jq5 L o + p))) := by
  obtain ⟨a1, a2, a3⟩ := add_led hf o hp; have A1 := Lib.hid a1; have A2 := Lib.hid a2; have A3 := Lib.hid a3; have HI := Lib.hid hcc; have HH := Lib.hid hh; have HA := Lib.hid ha; rw [← hpn, ← hpd] at A1 A2 A3; have hnn := frB_nonneg (share_frA hf o); have hpp := frB_nonneg hp; have HN : Hid (0 ≤ (jq5 L o + p).num) := Rat.num_nonneg.2 (by grind); clear a1 a2 a3 hcc hh ha hf hpn hpd hnn hpp; generalize hb : frB (jq5 L o + p) = b at A1; clear hb; have HC := Lib.hid hc; clear hc; go_enter Tryz.func194, Tryz.ntmps194
  go_upto_region 1 with fail
  go_cut [8, 9] (fun sx sy wx => ∃ k : Nat, sx = .pointer (some ⟨k, 0, none⟩) ∧ sy = .bool b ∧ Blk wx k 32 #[.int .i64 (Wsh.qn b (jq5 L o + p).num), .int .i64 (Wsh.qn b ((jq5 L o + p).den : Int))] ∧ w.heap.size < k ∧ wx.cell? ⟨w.heap.size, 0, none⟩ = some (.int .i64 pn) ∧ wx.cell? ⟨w.heap.size, 1, none⟩ = some (.int .i64 pd) ∧ Below w.heap.size w wx)
  case first =>
    go_region_held3 (fun w' => w'.cell? ⟨w.heap.size, 0, none⟩ = some (.int .i64 pn) ∧ w'.cell? ⟨w.heap.size, 1, none⟩ = some (.int .i64 pd) ∧ Below w.heap.size w w') (first | (exact keepM hb (by assumption)) | (exact keepM ((Below.refl _ _).alloc (Nat.le_refl _) _) (by assumption)) | (exact keepMR (by assumption) hBq (by omega)) | (exact keepMset (by assumption) (by first | omega | (simp; omega))) | (refine ⟨?_, ?_, ?_⟩ <;> first | (go_keep; done) | (go_grown; done)))
      (first | (go_at_call 193; refine (ishareL _ _ L hs o _ (jqi HI.out (And.right (And.right (by assumption)))) HH.out (by omega)).mono ?_; rintro e wq ⟨rfl, hb⟩; have hBq := (keepM hb (by assumption)).2.2; obtain ⟨hc, hf⟩ := bcell hb; have hzz := hb.size; (try simp only [World.size_alloc] at hzz); (try simp only [World.size_drew] at hzz); (try simp only [World.size_alloc] at hzz); (try simp only [Nat.add_one_le_iff] at hzz); (try have hq : w.heap.size + 1 < wq.heap.size := by omega); (try have hq3 : w.heap.size < wq.heap.size := by omega)) | (go_at_call 110; refine (iAddB _ A1.out A2.out A3.out).mono ?_; rintro e wq ⟨rfl, hb⟩; have hBq := (keepM hb (by assumption)).2.2; obtain ⟨hc, hf⟩ := bcell hb; have hzz := hb.size; (try simp only [World.size_alloc] at hzz); (try simp only [World.size_drew] at hzz); (try simp only [World.size_alloc] at hzz); (try simp only [Nat.add_one_le_iff] at hzz); (try have hq : w.heap.size + 1 < wq.heap.size := by omega); (try have hq3 : w.heap.size < wq.heap.size := by omega)))
    all_goals
      have hS := ‹_ ∧ _›; go_wp2_with fail
      go_meet
      first
      | exact ⟨_, rfl, rfl, Blk.new _ _ _, by omega, hS.1, hS.2.1, hS.2.2⟩
      | exact ⟨_, rfl, rfl, ((Blk.new _ _ _).next hb).two _ _, by omega, hS.1, hS.2.1, hS.2.2⟩
      | exact ⟨_, rfl, rfl, (((blk_second w _ _ _).next (by assumption)).next hb).two _ _, by omega, hS.1, hS.2.1, hS.2.2⟩
      | exact ⟨_, rfl, rfl, (((blk_second w _ _ _).drew.next (by assumption)).next hb).two _ _, by omega, hS.1, hS.2.1, hS.2.2⟩
  case rest =>
    obtain ⟨k, rfl, rfl, hblk, hk, c0, c1, hB⟩ := hcut; obtain ⟨t0, t1, t2, t3, t4⟩ := jqh hblk
    cases b with
    | false =>
      go_wp2_with fail
      go_returns
      exact ⟨_, rfl, (fun _ => rfl), (fun c => by cases c), hB⟩
    | true =>
      rw [Wsh.qn_true] at t0 t1; go_wp2_with fail; refine (iwithA a cap L hs o _ _ (jq5 L o + p) _ (jqi HI.out hB) HH.out hn HA.out (.inl ⟨rfl, rfl⟩) HN.out HC.out).mono ?_; rintro e w2 ⟨v, rfl, hO, hb⟩; go_wp2_with fail
      go_returns
      exact ⟨v, rfl, (fun c => by cases c), (fun _ => own_le hO hB.size), jq1 hB hb⟩

theorem keepN {w W wq : World} {x y u v : Value} {k : Nat} (hb : Below W.heap.size W wq) (h : W.cell? ⟨w.heap.size, 0, none⟩ = some x ∧ W.cell? ⟨w.heap.size, 1, none⟩ = some y ∧ W.cell? ⟨k, 0, none⟩ = some u ∧ W.cell? ⟨k, 1, none⟩ = some v ∧ Below w.heap.size w W) : wq.cell? ⟨w.heap.size, 0, none⟩ = some x ∧ wq.cell? ⟨w.heap.size, 1, none⟩ = some y ∧ wq.cell? ⟨k, 0, none⟩ = some u ∧ wq.cell? ⟨k, 1, none⟩ = some v ∧ Below w.heap.size w wq := by
 have n : ∀ {p : Addr} {v : Value}, W.cell? p = some v → wq.cell? p = some v := fun h => (hb.cell (World.block_lt_of_cell? W _ h)).trans h
 exact ⟨n h.1, n h.2.1, n h.2.2.1, n h.2.2.2.1, jq1 h.2.2.2.2 hb⟩
theorem keepNb {w W : World} {x y u v : Value} {k : Nat} (h : W.cell? ⟨w.heap.size, 0, none⟩ = some x ∧ W.cell? ⟨w.heap.size, 1, none⟩ = some y ∧ W.cell? ⟨k, 0, none⟩ = some u ∧ W.cell? ⟨k, 1, none⟩ = some v ∧ Below w.heap.size w W) : Below w.heap.size w W := h.2.2.2.2

theorem imove (a : Option Addr) (cap : Nat) (L : Led) (hs : List Hd) (fr tt pn pd : Int) (p : Rat) (w : World) (hcc : IsHs w a hs) (hh : hs = rawL L) (hn : hs.length ≤ 900) (ha : Asc L) (hf : ∀ x ∈ L, frB x.2 = true) (hp : frB p = true) (hpn : pn = p.num) (hpd : pd = (p.den : Int)) (hc : hs.length ≤ cap) :
    Calls Tryz.prog 167 #[.slice a hs.length cap, .int .i64 fr, .int .i64 tt, .agg #[.int .i64 pn, .int .i64 pd]] w (MoveV w (frB (jq5 L fr - p) && frB (jq5 (setL L fr (jq5 L fr - p)) tt + p)) (setL (setL L fr (jq5 L fr - p)) tt (jq5 (setL L fr (jq5 L fr - p)) tt + p))) := by
  obtain ⟨a1, a2, a3⟩ := sub_led hf fr hp; have A1 := Lib.hid a1; have A2 := Lib.hid a2; have A3 := Lib.hid a3; have HI := Lib.hid hcc; have HH := Lib.hid hh; have HA := Lib.hid ha; have HF := Lib.hid hf; have HP := Lib.hid hp; have HPn := Lib.hid hpn; have HPd := Lib.hid hpd; rw [← hpn, ← hpd] at A1 A2 A3; clear a1 a2 a3 hcc hh ha hf hp hpn hpd
  obtain ⟨b, hb⟩ : ∃ b, frB (jq5 L fr - p) = b := ⟨_, rfl⟩
  rw [hb] at A1 ⊢; have HB := Lib.hid hb; clear hb; have HC := Lib.hid hc; clear hc; go_enter Tryz.func167, Tryz.ntmps167
  go_upto_region 1 with fail
  go_cut [10, 11] (fun sx sy wx => ∃ k : Nat, sx = .pointer (some ⟨k, 0, none⟩) ∧ sy = .bool b ∧ Blk wx k 32 #[.int .i64 (Wsh.qn b (jq5 L fr - p).num), .int .i64 (Wsh.qn b ((jq5 L fr - p).den : Int))] ∧ w.heap.size < k ∧ wx.cell? ⟨w.heap.size, 0, none⟩ = some (.int .i64 pn) ∧ wx.cell? ⟨w.heap.size, 1, none⟩ = some (.int .i64 pd) ∧ Below w.heap.size w wx)
  case first =>
    go_region_held3 (fun w' => w'.cell? ⟨w.heap.size, 0, none⟩ = some (.int .i64 pn) ∧ w'.cell? ⟨w.heap.size, 1, none⟩ = some (.int .i64 pd) ∧ Below w.heap.size w w') (first | (exact keepM hb (by assumption)) | (exact keepM ((Below.refl _ _).alloc (Nat.le_refl _) _) (by assumption)) | (exact keepMR (by assumption) hBq (by omega)) | (exact keepMset (by assumption) (by first | omega | (simp; omega))) | (refine ⟨?_, ?_, ?_⟩ <;> first | (go_keep; done) | (go_grown; done)))
      (first | (go_at_call 193; refine (ishareL _ _ L hs fr _ (jqi HI.out (And.right (And.right (by assumption)))) HH.out (by omega)).mono ?_; rintro e wq ⟨rfl, hb⟩; have hBq := (keepM hb (by assumption)).2.2; obtain ⟨hc, hf⟩ := bcell hb; have hzz := hb.size; (try simp only [World.size_alloc] at hzz); (try simp only [World.size_drew] at hzz); (try simp only [World.size_alloc] at hzz); (try simp only [Nat.add_one_le_iff] at hzz); (try have hq : w.heap.size + 1 < wq.heap.size := by omega); (try have hq3 : w.heap.size < wq.heap.size := by omega)) | (go_at_call 192; refine (iSubQ _ A1.out A2.out A3.out).mono ?_; rintro e wq ⟨rfl, hb⟩; have hBq := (keepM hb (by assumption)).2.2; obtain ⟨hc, hf⟩ := bcell hb; have hzz := hb.size; (try simp only [World.size_alloc] at hzz); (try simp only [World.size_drew] at hzz); (try simp only [World.size_alloc] at hzz); (try simp only [Nat.add_one_le_iff] at hzz); (try have hq : w.heap.size + 1 < wq.heap.size := by omega); (try have hq3 : w.heap.size < wq.heap.size := by omega)))
    all_goals
      have hS := ‹_ ∧ _›; go_wp2_with fail
      go_meet
      first
      | exact ⟨_, rfl, rfl, Blk.new _ _ _, by omega, hS.1, hS.2.1, hS.2.2⟩
      | exact ⟨_, rfl, rfl, ((Blk.new _ _ _).next hb).two _ _, by omega, hS.1, hS.2.1, hS.2.2⟩
      | exact ⟨_, rfl, rfl, (((blk_second w _ _ _).next (by assumption)).next hb).two _ _, by omega, hS.1, hS.2.1, hS.2.2⟩
      | exact ⟨_, rfl, rfl, (((blk_second w _ _ _).drew.next (by assumption)).next hb).two _ _, by omega, hS.1, hS.2.1, hS.2.2⟩
  case rest =>
    obtain ⟨k, rfl, rfl, hblk, hk, c0, c1, hB⟩ := hcut; obtain ⟨t0, t1, t2, t3, t4⟩ := jqh hblk
    cases b with
    | false =>
      go_wp2_with fail
      go_returns
      exact ⟨_, rfl, (fun _ => rfl), (fun c => by cases c), hB⟩
    | true =>
      rw [Wsh.qn_true] at t0 t1; have H1 : Hid (∀ x ∈ setL L fr (jq5 L fr - p), frB x.2 = true) := fr_set HF.out fr HB.out; have H2 : Hid (Asc (setL L fr (jq5 L fr - p))) := asc_set HA.out _ _; have H0 : Hid (0 ≤ (jq5 L fr - p).num) := Rat.num_nonneg.2 (frB_nonneg HB.out)
      have H3 : (rawL (setL L fr (jq5 L fr - p))).length ≤ 1000 := by
        rw [jx5]; have := set_len (L := L) fr (jq5 L fr - p); have e := congrArg List.length HH.out; rw [jx5] at e
        omega
      generalize hL1 : setL L fr (jq5 L fr - p) = L1 at H1 H2 H3 ⊢; have HL1 := Lib.hid hL1; clear hL1; go_wp2_with fail
      go_region_held3 (fun w' => w'.cell? ⟨w.heap.size, 0, none⟩ = some (.int .i64 pn) ∧ w'.cell? ⟨w.heap.size, 1, none⟩ = some (.int .i64 pd) ∧ w'.cell? ⟨k, 0, none⟩ = some (.int .i64 (jq5 L fr - p).num) ∧ w'.cell? ⟨k, 1, none⟩ = some (.int .i64 ((jq5 L fr - p).den : Int)) ∧ Below w.heap.size w w') (first | (exact keepN hb (by assumption)) | (refine ⟨?_, ?_, ?_, ?_, ?_⟩ <;> first | (go_keep; done) | exact hB.drew))
        (first | (go_at_call 171; refine (iwithA a cap L hs fr _ _ (jq5 L fr - p) _ (jqi HI.out (keepNb (by assumption))) HH.out (by omega) HA.out (.inl ⟨rfl, rfl⟩) H0.out HC.out).mono ?_; rintro e wq ⟨v1, rfl, hO, hb⟩; have hsz1 := hb.size; rw [HL1.out] at hO; obtain ⟨b1, cp1, rfl, hI1, hc1⟩ := own_hs2 hO) | (go_at_call 194; refine (igain _ _ L1 _ tt _ _ p _ hI1 rfl H3 H2.out H1.out HP.out HPn.out HPd.out hc1).mono ?_; rintro e wq2 ⟨v2, rfl, m1, m2, hb⟩))
      go_wp2_with fail
      go_returns
      rw [HL1.out, Bool.true_and]; exact ⟨v2, rfl, m1, (fun c => own_le (m2 c) (Nat.le_trans hB.size hsz1)), keepNb (by assumption)⟩
end Go.Proofs.YtaehemmjemhgpabGreat
