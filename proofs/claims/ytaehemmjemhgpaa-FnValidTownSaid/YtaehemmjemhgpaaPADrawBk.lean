/- The books that the laws draw. Condition: the reader has read at most 30000 numbers before. -/
import Derived.Test.YtaehemmjemhgpaaPADrawEv
import Derived.Test.YtaehemmjemhgpaaPAG7
import Derived.Test.YtaehemmjemhgpaaPATwC
import Derived.Test.YtaehemmjemhgpaaPAG1
import Derived.Deep.RegionHeld3
import Derived.Deep.QuietTactic
import Derived.BigQuiet
import Derived.RegionTactic
import Derived.Maps.AppendAt
set_option maxRecDepth 100000
set_option maxHeartbeats 16000000
namespace Go.Proofs.Ytaehemmjemhgpaa
open Go.RowKit
set_option linter.unusedSimpArgs false
set_option linter.unusedVariables false
theorem sets10_at {W : World} {B b : Nat} (hb : B ≤ b) (v0 v1 v2 v3 v4 v5 v6 v7 v8 v9 : Value) : Below B W (sets10 W b v0 v1 v2 v3 v4 v5 v6 v7 v8 v9) := ((((((((((Below.refl B W).setCell (p := ⟨b, 0, none⟩) hb v0).setCell (p := ⟨b, 1, none⟩) hb v1).setCell (p := ⟨b, 2, none⟩) hb v2).setCell (p := ⟨b, 3, none⟩) hb v3).setCell (p := ⟨b, 4, none⟩) hb v4).setCell (p := ⟨b, 5, none⟩) hb v5).setCell (p := ⟨b, 6, none⟩) hb v6).setCell (p := ⟨b, 7, none⟩) hb v7).setCell (p := ⟨b, 8, none⟩) hb v8).setCell (p := ⟨b, 9, none⟩) hb v9
theorem sets10_other {W : World} {b g : Nat} (hn : g ≠ b) (v0 v1 v2 v3 v4 v5 v6 v7 v8 v9 : Value) : (sets10 W b v0 v1 v2 v3 v4 v5 v6 v7 v8 v9).heap[g]? = W.heap[g]? := by
  unfold sets10
  rw [Below.heap_setCell _ _ _ g hn, Below.heap_setCell _ _ _ g hn, Below.heap_setCell _ _ _ g hn, Below.heap_setCell _ _ _ g hn, Below.heap_setCell _ _ _ g hn, Below.heap_setCell _ _ _ g hn, Below.heap_setCell _ _ _ g hn, Below.heap_setCell _ _ _ g hn, Below.heap_setCell _ _ _ g hn, Below.heap_setCell _ _ _ g hn]
theorem blk_row {w w' : World} {g base n size : Nat} {T e : TypeId} {cs : Array Value} {v : Value} {xs : List Value} (K : Blk w g T cs) (h : w.ownsRow base e size v n xs) (hb : g < base) (hG : w.grownBy w' v.ownBlock) : Blk w' g T cs :=
  (hG.block g K.lt (fun c => by have := (World.ownsRow.lt h g c.symm).1; omega)).trans K
theorem OwnEz.off {w y : World} {B b : Nat} {v : Value} {es : List Ev} {V : List Value} (h : OwnEz w B v es V) (hy : ∀ g, g ≠ b → y.heap[g]? = w.heap[g]?) (hb : b < B) (hs : w.heap.size ≤ y.heap.size) : OwnEz y B v es V := by
  refine ⟨h.len, ⟨h.row.1, ?_⟩, fun j hj => ?_⟩
  · rcases h.row.2 with q | ⟨g, cap, cur, hv, hg, hc, r⟩
    · exact .inl q
    · exact .inr ⟨g, cap, cur, hv, hg, (hy g (by omega)).trans hc, r⟩
  · obtain ⟨A, cz, hu, hI, hl, ha⟩ := h.own j hj
    by_cases hz : (es.getD j ev0).dd.zs = []
    · exact ⟨A, cz, hu, .inl hz, hl, fun c => absurd hz c⟩
    · refine ⟨A, cz, hu, ?_, hl, fun q g o s e => ⟨(ha q g o s e).1, Nat.lt_of_lt_of_le (ha q g o s e).2.1 hs, (ha q g o s e).2.2⟩⟩
      rcases hI with h' | ⟨g, o, e, hc⟩
      · exact absurd h' hz
      · exact .inr ⟨g, o, e, fun i hi => (World.cell?_of_block (hy g (by have := (ha hz g o none e).1; omega))).trans (hc i hi)⟩
theorem rb_snoc {t u v : Tw} {es : List Ev} {x : Ev} (h : rbT t es = some u) (hx : apT u x = some v) : rbT t (es ++ [x]) = some v := by
  rw [rb_append, h]
  show rbT u [x] = some v
  rw [rb_cons [] hx]; rfl
theorem ezs_more {es : List Ev} {x : Ev} {m : Nat} (h : ∀ j, j < es.length → (es.getD j ev0).dd.zs.length ≤ m) (hx : x.dd.zs.length ≤ m) : ∀ j, j < (es ++ [x]).length → ((es ++ [x]).getD j ev0).dd.zs.length ≤ m := fun j hj => by
  rw [getD_snocE]
  by_cases hl : j < es.length
  · rw [if_pos hl]; exact h j hl
  · have : j = es.length := by simp at hj; omega
    rw [if_neg hl, if_pos this]; exact hx
theorem sz_sets10 {W : World} {b : Nat} {v0 v1 v2 v3 v4 v5 v6 v7 v8 v9 : Value} : W.heap.size ≤ (sets10 W b v0 v1 v2 v3 v4 v5 v6 v7 v8 v9).heap.size := by
  unfold sets10; simp [World.size_setCell]

/-- what someBook leaves -/
def SomeBk (w : World) (b : Nat) (P : Int) (base : Nat) (t : Tw) (e : Ending) (w' : World) : Prop := ∃ (a : Option Addr) (cap : Nat) (es : List Ev) (V : List Value) (q : TA) (u : Tw), e = .returned (.tuple #[.slice a es.length cap, .agg #[.slice q.a1 u.hs.length q.c1, .slice q.a2 u.ts.length q.c2, .slice q.a3 u.ns.length q.c3, .int .i64 u.r, .int .i64 u.hd, .slice q.a4 u.ac.length q.c4, .int .i64 u.rt, .int .i64 u.tm, .int .i64 u.ls, .int .i64 u.cm]]) ∧ es.length ≤ 20 ∧ OwnEz w' w.heap.size (.slice a es.length cap) es V ∧ (∀ j, j < es.length → (es.getD j ev0).dd.zs.length ≤ 4) ∧ TwO w' base q u ∧ twB u = true ∧ rbT t es = some u ∧ Rd w' b (P + 1700) ∧ w.grownBy w' (some b)
theorem someBk (b : Nat) (P : Int) (p : TA) (t : Tw) (base : Nat) (w : World) (h : Rd w b P) (hP : P ≤ 30000) (hb : b < w.heap.size) (hO : TwO w base p t) (hbb : b < base) (hbw : base ≤ w.heap.size) (hv : twB t = true) :
    Calls Try.prog 146 #[.pointer (some ⟨b, 0, none⟩), twV p t] w (SomeBk w b P base t) := by
  obtain ⟨i0, hi0, hz0, hzz, hz2⟩ := info_parts infoEv
  have neT : w.heap.size ≠ b := by omega
  have neR : w.heap.size + 1 ≠ b := by omega
  obtain ⟨w0, hw0⟩ : ∃ y, y = ((w.alloc (.cells #[.slice p.a1 t.hs.length p.c1, .slice p.a2 t.ts.length p.c2, .slice p.a3 t.ns.length p.c3, .int .i64 t.r, .int .i64 t.hd, .slice p.a4 t.ac.length p.c4, .int .i64 t.rt, .int .i64 t.tm, .int .i64 t.ls, .int .i64 t.cm] 49)).alloc (.cells #[.slice none 0 0, .slice none 0 0, .slice none 0 0, .int .i64 0, .int .i64 0, .slice none 0 0, .int .i64 0, .int .i64 0, .int .i64 0, .int .i64 0] 49)).alloc (.cells #[] 63) := ⟨_, rfl⟩
  have B0 : Below w.heap.size w w0 := by subst hw0; go_grown
  have KT : Blk w0 w.heap.size 49 #[.slice p.a1 t.hs.length p.c1, .slice p.a2 t.ts.length p.c2, .slice p.a3 t.ns.length p.c3, .int .i64 t.r, .int .i64 t.hd, .slice p.a4 t.ac.length p.c4, .int .i64 t.rt, .int .i64 t.tm, .int .i64 t.ls, .int .i64 t.cm] := by subst hw0; exact ((Blk.new _ _ _).alloc _).alloc _
  have KR : Blk w0 (w.heap.size + 1) 49 #[.slice none 0 0, .slice none 0 0, .slice none 0 0, .int .i64 0, .int .i64 0, .slice none 0 0, .int .i64 0, .int .i64 0, .int .i64 0, .int .i64 0] := by
    subst hw0
    have := (Blk.new (w.alloc (.cells #[.slice p.a1 t.hs.length p.c1, .slice p.a2 t.ts.length p.c2, .slice p.a3 t.ns.length p.c3, .int .i64 t.r, .int .i64 t.hd, .slice p.a4 t.ac.length p.c4, .int .i64 t.rt, .int .i64 t.tm, .int .i64 t.ls, .int .i64 t.cm] 49)) 49 #[.slice none 0 0, .slice none 0 0, .slice none 0 0, .int .i64 0, .int .i64 0, .slice none 0 0, .int .i64 0, .int .i64 0, .int .i64 0, .int .i64 0]).alloc (.cells #[] 63)
    rw [World.size_alloc] at this; exact this
  have s0 : Hid (w.heap.size + 3 ≤ w0.heap.size) := by
    have : w.heap.size + 3 ≤ w0.heap.size := by subst hw0; simp
    exact this
  have Ez : OwnEz w0 (w.heap.size + 2) (.slice (some ⟨w.heap.size + 2, 0, none⟩) 0 0) [] [] := by
    subst hw0
    have := ownEz_new (Below.refl ((w.alloc (.cells #[.slice p.a1 t.hs.length p.c1, .slice p.a2 t.ts.length p.c2, .slice p.a3 t.ns.length p.c3, .int .i64 t.r, .int .i64 t.hd, .slice p.a4 t.ac.length p.c4, .int .i64 t.rt, .int .i64 t.tm, .int .i64 t.ls, .int .i64 t.cm] 49)).alloc (.cells #[.slice none 0 0, .slice none 0 0, .slice none 0 0, .int .i64 0, .int .i64 0, .slice none 0 0, .int .i64 0, .int .i64 0, .int .i64 0, .int .i64 0] 49)).heap.size ((w.alloc (.cells #[.slice p.a1 t.hs.length p.c1, .slice p.a2 t.ts.length p.c2, .slice p.a3 t.ns.length p.c3, .int .i64 t.r, .int .i64 t.hd, .slice p.a4 t.ac.length p.c4, .int .i64 t.rt, .int .i64 t.tm, .int .i64 t.ls, .int .i64 t.cm] 49)).alloc (.cells #[.slice none 0 0, .slice none 0 0, .slice none 0 0, .int .i64 0, .int .i64 0, .slice none 0 0, .int .i64 0, .int .i64 0, .int .i64 0, .int .i64 0] 49)))
    rw [World.size_alloc, World.size_alloc] at this; exact this
  have R0 : Rd w0 b P := rd_below h hb B0
  have G0 : w.grownBy w0 (some b) := g_below B0 _
  have hO0 := hO.next B0
  have hb0 := Nat.lt_of_lt_of_le hb G0.size
  have HW0 := Lib.hid hw0
  clear h hw0 hO B0
  change Calls _ _ #[_, .agg #[.slice p.a1 t.hs.length p.c1, .slice p.a2 t.ts.length p.c2, .slice p.a3 t.ns.length p.c3, .int .i64 t.r, .int .i64 t.hd, .slice p.a4 t.ac.length p.c4, .int .i64 t.rt, .int .i64 t.tm, .int .i64 t.ls, .int .i64 t.cm]] _ _
  go_enter Try.func146, Try.ntmps146
  go_upto_region 2 with fail
  rw [← HW0.out]
  go_wp2_with fail
  refine (one_lit b 6 _ 0 20 [8, 12, 5, 20, 0, 2] _ w0 R0 (by omega) hb0 rfl (by omega) (by omega) (by simp)).mono ?_
  rintro e w1 ⟨c0, rfl, l0, l1, hR1, hG1⟩
  have KT1 := blk_gr KT hG1 neT
  have KR1 := blk_gr KR hG1 neR
  have Ez1 := Ez.far hG1 (by omega)
  have hO1 := hO0.far hG1 hbb
  have G1 := g_trans G0 hG1
  have hsz1 : w.heap.size + 3 ≤ w1.heap.size := by have := hG1.size; have := s0.out; omega
  clear R0 hG1 Ez KT KR hO0 HW0
  go_wp2_with fail
  go_loopw [6, 7] (fun v i wr => ∃ (es : List Ev) (V : List Value) (q : TA) (u : Tw) (c : Int), 0 ≤ c ∧ (es.length : Int) + c ≤ 20 ∧ i = .int .i64 c ∧ OwnEz wr (w.heap.size + 2) v es V ∧ Hid (∀ j, j < es.length → (es.getD j ev0).dd.zs.length ≤ 4) ∧ Blk wr w.heap.size 49 #[.slice q.a1 u.hs.length q.c1, .slice q.a2 u.ts.length q.c2, .slice q.a3 u.ns.length q.c3, .int .i64 u.r, .int .i64 u.hd, .slice q.a4 u.ac.length q.c4, .int .i64 u.rt, .int .i64 u.tm, .int .i64 u.ls, .int .i64 u.cm] ∧ Blk wr (w.heap.size + 1) 49 #[.slice none 0 0, .slice none 0 0, .slice none 0 0, .int .i64 0, .int .i64 0, .slice none 0 0, .int .i64 0, .int .i64 0, .int .i64 0, .int .i64 0] ∧ TwO wr base q u ∧ twB u = true ∧ Hid (rbT t es = some u) ∧ Rd wr b (P + 1 + 80 * (20 - c)) ∧ w.grownBy wr (some b)) (fun _ i _ => (intOf i).toNat)
  case atStart => exact ⟨[], [], p, t, c0, l0, by simp; omega, rfl, Ez1, fun j hj => absurd hj (Nat.not_lt_zero _), KT1, KR1, hO1, hv, rb_nil t, rd_up hR1 (by omega), G1⟩
  case round =>
    clear hR1 Ez1 KT1 KR1 hO1 G1 hv hsz1
    obtain ⟨es, V, q, u, c, hc, hxc, rfl, Ez, h4, KT, KR, hO, hv, hrb, hR, hG⟩ := hrel
    obtain ⟨sb, sk, rfl⟩ := Ez.forms
    have hbr := Nat.lt_of_lt_of_le hb hG.size
    by_cases hc0 : 0 < c
    · obtain ⟨qT0, qT1, qT2, qT3, qT4, qT5, qT6, qT7, qT8, qT9⟩ := town_cells KT
      have LZ0 := Lib.hid Ez.lt
      go_wp2_with fail
      refine (someEv b _ q u base _ hR (by omega) hbr hO hbb).mono ?_
      rintro e W2 ⟨A, cz, ⟨k, ⟨dk, o, tt, n, d, zs⟩, at_, nu⟩, rfl, z4, zc, zI, zab0, hRV, hGV⟩
      dsimp only at z4 zc zI zab0 ⊢
      have G2s : w.heap.size ≤ W2.heap.size := Nat.le_trans hG.size hGV.size
      have l0 : w.heap.size < wr.heap.size := KT.lt
      obtain ⟨gV, hgV⟩ : ∃ gV, gV = wr.heap.size := ⟨_, rfl⟩
      have lgV : w.heap.size + 2 ≤ gV := by rw [hgV]; exact KR.lt
      have LZ : Hid (∀ q_, (Value.slice sb es.length sk).ownBlock = some q_ → q_ < gV) := by rw [hgV]; exact LZ0.out
      have zab : ∀ ad, A = some ad → wr.heap.size ≤ ad.block := zab0
      have zab2 : ∀ ad, A = some ad → gV ≤ ad.block := by rw [hgV]; exact zab0
      have hgE : wr.heap.size ≤ W2.heap.size := hGV.size
      obtain ⟨U2, hU2⟩ : ∃ y, y = W2.alloc (.cells #[.int .i64 k, .int .i64 dk, .int .i64 o, .int .i64 tt, .int .i64 n, .int .i64 d, .slice A zs.length cz, .int .i64 at_, .int .i64 nu] 63) := ⟨_, rfl⟩
      have D2 : Below W2.heap.size W2 U2 := by subst hU2; exact (Below.refl _ _).alloc (Nat.le_refl _) _
      have K8 : Blk U2 W2.heap.size 63 #[.int .i64 k, .int .i64 dk, .int .i64 o, .int .i64 tt, .int .i64 n, .int .i64 d, .slice A zs.length cz, .int .i64 at_, .int .i64 nu] := by subst hU2; exact Blk.new _ _ _
      replace KT := (blk_gr KT hGV neT).next D2
      replace KR := (blk_gr KR hGV neR).next D2
      replace Ez := (Ez.far hGV (by omega)).next D2
      replace hO := (hO.far hGV hbb).next D2
      replace zI := ints_below zI D2
      have R2 := rd_below hRV (Nat.lt_of_lt_of_le hbr hGV.size) D2
      have G2 := g_trans (g_trans hG hGV) (g_below D2 _)
      have hb2 := Nat.lt_of_lt_of_le hb G2.size
      have HU2 := Lib.hid hU2
      have lE := K8.lt
      generalize hgEE : W2.heap.size = gE at K8 hgE
      clear hgV hR hG hRV hGV D2 hU2 qT0 qT1 qT2 qT3 qT4 qT5 qT6 qT7 qT8 qT9 zab0 hbr LZ0
      obtain ⟨qT0, qT1, qT2, qT3, qT4, qT5, qT6, qT7, qT8, qT9⟩ := town_cells KT
      obtain ⟨e0_, e1_, e2_, e3_, e4_, e5_, e6_, e7_, e8_⟩ := cells9 K8
      subst hgEE
      cases ha : apT u ⟨k, ⟨dk, o, tt, n, d, zs⟩, at_, nu⟩ with
      | none =>
        go_wp2_with (first | (show wpList _ _ _ ({ dst := some _, op := _, type := _, pos := _, after := _, guard := _ } :: _) _ (World.alloc _ _); rw [← HU2.out]) | fail)
        refine (sAE q u ⟨k, ⟨dk, o, tt, n, d, zs⟩, at_, nu⟩ A cz U2 hO.is hv zI (by dsimp only; omega) zc).mono ?_
        rintro e W4 ⟨q2, he, hOn, C4⟩
        replace KT := KT.next C4
        replace KR := KR.next C4
        replace K8 := K8.next C4
        replace Ez := Ez.next C4
        replace hO := hO.next C4
        replace zI := ints_below zI C4
        have R := rd_below R2 hb2 C4
        have G := g_trans G2 (g_below C4 _)
        have hb4 := Nat.lt_of_lt_of_le hb G.size
        clear R2 G2 C4 qT0 qT1 qT2 qT3 qT4 qT5 qT6 qT7 qT8 qT9 e0_ e1_ e2_ e3_ e4_ e5_ e6_ e7_ e8_ HU2
        obtain ⟨hb1, hb2⟩ := ap_nn ha
        rw [hb1, hb2] at he
        change e = .returned (.tuple #[.agg #[.slice q2.a1 Tw.zero.hs.length q2.c1, .slice q2.a2 Tw.zero.ts.length q2.c2, .slice q2.a3 Tw.zero.ns.length q2.c3, .int .i64 Tw.zero.r, .int .i64 Tw.zero.hd, .slice q2.a4 Tw.zero.ac.length q2.c4, .int .i64 Tw.zero.rt, .int .i64 Tw.zero.tm, .int .i64 Tw.zero.ls, .int .i64 Tw.zero.cm], .bool false]) at he
        subst he
        have HN : Hid (OwnEz (W4.alloc (.cells #[.slice q2.a1 Tw.zero.hs.length q2.c1, .slice q2.a2 Tw.zero.ts.length q2.c2, .slice q2.a3 Tw.zero.ns.length q2.c3, .int .i64 Tw.zero.r, .int .i64 Tw.zero.hd, .slice q2.a4 Tw.zero.ac.length q2.c4, .int .i64 Tw.zero.rt, .int .i64 Tw.zero.tm, .int .i64 Tw.zero.ls, .int .i64 Tw.zero.cm] 49)) (w.heap.size + 2) (.slice sb es.length sk) es V ∧ Blk (W4.alloc (.cells #[.slice q2.a1 Tw.zero.hs.length q2.c1, .slice q2.a2 Tw.zero.ts.length q2.c2, .slice q2.a3 Tw.zero.ns.length q2.c3, .int .i64 Tw.zero.r, .int .i64 Tw.zero.hd, .slice q2.a4 Tw.zero.ac.length q2.c4, .int .i64 Tw.zero.rt, .int .i64 Tw.zero.tm, .int .i64 Tw.zero.ls, .int .i64 Tw.zero.cm] 49)) w.heap.size 49 #[.slice q.a1 u.hs.length q.c1, .slice q.a2 u.ts.length q.c2, .slice q.a3 u.ns.length q.c3, .int .i64 u.r, .int .i64 u.hd, .slice q.a4 u.ac.length q.c4, .int .i64 u.rt, .int .i64 u.tm, .int .i64 u.ls, .int .i64 u.cm] ∧ Blk (W4.alloc (.cells #[.slice q2.a1 Tw.zero.hs.length q2.c1, .slice q2.a2 Tw.zero.ts.length q2.c2, .slice q2.a3 Tw.zero.ns.length q2.c3, .int .i64 Tw.zero.r, .int .i64 Tw.zero.hd, .slice q2.a4 Tw.zero.ac.length q2.c4, .int .i64 Tw.zero.rt, .int .i64 Tw.zero.tm, .int .i64 Tw.zero.ls, .int .i64 Tw.zero.cm] 49)) (w.heap.size + 1) 49 #[.slice none 0 0, .slice none 0 0, .slice none 0 0, .int .i64 0, .int .i64 0, .slice none 0 0, .int .i64 0, .int .i64 0, .int .i64 0, .int .i64 0] ∧ TwO (W4.alloc (.cells #[.slice q2.a1 Tw.zero.hs.length q2.c1, .slice q2.a2 Tw.zero.ts.length q2.c2, .slice q2.a3 Tw.zero.ns.length q2.c3, .int .i64 Tw.zero.r, .int .i64 Tw.zero.hd, .slice q2.a4 Tw.zero.ac.length q2.c4, .int .i64 Tw.zero.rt, .int .i64 Tw.zero.tm, .int .i64 Tw.zero.ls, .int .i64 Tw.zero.cm] 49)) base q u ∧ Rd (W4.alloc (.cells #[.slice q2.a1 Tw.zero.hs.length q2.c1, .slice q2.a2 Tw.zero.ts.length q2.c2, .slice q2.a3 Tw.zero.ns.length q2.c3, .int .i64 Tw.zero.r, .int .i64 Tw.zero.hd, .slice q2.a4 Tw.zero.ac.length q2.c4, .int .i64 Tw.zero.rt, .int .i64 Tw.zero.tm, .int .i64 Tw.zero.ls, .int .i64 Tw.zero.cm] 49)) b (P + 1 + 80 * (20 - c) + 80) ∧ w.grownBy (W4.alloc (.cells #[.slice q2.a1 Tw.zero.hs.length q2.c1, .slice q2.a2 Tw.zero.ts.length q2.c2, .slice q2.a3 Tw.zero.ns.length q2.c3, .int .i64 Tw.zero.r, .int .i64 Tw.zero.hd, .slice q2.a4 Tw.zero.ac.length q2.c4, .int .i64 Tw.zero.rt, .int .i64 Tw.zero.tm, .int .i64 Tw.zero.ls, .int .i64 Tw.zero.cm] 49)) (some b)) := by
          have D4 : Below W4.heap.size W4 (W4.alloc (.cells #[.slice q2.a1 Tw.zero.hs.length q2.c1, .slice q2.a2 Tw.zero.ts.length q2.c2, .slice q2.a3 Tw.zero.ns.length q2.c3, .int .i64 Tw.zero.r, .int .i64 Tw.zero.hd, .slice q2.a4 Tw.zero.ac.length q2.c4, .int .i64 Tw.zero.rt, .int .i64 Tw.zero.tm, .int .i64 Tw.zero.ls, .int .i64 Tw.zero.cm] 49)) := (Below.refl _ _).alloc (Nat.le_refl _) _
          exact ⟨Ez.next D4, KT.next D4, KR.next D4, hO.next D4, rd_below R hb4 D4, g_trans G (g_below D4 _)⟩
        clear KT KR K8 Ez hOn hO zI R G hb1 hb2
        go_wp2_with fail
        go_roundw
        case rel => exact ⟨es, V, q, u, c - 1, by omega, by omega, by go_num, HN.out.1, h4, HN.out.2.1, HN.out.2.2.1, HN.out.2.2.2.1, hv, hrb, by rw [show P + 1 + 80 * (20 - (c - 1)) = P + 1 + 80 * (20 - c) + 80 by omega]; exact HN.out.2.2.2.2.1, HN.out.2.2.2.2.2⟩
        case measure => simp [intOf]; omega
      | some u2 =>
        go_wp2_with (first | (show wpList _ _ _ ({ dst := some _, op := _, type := _, pos := _, after := _, guard := _ } :: _) _ (World.alloc _ _); rw [← HU2.out]) | fail)
        refine (sAE q u ⟨k, ⟨dk, o, tt, n, d, zs⟩, at_, nu⟩ A cz U2 hO.is hv zI (by dsimp only; omega) zc).mono ?_
        rintro e W4 ⟨q2, he, hOn, C4⟩
        have C4s : W2.heap.size ≤ U2.heap.size := by have := lE; omega
        replace KT := KT.next C4
        replace KR := KR.next C4
        replace K8 := K8.next C4
        replace Ez := Ez.next C4
        replace zI := ints_below zI C4
        have R := rd_below R2 hb2 C4
        have G := g_trans G2 (g_below C4 _)
        have hb4 := Nat.lt_of_lt_of_le hb G.size
        obtain ⟨gE, hgE2⟩ : ∃ gE, gE = W2.heap.size := ⟨_, rfl⟩
        rw [← hgE2] at K8
        have hgE3 : wr.heap.size ≤ gE := by omega
        clear R2 G2 C4 qT0 qT1 qT2 qT3 qT4 qT5 qT6 qT7 qT8 qT9 e0_ e1_ e2_ e3_ e4_ e5_ e6_ e7_ e8_ HU2
        rw [← hgE2]
        clear hgE2
        obtain ⟨hb1, hb2⟩ := ap_sm ha
        rw [hb1, hb2] at he
        rw [hb2] at hOn
        change e = .returned (.tuple #[.agg #[.slice q2.a1 u2.hs.length q2.c1, .slice q2.a2 u2.ts.length q2.c2, .slice q2.a3 u2.ns.length q2.c3, .int .i64 u2.r, .int .i64 u2.hd, .slice q2.a4 u2.ac.length q2.c4, .int .i64 u2.rt, .int .i64 u2.tm, .int .i64 u2.ls, .int .i64 u2.cm], .bool true]) at he
        subst he
        obtain ⟨U4, hU4⟩ : ∃ y, y = W4.alloc (.cells #[.slice q2.a1 u2.hs.length q2.c1, .slice q2.a2 u2.ts.length q2.c2, .slice q2.a3 u2.ns.length q2.c3, .int .i64 u2.r, .int .i64 u2.hd, .slice q2.a4 u2.ac.length q2.c4, .int .i64 u2.rt, .int .i64 u2.tm, .int .i64 u2.ls, .int .i64 u2.cm] 49) := ⟨_, rfl⟩
        have K9 : Blk U4 W4.heap.size 49 #[.slice q2.a1 u2.hs.length q2.c1, .slice q2.a2 u2.ts.length q2.c2, .slice q2.a3 u2.ns.length q2.c3, .int .i64 u2.r, .int .i64 u2.hd, .slice q2.a4 u2.ac.length q2.c4, .int .i64 u2.rt, .int .i64 u2.tm, .int .i64 u2.ls, .int .i64 u2.cm] := by subst hU4; exact Blk.new _ _ _
        have D4 : Below W4.heap.size W4 U4 := by subst hU4; exact (Below.refl _ _).alloc (Nat.le_refl _) _
        have KT4 := KT.next D4
        have KR4 := KR.next D4
        have K84 := K8.next D4
        have Ez4 := Ez.next D4
        have hO4 : TwO U4 base q2 u2 := (hOn.next D4).base (Nat.le_trans hbw (Nat.le_trans G2s C4s))
        have I4 := ints_below zI D4
        have R4 := rd_below R hb4 D4
        have G4 := g_trans G (g_below D4 _)
        have HU4 := Lib.hid hU4
        have HKT := Lib.hid KT4
        have hv2 := (ap_is ha).2
        clear KT KR K8 Ez hOn hO zI R G D4 hU4 hb1 hb2
        obtain ⟨y1, hy⟩ : ∃ Y_, Y_ = sets10 U4 w.heap.size (.slice q2.a1 u2.hs.length q2.c1) (.slice q2.a2 u2.ts.length q2.c2) (.slice q2.a3 u2.ns.length q2.c3) (.int .i64 u2.r) (.int .i64 u2.hd) (.slice q2.a4 u2.ac.length q2.c4) (.int .i64 u2.rt) (.int .i64 u2.tm) (.int .i64 u2.ls) (.int .i64 u2.cm) := ⟨_, rfl⟩
        have KF := sets10_blk (v0 := .slice q2.a1 u2.hs.length q2.c1) (v1 := .slice q2.a2 u2.ts.length q2.c2) (v2 := .slice q2.a3 u2.ns.length q2.c3) (v3 := .int .i64 u2.r) (v4 := .int .i64 u2.hd) (v5 := .slice q2.a4 u2.ac.length q2.c4) (v6 := .int .i64 u2.rt) (v7 := .int .i64 u2.tm) (v8 := .int .i64 u2.ls) (v9 := .int .i64 u2.cm) HKT.out
        rw [← hy] at KF
        have KR1 := X10f KR4 hy (by omega : w.heap.size + 1 ≠ w.heap.size)
        have K81 := X10f K84 hy (by omega : gE ≠ w.heap.size)
        have Ez1 := (show OwnEz y1 (w.heap.size + 2) (.slice sb es.length sk) es V by subst hy; exact Ez4.off (fun g hn => sets10_other hn _ _ _ _ _ _ _ _ _ _) (by omega) sz_sets10)
        have hO1 := X10o hO4 HKT.out hy
        have HF1 := (show Rd y1 b _ ∧ w.grownBy y1 (some b) by subst hy; exact rd_fin (g := 0) R4 hb G4 (sets10_at (Nat.le_refl _) _ _ _ _ _ _ _ _ _ _))
        have I1 := (show IsInts y1 A zs by subst hy; exact ints_off I4 zab l0 (fun g hn => sets10_other hn _ _ _ _ _ _ _ _ _ _))
        have HY := Lib.hid hy
        have KT1 := KF
        clear KF hy
        have D5 : Below y1.heap.size y1 (y1.alloc (.cells #[.int .i64 k, .int .i64 dk, .int .i64 o, .int .i64 tt, .int .i64 n, .int .i64 d, .slice A zs.length cz, .int .i64 at_, .int .i64 nu] 63)) := (Below.refl _ _).alloc (Nat.le_refl _) _
        have hby : b < y1.heap.size := Nat.lt_of_lt_of_le hb HF1.2.size
        have HA : Hid (OwnEz (y1.alloc (.cells #[.int .i64 k, .int .i64 dk, .int .i64 o, .int .i64 tt, .int .i64 n, .int .i64 d, .slice A zs.length cz, .int .i64 at_, .int .i64 nu] 63)) (w.heap.size + 2) (.slice sb es.length sk) es V ∧ Blk (y1.alloc (.cells #[.int .i64 k, .int .i64 dk, .int .i64 o, .int .i64 tt, .int .i64 n, .int .i64 d, .slice A zs.length cz, .int .i64 at_, .int .i64 nu] 63)) w.heap.size 49 #[.slice q2.a1 u2.hs.length q2.c1, .slice q2.a2 u2.ts.length q2.c2, .slice q2.a3 u2.ns.length q2.c3, .int .i64 u2.r, .int .i64 u2.hd, .slice q2.a4 u2.ac.length q2.c4, .int .i64 u2.rt, .int .i64 u2.tm, .int .i64 u2.ls, .int .i64 u2.cm] ∧ Blk (y1.alloc (.cells #[.int .i64 k, .int .i64 dk, .int .i64 o, .int .i64 tt, .int .i64 n, .int .i64 d, .slice A zs.length cz, .int .i64 at_, .int .i64 nu] 63)) (w.heap.size + 1) 49 #[.slice none 0 0, .slice none 0 0, .slice none 0 0, .int .i64 0, .int .i64 0, .slice none 0 0, .int .i64 0, .int .i64 0, .int .i64 0, .int .i64 0] ∧ TwO (y1.alloc (.cells #[.int .i64 k, .int .i64 dk, .int .i64 o, .int .i64 tt, .int .i64 n, .int .i64 d, .slice A zs.length cz, .int .i64 at_, .int .i64 nu] 63)) base q2 u2 ∧ Rd (y1.alloc (.cells #[.int .i64 k, .int .i64 dk, .int .i64 o, .int .i64 tt, .int .i64 n, .int .i64 d, .slice A zs.length cz, .int .i64 at_, .int .i64 nu] 63)) b (P + 1 + 80 * (20 - c) + 80) ∧ w.grownBy (y1.alloc (.cells #[.int .i64 k, .int .i64 dk, .int .i64 o, .int .i64 tt, .int .i64 n, .int .i64 d, .slice A zs.length cz, .int .i64 at_, .int .i64 nu] 63)) (some b) ∧ IsInts (y1.alloc (.cells #[.int .i64 k, .int .i64 dk, .int .i64 o, .int .i64 tt, .int .i64 n, .int .i64 d, .slice A zs.length cz, .int .i64 at_, .int .i64 nu] 63)) A zs ∧ w.heap.size + 2 ≤ (y1.alloc (.cells #[.int .i64 k, .int .i64 dk, .int .i64 o, .int .i64 tt, .int .i64 n, .int .i64 d, .slice A zs.length cz, .int .i64 at_, .int .i64 nu] 63)).heap.size) := ⟨Ez1.next D5, KT1.next D5, KR1.next D5, hO1.next D5, rd_below HF1.1 hby D5, g_trans HF1.2 (g_below D5 _), ints_below I1 D5, by have := (KR1.next D5).lt; omega⟩
        have HR5 := Lib.hid HA.out.1.row
        have NC := Lib.hid (new_cells y1 [.int .i64 k, .int .i64 dk, .int .i64 o, .int .i64 tt, .int .i64 n, .int .i64 d, .slice A zs.length cz, .int .i64 at_, .int .i64 nu] 63)
        obtain ⟨e0_, e1_, e2_, e3_, e4_, e5_, e6_, e7_, e8_⟩ := cells9 K81
        obtain ⟨f0_, f1_, f2_, f3_, f4_, f5_, f6_, f7_, f8_, f9_⟩ := town_cells K9
        have sz5 := HA.out.2.2.2.2.2.2.2
        clear Ez1 hO1 HF1 I1 KT1 KR1 K81 D5 hby KT4 KR4 K84 Ez4 hO4 I4 R4 G4 K9
        go_wp2_with (first | (show wpList _ _ _ ({ dst := some _, op := _, type := _, pos := _, after := _, guard := _ } :: _) _ (World.alloc _ _); rw [← HU4.out]) | (show wpList _ _ _ ({ dst := _, op := Op.store _ _ _, type := _, pos := _, after := _, guard := _ } :: _) _ _; refine wpList_store10 rfl _ _ _ rfl w.heap.size (.slice q2.a1 u2.hs.length q2.c1) (.slice q2.a2 u2.ts.length q2.c2) (.slice q2.a3 u2.ns.length q2.c3) (.int .i64 u2.r) (.int .i64 u2.hd) (.slice q2.a4 u2.ac.length q2.c4) (.int .i64 u2.rt) (.int .i64 u2.tm) (.int .i64 u2.ls) (.int .i64 u2.cm) rfl rfl HKT.out (by kernel_rfl) rfl ?_; rw [← HY.out]) | (at_builtin; refine wpList_append_own_at _ rfl (.tmp 30) (.tmp 32) _ rfl (w.heap.size + 2) 63 i0 _ 9 88 Try.underlying70 hi0 hz0 hzz hz2 rfl (by decide) _ es.length (rowC V es) rfl HR5.out ⟨y1.heap.size, 0, none⟩ 1 1 [.int .i64 k, .int .i64 dk, .int .i64 o, .int .i64 tt, .int .i64 n, .int .i64 d, .slice A zs.length cz, .int .i64 at_, .int .i64 nu] rfl rfl NC.out (evC_one A cz ⟨k, ⟨dk, o, tt, n, d, zs⟩, at_, nu⟩) (by unfold maxLen; omega) (by omega) sz5 ?_; intro v2 w2 hO2 hg2 hnil2 hat2))
        have HF : Hid (OwnEz w2 (w.heap.size + 2) v2 (es ++ [⟨k, ⟨dk, o, tt, n, d, zs⟩, at_, nu⟩]) (V ++ [.slice A zs.length cz]) ∧ Blk w2 w.heap.size 49 #[.slice q2.a1 u2.hs.length q2.c1, .slice q2.a2 u2.ts.length q2.c2, .slice q2.a3 u2.ns.length q2.c3, .int .i64 u2.r, .int .i64 u2.hd, .slice q2.a4 u2.ac.length q2.c4, .int .i64 u2.rt, .int .i64 u2.tm, .int .i64 u2.ls, .int .i64 u2.cm] ∧ Blk w2 (w.heap.size + 1) 49 #[.slice none 0 0, .slice none 0 0, .slice none 0 0, .int .i64 0, .int .i64 0, .slice none 0 0, .int .i64 0, .int .i64 0, .int .i64 0, .int .i64 0] ∧ TwO w2 base q2 u2 ∧ Rd w2 b (P + 1 + 80 * (20 - c) + 80) ∧ w.grownBy w2 (some b)) := by
          obtain ⟨a1, a2, a3, a4, a5, a6, a7, a8⟩ := HA.out
          have lz : ∀ q_, (Value.slice sb es.length sk).ownBlock = some q_ → q_ < gV := LZ.out
          have r := rd_fin (g := 0) a5 hb a6 ((Below.refl w.heap.size _).grown hg2 (by omega) (fun q_ hq => by have := (World.ownsRow.lt a1.row q_ hq).1; omega))
          exact ⟨a1.snocG (x := ⟨k, ⟨dk, o, tt, n, d, zs⟩, at_, nu⟩) (hrz_of a7 zc zab2 (by omega) lz) hO2 hg2 hat2, blk_row a2 a1.row (by omega) hg2, blk_row a3 a1.row (by omega) hg2, a4.apartE a1.row hg2, r.1, r.2⟩
        clear hO2 hg2 hnil2 hat2 HA HR5 NC e0_ e1_ e2_ e3_ e4_ e5_ e6_ e7_ e8_ f0_ f1_ f2_ f3_ f4_ f5_ f6_ f7_ f8_ f9_
        have HN := Lib.hid (rb_snoc hrb.out ha)
        have HZ4 := Lib.hid (ezs_more (x := ⟨k, ⟨dk, o, tt, n, d, zs⟩, at_, nu⟩) h4.out z4)
        go_roundw
        case rel => exact ⟨es ++ [⟨k, ⟨dk, o, tt, n, d, zs⟩, at_, nu⟩], V ++ [.slice A zs.length cz], q2, u2, c - 1, by omega, by rw [List.length_append]; show ((es.length + 1 : Nat) : Int) + (c - 1) ≤ 20; omega, by go_num, HF.out.1, HZ4, HF.out.2.1, HF.out.2.2.1, HF.out.2.2.2.1, hv2, HN, by rw [show P + 1 + 80 * (20 - (c - 1)) = P + 1 + 80 * (20 - c) + 80 by omega]; exact HF.out.2.2.2.2.1, HF.out.2.2.2.2.2⟩
        case measure => simp [intOf]; omega
    · skip
      obtain rfl : c = 0 := by omega
      have LT := KT.lt
      have HG : Hid (Rd wr.drew b (P + 1700) ∧ w.grownBy wr.drew (some b)) := ⟨rd_below (rd_up (P' := P + 1700) hR (by omega)) (Nat.lt_of_lt_of_le hb hG.size) (Below.refl _ _).drew, g_drewN hG _⟩
      have HKR : Hid (Blk wr.drew (w.heap.size + 1) 49 #[.slice none 0 0, .slice none 0 0, .slice none 0 0, .int .i64 0, .int .i64 0, .slice none 0 0, .int .i64 0, .int .i64 0, .int .i64 0, .int .i64 0]) := KR.next (Below.refl _ _).drew
      have HEz := Lib.hid (Ez.next (Below.refl wr.heap.size wr).drew)
      have HO := Lib.hid (hO.next (Below.refl wr.heap.size wr).drew)
      obtain ⟨qT0, qT1, qT2, qT3, qT4, qT5, qT6, qT7, qT8, qT9⟩ := town_cells KT
      have HGd := Lib.hid HG.out.2
      clear hR hG KR Ez hO KT
      go_wp2_with fail
      refine wp_region_held_drew (S := (fun w' => (w'.cell? ⟨w.heap.size, 0, none⟩ = some (.slice q.a1 u.hs.length q.c1) ∧ w'.cell? ⟨w.heap.size, 1, none⟩ = some (.slice q.a2 u.ts.length q.c2) ∧ w'.cell? ⟨w.heap.size, 2, none⟩ = some (.slice q.a3 u.ns.length q.c3) ∧ w'.cell? ⟨w.heap.size, 3, none⟩ = some (.int .i64 u.r) ∧ w'.cell? ⟨w.heap.size, 4, none⟩ = some (.int .i64 u.hd) ∧ w'.cell? ⟨w.heap.size, 5, none⟩ = some (.slice q.a4 u.ac.length q.c4) ∧ w'.cell? ⟨w.heap.size, 6, none⟩ = some (.int .i64 u.rt) ∧ w'.cell? ⟨w.heap.size, 7, none⟩ = some (.int .i64 u.tm) ∧ w'.cell? ⟨w.heap.size, 8, none⟩ = some (.int .i64 u.ls) ∧ w'.cell? ⟨w.heap.size, 9, none⟩ = some (.int .i64 u.cm)) ∧ w.grownBy w' (some b))) (by kernel_rfl) ?_ (fun hHeld => ?_)
      · exact ⟨⟨qT0, qT1, qT2, qT3, qT4, qT5, qT6, qT7, qT8, qT9⟩, HGd.out⟩
      clear HGd qT0 qT1 qT2 qT3 qT4 qT5 qT6 qT7 qT8 qT9
      generalize wr.drew = wd at hHeld HG HKR HEz HO ⊢
      refine wpAnyH_take (i := 0) (oi := ?oot1) (v := ?vvt1) ?hit1 (by kernel_rfl) ?h3t1 ?h4t1 ?h5t1 ?h6t1 (by assumption) ?h8t1
      case hit1 => (simp only [List.getElem?_toArray, List.getElem?_cons_succ, List.getElem?_cons_zero]; rfl)
      case h3t1 => kernel_rfl
      case h4t1 => kernel_rfl
      case h6t1 => (refine Or.inl ⟨by rfl, ?_⟩; intro w hSw; (try dsimp only at hSw); (go_simp <;> with_reducible rfl))
      case h5t1 => exact fun _ _ _ h => h
      try simp only [Act.put, List.setIfInBounds_toArray, List.set_cons_zero, List.set_cons_succ]
      refine wpAnyH_take (i := 1) (oi := ?oot2) (v := ?vvt2) ?hit2 (by kernel_rfl) ?h3t2 ?h4t2 ?h5t2 ?h6t2 (by assumption) ?h8t2
      case hit2 => (simp only [List.getElem?_toArray, List.getElem?_cons_succ, List.getElem?_cons_zero]; rfl)
      case h3t2 => kernel_rfl
      case h4t2 => kernel_rfl
      case h6t2 => (refine Or.inl ⟨by rfl, ?_⟩; intro w hSw; (try dsimp only at hSw); (go_simp <;> with_reducible rfl))
      case h5t2 => exact fun _ _ _ h => h
      try simp only [Act.put, List.setIfInBounds_toArray, List.set_cons_zero, List.set_cons_succ]
      refine wpAnyH_take (i := 2) (oi := ?oot3) (v := ?vvt3) ?hit3 (by kernel_rfl) ?h3t3 ?h4t3 ?h5t3 ?h6t3 (by assumption) ?h8t3
      case hit3 => (simp only [List.getElem?_toArray, List.getElem?_cons_succ, List.getElem?_cons_zero]; rfl)
      case h3t3 => kernel_rfl
      case h4t3 => kernel_rfl
      case h6t3 => (refine Or.inl ⟨by rfl, ?_⟩; intro w hSw; (try dsimp only at hSw); (go_simp <;> with_reducible rfl))
      case h5t3 => exact fun _ _ _ h => h
      try simp only [Act.put, List.setIfInBounds_toArray, List.set_cons_zero, List.set_cons_succ]
      refine wpAnyH_ready (rs := [3]) (by kernel_rfl) (by simp) (AllReadyH.cons (o := ?oot4) ?hit4 (fun K hK => ?hkt4) AllReadyH.nil)
      rotate_left
      case hit4 => (simp only [List.getElem?_toArray, List.getElem?_cons_succ, List.getElem?_cons_zero]; rfl)
      (rw [if_pos (by rfl)]; obtain ⟨fc0, fc1, fc2, fc3, fc4, fc5, fc6, fc7, fc8, fc9⟩ := town_cells HKR.out; have ff0 := HKR.out.frozen 0; have ff1 := HKR.out.frozen 1; have ff2 := HKR.out.frozen 2; have ff3 := HKR.out.frozen 3; have ff4 := HKR.out.frozen 4; have ff5 := HKR.out.frozen 5; have ff6 := HKR.out.frozen 6; have ff7 := HKR.out.frozen 7; have ff8 := HKR.out.frozen 8; have ff9 := HKR.out.frozen 9; go_simp; obtain ⟨y1, hy⟩ : ∃ Y_, Y_ = sets10 wd (w.heap.size + 1) (.slice q.a1 u.hs.length q.c1) (.slice q.a2 u.ts.length q.c2) (.slice q.a3 u.ns.length q.c3) (.int .i64 u.r) (.int .i64 u.hd) (.slice q.a4 u.ac.length q.c4) (.int .i64 u.rt) (.int .i64 u.tm) (.int .i64 u.ls) (.int .i64 u.cm) := ⟨_, rfl⟩; change K _ (sets10 _ _ _ _ _ _ _ _ _ _ _ _); rw [← hy]; have KF := sets10_blk (v0 := .slice q.a1 u.hs.length q.c1) (v1 := .slice q.a2 u.ts.length q.c2) (v2 := .slice q.a3 u.ns.length q.c3) (v3 := .int .i64 u.r) (v4 := .int .i64 u.hd) (v5 := .slice q.a4 u.ac.length q.c4) (v6 := .int .i64 u.rt) (v7 := .int .i64 u.tm) (v8 := .int .i64 u.ls) (v9 := .int .i64 u.cm) HKR.out; rw [← hy] at KF; have HF := Lib.hid (show Rd y1 b (P + 1700) ∧ w.grownBy y1 (some b) by subst hy; exact rd_fin (g := 0) HG.out.1 hb HG.out.2 (sets10_at (Nat.le_succ _) _ _ _ _ _ _ _ _ _ _)); have HE := Lib.hid (show OwnEz y1 (w.heap.size + 2) (.slice sb es.length sk) es V by subst hy; exact HEz.out.off (fun g hn => sets10_other hn _ _ _ _ _ _ _ _ _ _) (by omega) sz_sets10); have HT := Lib.hid (X10o HO.out HKR.out hy); have KK : (y1.cell? ⟨w.heap.size, 0, none⟩ = some (.slice q.a1 u.hs.length q.c1) ∧ y1.cell? ⟨w.heap.size, 1, none⟩ = some (.slice q.a2 u.ts.length q.c2) ∧ y1.cell? ⟨w.heap.size, 2, none⟩ = some (.slice q.a3 u.ns.length q.c3) ∧ y1.cell? ⟨w.heap.size, 3, none⟩ = some (.int .i64 u.r) ∧ y1.cell? ⟨w.heap.size, 4, none⟩ = some (.int .i64 u.hd) ∧ y1.cell? ⟨w.heap.size, 5, none⟩ = some (.slice q.a4 u.ac.length q.c4) ∧ y1.cell? ⟨w.heap.size, 6, none⟩ = some (.int .i64 u.rt) ∧ y1.cell? ⟨w.heap.size, 7, none⟩ = some (.int .i64 u.tm) ∧ y1.cell? ⟨w.heap.size, 8, none⟩ = some (.int .i64 u.ls) ∧ y1.cell? ⟨w.heap.size, 9, none⟩ = some (.int .i64 u.cm)) ∧ w.grownBy y1 (some b) := ⟨⟨(World.cell?_of_block (by subst hy; exact sets10_other (Nat.ne_of_lt (Nat.lt_succ_self _)) _ _ _ _ _ _ _ _ _ _)).trans hHeld.1.1, (World.cell?_of_block (by subst hy; exact sets10_other (Nat.ne_of_lt (Nat.lt_succ_self _)) _ _ _ _ _ _ _ _ _ _)).trans hHeld.1.2.1, (World.cell?_of_block (by subst hy; exact sets10_other (Nat.ne_of_lt (Nat.lt_succ_self _)) _ _ _ _ _ _ _ _ _ _)).trans hHeld.1.2.2.1, (World.cell?_of_block (by subst hy; exact sets10_other (Nat.ne_of_lt (Nat.lt_succ_self _)) _ _ _ _ _ _ _ _ _ _)).trans hHeld.1.2.2.2.1, (World.cell?_of_block (by subst hy; exact sets10_other (Nat.ne_of_lt (Nat.lt_succ_self _)) _ _ _ _ _ _ _ _ _ _)).trans hHeld.1.2.2.2.2.1, (World.cell?_of_block (by subst hy; exact sets10_other (Nat.ne_of_lt (Nat.lt_succ_self _)) _ _ _ _ _ _ _ _ _ _)).trans hHeld.1.2.2.2.2.2.1, (World.cell?_of_block (by subst hy; exact sets10_other (Nat.ne_of_lt (Nat.lt_succ_self _)) _ _ _ _ _ _ _ _ _ _)).trans hHeld.1.2.2.2.2.2.2.1, (World.cell?_of_block (by subst hy; exact sets10_other (Nat.ne_of_lt (Nat.lt_succ_self _)) _ _ _ _ _ _ _ _ _ _)).trans hHeld.1.2.2.2.2.2.2.2.1, (World.cell?_of_block (by subst hy; exact sets10_other (Nat.ne_of_lt (Nat.lt_succ_self _)) _ _ _ _ _ _ _ _ _ _)).trans hHeld.1.2.2.2.2.2.2.2.2.1, (World.cell?_of_block (by subst hy; exact sets10_other (Nat.ne_of_lt (Nat.lt_succ_self _)) _ _ _ _ _ _ _ _ _ _)).trans hHeld.1.2.2.2.2.2.2.2.2.2⟩, HF.out.2⟩; clear hy fc0 ff0 fc1 ff1 fc2 ff2 fc3 ff3 fc4 ff4 fc5 ff5 fc6 ff6 fc7 ff7 fc8 ff8 fc9 ff9; refine hK.out _ _ (KK) (fun hHeld => ?_); clear hK K)
      try simp only [Act.put, List.setIfInBounds_toArray, List.set_cons_zero, List.set_cons_succ]
      refine wpAnyH_done (by kernel_rfl) ?_ _
      obtain ⟨z0, z1, z2, z3, z4, z5, z6, z7, z8, z9⟩ := town_cells KF
      clear KF KK hHeld
      go_wp2_with fail
      refine bodyPost_ret (v := .tuple #[.slice sb es.length sk, .agg #[.slice q.a1 u.hs.length q.c1, .slice q.a2 u.ts.length q.c2, .slice q.a3 u.ns.length q.c3, .int .i64 u.r, .int .i64 u.hd, .slice q.a4 u.ac.length q.c4, .int .i64 u.rt, .int .i64 u.tm, .int .i64 u.ls, .int .i64 u.cm]]) (by simp [results, Try.results146, go_sem, z0, z1, z2, z3, z4, z5, z6, z7, z8, z9]) rfl ⟨sb, sk, es, V, q, u, rfl, by omega, HE.out.base (by omega), h4.out, HT.out, hv, hrb.out, HF.out.1, HF.out.2⟩
end Go.Proofs.Ytaehemmjemhgpaa
