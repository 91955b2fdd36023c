/- Copies of holdings and a share that is set, by impl. Condition: at most 1048576 holdings. -/
import Derived.Test.YtaehemmjemhgpabGreatZAG0
set_option maxRecDepth 100000
set_option maxHeartbeats 16000000
namespace Go.Proofs.YtaehemmjemhgpabGreat
open Go.RowKit

def NewH (w : World) (hs : List Hd) (e : Ending) (w' : World) : Prop := ∃ v, e = .returned v ∧ OwnH w' w.heap.size v hs ∧ Below w.heap.size w w'

theorem icopy (a : Option Addr) (cap : Nat) (hs : List Hd) (w : World) (h : IsHs w a hs) (hn : hs.length ≤ 1048576) :
  Calls Tryz.prog 87 #[.slice a hs.length cap] w (NewH w hs) := by
 obtain ⟨i0, hi0, hz0, hz1, hz2⟩ := info_parts infoH; have HR := Lib.hid (jji h); clear h; go_enter Tryz.func87, Tryz.ntmps87
 go_wp2_with (first | (at_builtin; refine jq2 _ rfl (.tmp 3) (.tmp 4) _ rfl w.heap.size 123 i0 _ 3 24 Tryz.underlying23 hi0 hz0 hz1 hz2 rfl (by omega) _ 0 [] rfl ⟨rfl, .inr ⟨w.heap.size, 0, #[], rfl, Nat.le_refl _, Blk.new _ _ _, Nat.le_refl _, by unfold maxLen; omega, rfl, rfl⟩⟩ w.heap.size a hs.length cap (jz3 hs) rfl (HR.out.alloc (Nat.le_refl _) _) (jz8 hs) (by unfold maxLen; omega) (by omega) (by simp) ?_; intro v1 w1 hown1 hg1 hat1))
 go_ret; refine ⟨v1, rfl, ?_, ?_⟩
 ·have := hown1
  rw [Nat.zero_add, List.nil_append] at this; exact this
 ·exact ((Below.refl _ _).alloc (Nat.le_refl _) _).grown hg1 (by simp) (fun q hq => by have e : w.heap.size = q := Option.some.inj hq; omega)

theorem own_base {w : World} {base n : Nat} {v : Value} {xs : List Value} (h : w.ownsRow (base + 1) 123 3 v n xs) : w.ownsRow base 123 3 v n xs := by
 refine ⟨h.1, ?_⟩
 rcases h.2 with h | ⟨g, cap, cur, a, b, c⟩
 ·exact .inl h
 ·exact .inr ⟨g, cap, cur, a, by omega, c⟩
theorem own_tail {w1 : World} {base m : Nat} {v1 : Value} {a b : List Hd} {k : Nat} (h : w1.ownsRow (base + 1) 123 3 v1 (k + m) (jz3 a ++ jz3 b)) (hk : a.length = k) (hn : b.length = m) : OwnH w1 base v1 (a ++ [] ++ b) := by
 unfold OwnH; rw [List.append_nil, List.length_append, vals_append, hk, hn]; exact own_base h
theorem own_tail2 {w1 : World} {base m : Nat} {v1 : Value} {a b : List Hd} {k : Nat} {o n d : Int} (h : w1.ownsRow (base + 1) 123 3 v1 (k + 1 + m) (jz3 a ++ [.int .i64 o, .int .i64 n, .int .i64 d] ++ jz3 b)) (hk : a.length = k) (hn : b.length = m) : OwnH w1 base v1 (a ++ [(o, n, d)] ++ b) := by
 unfold OwnH; rw [List.length_append, List.length_append, vals_append, vals_append, hk, hn]; exact own_base h
theorem with_raw {L : Led} (ha : Asc L) {o n d : Int} {q : Rat} {hs : List Hd} (hh : hs = rawL L) (hq : shareIs n d q) {k : Nat} (hk : k ≤ hs.length) (h1 : ∀ j, j < k → (hs.getD j hd0).1 < o) (h2 : k < hs.length → o ≤ (hs.getD k hd0).1) {s : Nat} (hsk : s = if k < hs.length ∧ (hs.getD k hd0).1 = o then k + 1 else k) :
  rawL (setL L o q) = hs.take k ++ (if n = 0 then [] else [(o, n, d)]) ++ hs.drop s := by
 rw [hsk]; clear hsk; subst hh; rw [jx5] at hk h2 ⊢
 have g : ∀ j, j < L.length → ((rawL L).getD j hd0).1 = (L.getD j (0, 0)).1 := fun j hj => by rw [raw_get L hj]; rfl
 rw [with_set ha o q hk (fun j hj => by rw [← g j (by omega)]; exact h1 j hj) (fun hl => by rw [← g k hl]; exact h2 hl), raw_append, raw_append, raw_take, raw_drop]
 have e1 : rawL (if q = 0 then [] else [(o, q)]) = (if n = 0 then [] else [(o, n, d)]) := by
  have := shareIs_zero hq; rw [decide_eq_decide] at this
  by_cases hz : q = 0
  ·rw [if_pos hz, if_pos (this.1 hz)]; rfl
  ·rw [if_neg hz, if_neg (fun c => hz (this.2 c))]
   show [rawH (o, q)] = _
   rw [shareIs_raw hq hz]
 have e2 : skipL L o k = if k < L.length ∧ ((rawL L).getD k hd0).1 = o then k + 1 else k := by
  unfold skipL
  by_cases hl : k < L.length
  ·rw [g k hl]
  ·rw [if_neg (fun c => hl c.1), if_neg (fun c => hl c.1)]
 rw [e1, e2]
theorem icopyN (n : Nat) (a : Option Addr) (cap : Nat) (hs : List Hd) (w : World) (h : IsHs w a hs) (hl : hs.length = n) (hn : n ≤ 1048576) :
  Calls Tryz.prog 87 #[.slice a n cap] w (NewH w hs) := by
 subst hl; exact icopy a cap hs w h hn

theorem iwith (g off : Nat) (cap : Nat) (L : Led) (hs : List Hd) (o n d : Int) (q : Rat) (w : World) (hcc : ∀ i, i < hs.length → w.cell? ⟨g, off + i * 3, none⟩ = some (.int .i64 (hs.getD i hd0).1) ∧ w.cell? ⟨g, off + i * 3 + 1, none⟩ = some (.int .i64 (hs.getD i hd0).2.1) ∧ w.cell? ⟨g, off + i * 3 + 2, none⟩ = some (.int .i64 (hs.getD i hd0).2.2)) (hhs : hs = rawL L) (hn : hs.length ≤ 1000) (ha : Asc L) (hq : shareIs n d q) (h0 : 0 ≤ n) (hc : hs.length ≤ cap) :
  Calls Tryz.prog 171 #[.slice (some ⟨g, off, none⟩) hs.length cap, .int .i64 o, .agg #[.int .i64 n, .int .i64 d]] w (NewH w (rawL (setL L o q))) := by
 obtain ⟨i0, hi0, hz0, hz1, hz2⟩ := info_parts infoH; have HC := Lib.hid hcc; have HA := Lib.hid ha; have HQ := Lib.hid hq; have HH := Lib.hid hhs; clear hcc ha hq hhs; go_enter Tryz.func171, Tryz.ntmps171; go_wp2_with fail
 go_loop [7] (fun i => ∃ k : Nat, k ≤ hs.length ∧ i = .int .i64 k ∧ Hid (∀ j, j < k → (hs.getD j hd0).1 < o)) (fun i => hs.length - (intOf i).toNat)
 case atStart => exact ⟨0, Nat.zero_le _, rfl, fun j hj => by omega⟩
 case round =>
  obtain ⟨k, hk, rfl, HK⟩ := hrel
  by_cases hlt : k < hs.length
  ·have c0 := (HC.out k hlt).1
   have hgl : g < w.heap.size := World.block_lt_of_cell? w _ c0
   have hy : (hs.getD k hd0).1 < o → ∀ j, j < k + 1 → (hs.getD j hd0).1 < o := fun e j hj => by
    by_cases ej : j = k
    ·subst ej; exact e
    ·exact HK.out j (by omega)
   obtain ⟨x, hx⟩ : ∃ x, (hs.getD k hd0).1 = x := ⟨_, rfl⟩
   rw [hx] at c0 hy; have HX := Lib.hid hx; have HY := Lib.hid hy; clear hx hy
   by_cases hxo : x < o
   ·go_wp2_with fail
    go_round
    case rel => exact ⟨k + 1, by omega, by go_num, HY.out hxo⟩
    case measure => simp [intOf]; omega
   ·by_cases hxo : x = o
    ·have hxb : (x == o) = true := by simpa using hxo
     by_cases hck : cap = k + 1
     ·have hw0 := with_raw HA.out HH.out HQ.out hk HK.out (fun _ => by rw [HX.out]; omega) (s := k + 1) (by rw [if_pos ⟨hlt, by rw [HX.out]; exact hxo⟩])
      have HT : Hid (IsHs (w.alloc (.cells #[.int .i64 n, .int .i64 d] 32)) (some ⟨g, off, none⟩) (hs.take k)) := jqi (hs_take HC.out k) (by go_grown)
      have HL : Hid ((hs.take k).length = k) := by show (hs.take k).length = k; rw [List.length_take]; omega
      have HD : Hid ((jz3 hs).drop ((k + 1) * 3) = jz3 (hs.drop (k + 1))) := vals_drop hs (k + 1); have HI : Hid (IsHs w (some ⟨g, off, none⟩) hs) := .inr ⟨g, off, rfl, HC.out⟩
      by_cases hz : n = 0
      ·rw [if_pos hz] at hw0
       have HW := Lib.hid hw0
       have hz' : ¬ 0 < n := by omega
       clear hw0 hz hxo; go_wp2_with fail; refine (icopyN k _ _ (hs.take k) _ HT.out HL.out (by omega)).mono ?_; rintro e w1 ⟨v1, rfl, hO1, hb⟩; have hB1 : Below w.heap.size w w1 := jq1 (by go_grown) hb; obtain ⟨t0, t1, t2, t3, t4⟩ := jqh ((Blk.new w 32 #[.int .i64 n, .int .i64 d]).next hb)
       have hO1' : w1.ownsRow (w.heap.size + 1) 123 3 v1 k (jz3 (hs.take k)) := by
        have := hO1; unfold OwnH at this; rw [HL.out, World.size_alloc] at this; exact this
       clear hO1 hb; have BB := hB1; have c0' := (BB.cell (p := ⟨g, _, none⟩) (World.block_lt_of_cell? w _ (HC.out k hlt).1)).trans (HC.out k hlt).1; rw [HX.out] at c0'; have hr := (jji HI.out).below BB; have hr2 := hr.cut (k := k + 1) (cap := cap) (by omega) (by omega); rw [HD.out, if_pos hck] at hr2
       go_wp2_with (first | (at_builtin; refine jq2 _ rfl (.tmp 52) (.tmp 55) _ rfl (w.heap.size + 1) 123 i0 _ 3 24 Tryz.underlying23 hi0 hz0 hz1 hz2 rfl (by omega) v1 k (jz3 (hs.take k)) rfl hO1' w.heap.size _ (hs.length - (k + 1)) _ (jz3 (hs.drop (k + 1))) rfl hr2 (jz8 _) (by unfold maxLen; omega) (by omega) (by omega) ?_; intro v3 w3 hown3 hg3 hat3))
       all_goals (
        go_ret
        exact ⟨v3, rfl, by rw [HW.out]; exact own_tail hown3 HL.out (by rw [List.length_drop]), BB.grown hg3 BB.size (fun q hq => by have := (hO1'.lt q hq).1; omega)⟩)
      ·rw [if_neg hz] at hw0
       have HW := Lib.hid hw0
       have hz' : 0 < n := by omega
       clear hw0 hz hxo; go_wp2_with fail; refine (icopyN k _ _ (hs.take k) _ HT.out HL.out (by omega)).mono ?_; rintro e w1 ⟨v1, rfl, hO1, hb⟩; have hB1 : Below w.heap.size w w1 := jq1 (by go_grown) hb; obtain ⟨t0, t1, t2, t3, t4⟩ := jqh ((Blk.new w 32 #[.int .i64 n, .int .i64 d]).next hb)
       have hO1' : w1.ownsRow (w.heap.size + 1) 123 3 v1 k (jz3 (hs.take k)) := by
        have := hO1; unfold OwnH at this; rw [HL.out, World.size_alloc] at this; exact this
       clear hO1 hb
       go_wp2_with (first | (at_builtin; refine wpList_append_own _ rfl (.tmp 31) (.tmp 35) _ rfl (w.heap.size + 1) 123 i0 _ 3 24 Tryz.underlying23 hi0 hz0 hz1 hz2 rfl (by decide) v1 k (jz3 (hs.take k)) rfl (hO1'.alloc _) ⟨w1.heap.size, 0, none⟩ 1 1 [.int .i64 o, .int .i64 n, .int .i64 d] rfl rfl (jzg w1 _ _) (jz8 [(o, n, d)]) (by unfold maxLen; omega) (by omega) (by simp; omega) ?_; intro v2 w2 hO2 hg2 hat2; have BB : Below w.heap.size w w2 := (hB1.alloc hB1.size _).grown hg2 (by simp; omega) (fun q hq => by have := (hO1'.lt q hq).1; omega); have hzz : w1.heap.size + 1 ≤ w2.heap.size := (by have := hg2.size; simpa using this); have c0' := (BB.cell (p := ⟨g, _, none⟩) (World.block_lt_of_cell? w _ (HC.out k hlt).1)).trans (HC.out k hlt).1; rw [HX.out] at c0'; have hr2 := ((jji HI.out).below BB).cut (k := k + 1) (cap := cap) (by omega) (by omega); rw [HD.out, if_pos hck] at hr2) | (at_builtin; refine jq2 _ rfl (.tmp 52) (.tmp 55) _ rfl (w.heap.size + 1) 123 i0 _ 3 24 Tryz.underlying23 hi0 hz0 hz1 hz2 rfl (by omega) v2 (k + 1) (jz3 (hs.take k) ++ [.int .i64 o, .int .i64 n, .int .i64 d]) rfl hO2 w.heap.size _ (hs.length - (k + 1)) _ (jz3 (hs.drop (k + 1))) rfl hr2 (jz8 _) (by unfold maxLen; omega) (by omega) (by omega) ?_; intro v3 w3 hown3 hg3 hat3))
       all_goals (
        go_ret
        exact ⟨v3, rfl, by rw [HW.out]; exact own_tail2 hown3 HL.out (by rw [List.length_drop]), BB.grown hg3 BB.size (fun q hq => by have := (hO2.lt q hq).1; omega)⟩)
     ·have hw0 := with_raw HA.out HH.out HQ.out hk HK.out (fun _ => by rw [HX.out]; omega) (s := k + 1) (by rw [if_pos ⟨hlt, by rw [HX.out]; exact hxo⟩])
      have HT : Hid (IsHs (w.alloc (.cells #[.int .i64 n, .int .i64 d] 32)) (some ⟨g, off, none⟩) (hs.take k)) := jqi (hs_take HC.out k) (by go_grown)
      have HL : Hid ((hs.take k).length = k) := by show (hs.take k).length = k; rw [List.length_take]; omega
      have HD : Hid ((jz3 hs).drop ((k + 1) * 3) = jz3 (hs.drop (k + 1))) := vals_drop hs (k + 1); have HI : Hid (IsHs w (some ⟨g, off, none⟩) hs) := .inr ⟨g, off, rfl, HC.out⟩
      by_cases hz : n = 0
      ·rw [if_pos hz] at hw0
       have HW := Lib.hid hw0
       have hz' : ¬ 0 < n := by omega
       clear hw0 hz hxo; go_wp2_with fail; refine (icopyN k _ _ (hs.take k) _ HT.out HL.out (by omega)).mono ?_; rintro e w1 ⟨v1, rfl, hO1, hb⟩; have hB1 : Below w.heap.size w w1 := jq1 (by go_grown) hb; obtain ⟨t0, t1, t2, t3, t4⟩ := jqh ((Blk.new w 32 #[.int .i64 n, .int .i64 d]).next hb)
       have hO1' : w1.ownsRow (w.heap.size + 1) 123 3 v1 k (jz3 (hs.take k)) := by
        have := hO1; unfold OwnH at this; rw [HL.out, World.size_alloc] at this; exact this
       clear hO1 hb; have BB := hB1; have c0' := (BB.cell (p := ⟨g, _, none⟩) (World.block_lt_of_cell? w _ (HC.out k hlt).1)).trans (HC.out k hlt).1; rw [HX.out] at c0'; have hr := (jji HI.out).below BB; have hr2 := hr.cut (k := k + 1) (cap := cap) (by omega) (by omega); rw [HD.out, if_neg hck, Option.map_some, jv1] at hr2
       go_wp2_with (first | (at_builtin; refine jq2 _ rfl (.tmp 52) (.tmp 55) _ rfl (w.heap.size + 1) 123 i0 _ 3 24 Tryz.underlying23 hi0 hz0 hz1 hz2 rfl (by omega) v1 k (jz3 (hs.take k)) rfl hO1' w.heap.size _ (hs.length - (k + 1)) _ (jz3 (hs.drop (k + 1))) rfl hr2 (jz8 _) (by unfold maxLen; omega) (by omega) (by omega) ?_; intro v3 w3 hown3 hg3 hat3))
       all_goals (
        go_ret
        exact ⟨v3, rfl, by rw [HW.out]; exact own_tail hown3 HL.out (by rw [List.length_drop]), BB.grown hg3 BB.size (fun q hq => by have := (hO1'.lt q hq).1; omega)⟩)
      ·rw [if_neg hz] at hw0
       have HW := Lib.hid hw0
       have hz' : 0 < n := by omega
       clear hw0 hz hxo; go_wp2_with fail; refine (icopyN k _ _ (hs.take k) _ HT.out HL.out (by omega)).mono ?_; rintro e w1 ⟨v1, rfl, hO1, hb⟩; have hB1 : Below w.heap.size w w1 := jq1 (by go_grown) hb; obtain ⟨t0, t1, t2, t3, t4⟩ := jqh ((Blk.new w 32 #[.int .i64 n, .int .i64 d]).next hb)
       have hO1' : w1.ownsRow (w.heap.size + 1) 123 3 v1 k (jz3 (hs.take k)) := by
        have := hO1; unfold OwnH at this; rw [HL.out, World.size_alloc] at this; exact this
       clear hO1 hb
       go_wp2_with (first | (at_builtin; refine wpList_append_own _ rfl (.tmp 31) (.tmp 35) _ rfl (w.heap.size + 1) 123 i0 _ 3 24 Tryz.underlying23 hi0 hz0 hz1 hz2 rfl (by decide) v1 k (jz3 (hs.take k)) rfl (hO1'.alloc _) ⟨w1.heap.size, 0, none⟩ 1 1 [.int .i64 o, .int .i64 n, .int .i64 d] rfl rfl (jzg w1 _ _) (jz8 [(o, n, d)]) (by unfold maxLen; omega) (by omega) (by simp; omega) ?_; intro v2 w2 hO2 hg2 hat2; have BB : Below w.heap.size w w2 := (hB1.alloc hB1.size _).grown hg2 (by simp; omega) (fun q hq => by have := (hO1'.lt q hq).1; omega); have hzz : w1.heap.size + 1 ≤ w2.heap.size := (by have := hg2.size; simpa using this); have c0' := (BB.cell (p := ⟨g, _, none⟩) (World.block_lt_of_cell? w _ (HC.out k hlt).1)).trans (HC.out k hlt).1; rw [HX.out] at c0'; have hr2 := ((jji HI.out).below BB).cut (k := k + 1) (cap := cap) (by omega) (by omega); rw [HD.out, if_neg hck, Option.map_some, jv1] at hr2) | (at_builtin; refine jq2 _ rfl (.tmp 52) (.tmp 55) _ rfl (w.heap.size + 1) 123 i0 _ 3 24 Tryz.underlying23 hi0 hz0 hz1 hz2 rfl (by omega) v2 (k + 1) (jz3 (hs.take k) ++ [.int .i64 o, .int .i64 n, .int .i64 d]) rfl hO2 w.heap.size _ (hs.length - (k + 1)) _ (jz3 (hs.drop (k + 1))) rfl hr2 (jz8 _) (by unfold maxLen; omega) (by omega) (by omega) ?_; intro v3 w3 hown3 hg3 hat3))
       all_goals (
        go_ret
        exact ⟨v3, rfl, by rw [HW.out]; exact own_tail2 hown3 HL.out (by rw [List.length_drop]), BB.grown hg3 BB.size (fun q hq => by have := (hO2.lt q hq).1; omega)⟩)
 
    ·have hxb : (x == o) = false := by simpa using hxo
     have hck : ¬ cap = k := by omega
     ·have hw0 := with_raw HA.out HH.out HQ.out hk HK.out (fun _ => by rw [HX.out]; omega) (s := k) (by rw [if_neg (fun c => absurd c.2 (by rw [HX.out]; omega))])
      have HT : Hid (IsHs (w.alloc (.cells #[.int .i64 n, .int .i64 d] 32)) (some ⟨g, off, none⟩) (hs.take k)) := jqi (hs_take HC.out k) (by go_grown)
      have HL : Hid ((hs.take k).length = k) := by show (hs.take k).length = k; rw [List.length_take]; omega
      have HD : Hid ((jz3 hs).drop ((k) * 3) = jz3 (hs.drop (k))) := vals_drop hs (k); have HI : Hid (IsHs w (some ⟨g, off, none⟩) hs) := .inr ⟨g, off, rfl, HC.out⟩
      by_cases hz : n = 0
      ·rw [if_pos hz] at hw0
       have HW := Lib.hid hw0
       have hz' : ¬ 0 < n := by omega
       clear hw0 hz; go_wp2_with fail; refine (icopyN k _ _ (hs.take k) _ HT.out HL.out (by omega)).mono ?_; rintro e w1 ⟨v1, rfl, hO1, hb⟩; have hB1 : Below w.heap.size w w1 := jq1 (by go_grown) hb; obtain ⟨t0, t1, t2, t3, t4⟩ := jqh ((Blk.new w 32 #[.int .i64 n, .int .i64 d]).next hb)
       have hO1' : w1.ownsRow (w.heap.size + 1) 123 3 v1 k (jz3 (hs.take k)) := by
        have := hO1; unfold OwnH at this; rw [HL.out, World.size_alloc] at this; exact this
       clear hO1 hb; have BB := hB1; have c0' := (BB.cell (p := ⟨g, _, none⟩) (World.block_lt_of_cell? w _ (HC.out k hlt).1)).trans (HC.out k hlt).1; rw [HX.out] at c0'; have hr := (jji HI.out).below BB; have hr2 := hr.cut (k := k) (cap := cap) (by omega) (by omega); rw [HD.out, if_neg hck, Option.map_some, jv1] at hr2
       go_wp2_with (first | (at_builtin; refine jq2 _ rfl (.tmp 52) (.tmp 55) _ rfl (w.heap.size + 1) 123 i0 _ 3 24 Tryz.underlying23 hi0 hz0 hz1 hz2 rfl (by omega) v1 k (jz3 (hs.take k)) rfl hO1' w.heap.size _ (hs.length - (k)) _ (jz3 (hs.drop (k))) rfl hr2 (jz8 _) (by unfold maxLen; omega) (by omega) (by omega) ?_; intro v3 w3 hown3 hg3 hat3))
       all_goals (
        go_ret
        exact ⟨v3, rfl, by rw [HW.out]; exact own_tail hown3 HL.out (by rw [List.length_drop]), BB.grown hg3 BB.size (fun q hq => by have := (hO1'.lt q hq).1; omega)⟩)
      ·rw [if_neg hz] at hw0
       have HW := Lib.hid hw0
       have hz' : 0 < n := by omega
       clear hw0 hz; go_wp2_with fail; refine (icopyN k _ _ (hs.take k) _ HT.out HL.out (by omega)).mono ?_; rintro e w1 ⟨v1, rfl, hO1, hb⟩; have hB1 : Below w.heap.size w w1 := jq1 (by go_grown) hb; obtain ⟨t0, t1, t2, t3, t4⟩ := jqh ((Blk.new w 32 #[.int .i64 n, .int .i64 d]).next hb)
       have hO1' : w1.ownsRow (w.heap.size + 1) 123 3 v1 k (jz3 (hs.take k)) := by
        have := hO1; unfold OwnH at this; rw [HL.out, World.size_alloc] at this; exact this
       clear hO1 hb
       go_wp2_with (first | (at_builtin; refine wpList_append_own _ rfl (.tmp 31) (.tmp 35) _ rfl (w.heap.size + 1) 123 i0 _ 3 24 Tryz.underlying23 hi0 hz0 hz1 hz2 rfl (by decide) v1 k (jz3 (hs.take k)) rfl (hO1'.alloc _) ⟨w1.heap.size, 0, none⟩ 1 1 [.int .i64 o, .int .i64 n, .int .i64 d] rfl rfl (jzg w1 _ _) (jz8 [(o, n, d)]) (by unfold maxLen; omega) (by omega) (by simp; omega) ?_; intro v2 w2 hO2 hg2 hat2; have BB : Below w.heap.size w w2 := (hB1.alloc hB1.size _).grown hg2 (by simp; omega) (fun q hq => by have := (hO1'.lt q hq).1; omega); have hzz : w1.heap.size + 1 ≤ w2.heap.size := (by have := hg2.size; simpa using this); have c0' := (BB.cell (p := ⟨g, _, none⟩) (World.block_lt_of_cell? w _ (HC.out k hlt).1)).trans (HC.out k hlt).1; rw [HX.out] at c0'; have hr2 := ((jji HI.out).below BB).cut (k := k) (cap := cap) (by omega) (by omega); rw [HD.out, if_neg hck, Option.map_some, jv1] at hr2) | (at_builtin; refine jq2 _ rfl (.tmp 52) (.tmp 55) _ rfl (w.heap.size + 1) 123 i0 _ 3 24 Tryz.underlying23 hi0 hz0 hz1 hz2 rfl (by omega) v2 (k + 1) (jz3 (hs.take k) ++ [.int .i64 o, .int .i64 n, .int .i64 d]) rfl hO2 w.heap.size _ (hs.length - (k)) _ (jz3 (hs.drop (k))) rfl hr2 (jz8 _) (by unfold maxLen; omega) (by omega) (by omega) ?_; intro v3 w3 hown3 hg3 hat3))
       all_goals (
        go_ret
        exact ⟨v3, rfl, by rw [HW.out]; exact own_tail2 hown3 HL.out (by rw [List.length_drop]), BB.grown hg3 BB.size (fun q hq => by have := (hO2.lt q hq).1; omega)⟩)
 
  ·by_cases hck : cap = k
   ·have hw0 := with_raw HA.out HH.out HQ.out hk HK.out (fun c => absurd c hlt) (s := k) (by rw [if_neg (fun c => absurd c.1 (by omega))])
    have HT : Hid (IsHs (w.alloc (.cells #[.int .i64 n, .int .i64 d] 32)) (some ⟨g, off, none⟩) (hs.take k)) := jqi (hs_take HC.out k) (by go_grown)
    have HL : Hid ((hs.take k).length = k) := by show (hs.take k).length = k; rw [List.length_take]; omega
    have HD : Hid ((jz3 hs).drop ((k) * 3) = jz3 (hs.drop (k))) := vals_drop hs (k); have HI : Hid (IsHs w (some ⟨g, off, none⟩) hs) := .inr ⟨g, off, rfl, HC.out⟩
    by_cases hz : n = 0
    ·rw [if_pos hz] at hw0
     have HW := Lib.hid hw0
     have hz' : ¬ 0 < n := by omega
     clear hw0 hz; go_wp2_with fail; refine (icopyN k _ _ (hs.take k) _ HT.out HL.out (by omega)).mono ?_; rintro e w1 ⟨v1, rfl, hO1, hb⟩; have hB1 : Below w.heap.size w w1 := jq1 (by go_grown) hb; obtain ⟨t0, t1, t2, t3, t4⟩ := jqh ((Blk.new w 32 #[.int .i64 n, .int .i64 d]).next hb)
     have hO1' : w1.ownsRow (w.heap.size + 1) 123 3 v1 k (jz3 (hs.take k)) := by
      have := hO1; unfold OwnH at this; rw [HL.out, World.size_alloc] at this; exact this
     clear hO1 hb; have BB := hB1; have hr := (jji HI.out).below BB; have hr2 := hr.cut (k := k) (cap := cap) (by omega) (by omega); rw [HD.out, if_pos hck] at hr2
     go_wp2_with (first | (at_builtin; refine jq2 _ rfl (.tmp 52) (.tmp 55) _ rfl (w.heap.size + 1) 123 i0 _ 3 24 Tryz.underlying23 hi0 hz0 hz1 hz2 rfl (by omega) v1 k (jz3 (hs.take k)) rfl hO1' w.heap.size _ (hs.length - (k)) _ (jz3 (hs.drop (k))) rfl hr2 (jz8 _) (by unfold maxLen; omega) (by omega) (by omega) ?_; intro v3 w3 hown3 hg3 hat3))
     all_goals (
      go_ret
      exact ⟨v3, rfl, by rw [HW.out]; exact own_tail hown3 HL.out (by rw [List.length_drop]), BB.grown hg3 BB.size (fun q hq => by have := (hO1'.lt q hq).1; omega)⟩)
    ·rw [if_neg hz] at hw0
     have HW := Lib.hid hw0
     have hz' : 0 < n := by omega
     clear hw0 hz; go_wp2_with fail; refine (icopyN k _ _ (hs.take k) _ HT.out HL.out (by omega)).mono ?_; rintro e w1 ⟨v1, rfl, hO1, hb⟩; have hB1 : Below w.heap.size w w1 := jq1 (by go_grown) hb; obtain ⟨t0, t1, t2, t3, t4⟩ := jqh ((Blk.new w 32 #[.int .i64 n, .int .i64 d]).next hb)
     have hO1' : w1.ownsRow (w.heap.size + 1) 123 3 v1 k (jz3 (hs.take k)) := by
      have := hO1; unfold OwnH at this; rw [HL.out, World.size_alloc] at this; exact this
     clear hO1 hb
     go_wp2_with (first | (at_builtin; refine wpList_append_own _ rfl (.tmp 31) (.tmp 35) _ rfl (w.heap.size + 1) 123 i0 _ 3 24 Tryz.underlying23 hi0 hz0 hz1 hz2 rfl (by decide) v1 k (jz3 (hs.take k)) rfl (hO1'.alloc _) ⟨w1.heap.size, 0, none⟩ 1 1 [.int .i64 o, .int .i64 n, .int .i64 d] rfl rfl (jzg w1 _ _) (jz8 [(o, n, d)]) (by unfold maxLen; omega) (by omega) (by simp; omega) ?_; intro v2 w2 hO2 hg2 hat2; have BB : Below w.heap.size w w2 := (hB1.alloc hB1.size _).grown hg2 (by simp; omega) (fun q hq => by have := (hO1'.lt q hq).1; omega); have hzz : w1.heap.size + 1 ≤ w2.heap.size := (by have := hg2.size; simpa using this); have hr2 := ((jji HI.out).below BB).cut (k := k) (cap := cap) (by omega) (by omega); rw [HD.out, if_pos hck] at hr2) | (at_builtin; refine jq2 _ rfl (.tmp 52) (.tmp 55) _ rfl (w.heap.size + 1) 123 i0 _ 3 24 Tryz.underlying23 hi0 hz0 hz1 hz2 rfl (by omega) v2 (k + 1) (jz3 (hs.take k) ++ [.int .i64 o, .int .i64 n, .int .i64 d]) rfl hO2 w.heap.size _ (hs.length - (k)) _ (jz3 (hs.drop (k))) rfl hr2 (jz8 _) (by unfold maxLen; omega) (by omega) (by omega) ?_; intro v3 w3 hown3 hg3 hat3))
     all_goals (
      go_ret
      exact ⟨v3, rfl, by rw [HW.out]; exact own_tail2 hown3 HL.out (by rw [List.length_drop]), BB.grown hg3 BB.size (fun q hq => by have := (hO2.lt q hq).1; omega)⟩)
   ·have hw0 := with_raw HA.out HH.out HQ.out hk HK.out (fun c => absurd c hlt) (s := k) (by rw [if_neg (fun c => absurd c.1 (by omega))])
    have HT : Hid (IsHs (w.alloc (.cells #[.int .i64 n, .int .i64 d] 32)) (some ⟨g, off, none⟩) (hs.take k)) := jqi (hs_take HC.out k) (by go_grown)
    have HL : Hid ((hs.take k).length = k) := by show (hs.take k).length = k; rw [List.length_take]; omega
    have HD : Hid ((jz3 hs).drop ((k) * 3) = jz3 (hs.drop (k))) := vals_drop hs (k); have HI : Hid (IsHs w (some ⟨g, off, none⟩) hs) := .inr ⟨g, off, rfl, HC.out⟩
    by_cases hz : n = 0
    ·rw [if_pos hz] at hw0
     have HW := Lib.hid hw0
     have hz' : ¬ 0 < n := by omega
     clear hw0 hz; go_wp2_with fail; refine (icopyN k _ _ (hs.take k) _ HT.out HL.out (by omega)).mono ?_; rintro e w1 ⟨v1, rfl, hO1, hb⟩; have hB1 : Below w.heap.size w w1 := jq1 (by go_grown) hb; obtain ⟨t0, t1, t2, t3, t4⟩ := jqh ((Blk.new w 32 #[.int .i64 n, .int .i64 d]).next hb)
     have hO1' : w1.ownsRow (w.heap.size + 1) 123 3 v1 k (jz3 (hs.take k)) := by
      have := hO1; unfold OwnH at this; rw [HL.out, World.size_alloc] at this; exact this
     clear hO1 hb; have BB := hB1; have hr := (jji HI.out).below BB; have hr2 := hr.cut (k := k) (cap := cap) (by omega) (by omega); rw [HD.out, if_neg hck, Option.map_some, jv1] at hr2
     go_wp2_with (first | (at_builtin; refine jq2 _ rfl (.tmp 52) (.tmp 55) _ rfl (w.heap.size + 1) 123 i0 _ 3 24 Tryz.underlying23 hi0 hz0 hz1 hz2 rfl (by omega) v1 k (jz3 (hs.take k)) rfl hO1' w.heap.size _ (hs.length - (k)) _ (jz3 (hs.drop (k))) rfl hr2 (jz8 _) (by unfold maxLen; omega) (by omega) (by omega) ?_; intro v3 w3 hown3 hg3 hat3))
     all_goals (
      go_ret
      exact ⟨v3, rfl, by rw [HW.out]; exact own_tail hown3 HL.out (by rw [List.length_drop]), BB.grown hg3 BB.size (fun q hq => by have := (hO1'.lt q hq).1; omega)⟩)
    ·rw [if_neg hz] at hw0
     have HW := Lib.hid hw0
     have hz' : 0 < n := by omega
     clear hw0 hz; go_wp2_with fail; refine (icopyN k _ _ (hs.take k) _ HT.out HL.out (by omega)).mono ?_; rintro e w1 ⟨v1, rfl, hO1, hb⟩; have hB1 : Below w.heap.size w w1 := jq1 (by go_grown) hb; obtain ⟨t0, t1, t2, t3, t4⟩ := jqh ((Blk.new w 32 #[.int .i64 n, .int .i64 d]).next hb)
     have hO1' : w1.ownsRow (w.heap.size + 1) 123 3 v1 k (jz3 (hs.take k)) := by
      have := hO1; unfold OwnH at this; rw [HL.out, World.size_alloc] at this; exact this
     clear hO1 hb
     go_wp2_with (first | (at_builtin; refine wpList_append_own _ rfl (.tmp 31) (.tmp 35) _ rfl (w.heap.size + 1) 123 i0 _ 3 24 Tryz.underlying23 hi0 hz0 hz1 hz2 rfl (by decide) v1 k (jz3 (hs.take k)) rfl (hO1'.alloc _) ⟨w1.heap.size, 0, none⟩ 1 1 [.int .i64 o, .int .i64 n, .int .i64 d] rfl rfl (jzg w1 _ _) (jz8 [(o, n, d)]) (by unfold maxLen; omega) (by omega) (by simp; omega) ?_; intro v2 w2 hO2 hg2 hat2; have BB : Below w.heap.size w w2 := (hB1.alloc hB1.size _).grown hg2 (by simp; omega) (fun q hq => by have := (hO1'.lt q hq).1; omega); have hzz : w1.heap.size + 1 ≤ w2.heap.size := (by have := hg2.size; simpa using this); have hr2 := ((jji HI.out).below BB).cut (k := k) (cap := cap) (by omega) (by omega); rw [HD.out, if_neg hck, Option.map_some, jv1] at hr2) | (at_builtin; refine jq2 _ rfl (.tmp 52) (.tmp 55) _ rfl (w.heap.size + 1) 123 i0 _ 3 24 Tryz.underlying23 hi0 hz0 hz1 hz2 rfl (by omega) v2 (k + 1) (jz3 (hs.take k) ++ [.int .i64 o, .int .i64 n, .int .i64 d]) rfl hO2 w.heap.size _ (hs.length - (k)) _ (jz3 (hs.drop (k))) rfl hr2 (jz8 _) (by unfold maxLen; omega) (by omega) (by omega) ?_; intro v3 w3 hown3 hg3 hat3))
     all_goals (
      go_ret
      exact ⟨v3, rfl, by rw [HW.out]; exact own_tail2 hown3 HL.out (by rw [List.length_drop]), BB.grown hg3 BB.size (fun q hq => by have := (hO2.lt q hq).1; omega)⟩)

end Go.Proofs.YtaehemmjemhgpabGreat
