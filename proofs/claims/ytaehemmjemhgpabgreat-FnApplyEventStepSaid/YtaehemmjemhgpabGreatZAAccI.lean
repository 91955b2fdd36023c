/- Accounts that grow, by the program. Condition: at most 1048576 of them. -/
import Derived.Test.YtaehemmjemhgpabGreatZAG7
import Derived.Test.YtaehemmjemhgpabGreatZAG0
set_option maxRecDepth 100000
set_option maxHeartbeats 16000000
namespace Go.Proofs.YtaehemmjemhgpabGreat
open Go.RowKit
set_option linter.unusedSimpArgs false
set_option linter.unusedVariables false

theorem acc_tail {w : World} {base k m : Nat} {v : Value} {X Y : List Ac} (h : w.ownsRow base 71 2 v (k + m) (jz5 X ++ jz5 Y)) (hk : X.length = k) (hm : Y.length = m) : OwnAc w base v (X ++ [] ++ Y) := by
 unfold OwnAc; rw [List.append_nil, List.length_append, valsAc_append, hk, hm]; exact h
theorem acc_tail2 {w : World} {base k m : Nat} {v : Value} {X Y : List Ac} {o u : Int} (h : w.ownsRow base 71 2 v (k + 1 + m) (jz5 X ++ [.int .i64 o, .int .i64 u] ++ jz5 Y)) (hk : X.length = k) (hm : Y.length = m) : OwnAc w base v (X ++ [(o, u)] ++ Y) := by
 unfold OwnAc; rw [List.length_append, List.length_append, valsAc_append, valsAc_append, hk, hm]; exact h
theorem vals_dropA (ac : List Ac) (k : Nat) : (jz5 ac).drop (k * 2) = jz5 (ac.drop k) := by unfold jz5; rw [← List.map_drop, flatAc_drop]
theorem add_is {ac : List Ac} {o u : Int} {k : Nat} (hk : k ≤ ac.length) (h1 : ∀ j, j < k → (ac.getD j ac0).1 < o) (h2 : k < ac.length → ¬ (ac.getD k ac0).1 < o) (hp : ∀ x ∈ ac, 0 < x.2) (hu : 0 ≤ u) :
  addA ac o u = if k < ac.length ∧ (ac.getD k ac0).1 = o then ac.take k ++ (if 0 < u + (ac.getD k ac0).2 then [(o, u + (ac.getD k ac0).2)] else []) ++ ac.drop (k + 1) else ac.take k ++ (if 0 < u then [(o, u)] else []) ++ ac.drop k := by
 rw [← add_mid hp hu]; unfold addM; rw [at_is hk h1 h2]
theorem iwithUnits (a : Option Addr) (cap : Nat) (ac : List Ac) (o u : Int) (w : World) (h : IsAc w a ac) (hn : ac.length ≤ 1048576) (hc : ac.length ≤ cap) (hu : ∀ k, k < ac.length → -1000000000 ≤ (ac.getD k ac0).2 + u ∧ (ac.getD k ac0).2 + u ≤ 1000000000) (hp : ∀ x ∈ ac, 0 < x.2) (h0 : 0 ≤ u) (ha : ac = [] → (a = none ∧ cap = 0) ∨ ∃ g off, a = some ⟨g, off, none⟩) :
  Calls Tryz.prog 147 #[.slice a ac.length cap, .int .i64 o, .int .i64 u] w (OutAc w (addA ac o u)) := by
 obtain ⟨i0, hi0, hz0, hz1, hz2⟩ := info_parts infoAc; have HI := Lib.hid h; have HU := Lib.hid hu; have HP := Lib.hid hp; clear hu hp
 have hform : (a = none ∧ cap = 0 ∧ ac = []) ∨ ∃ g off, a = some ⟨g, off, none⟩ ∧ ∀ i, i < ac.length → w.cell? ⟨g, off + i * 2, none⟩ = some (.int .i64 (ac.getD i ac0).1) ∧ w.cell? ⟨g, off + i * 2 + 1, none⟩ = some (.int .i64 (ac.getD i ac0).2) := by
  rcases h with e | ⟨g, off, e, hcells⟩
  ·rcases ha e with ⟨x, y⟩ | ⟨g, off, x⟩
   ·exact .inl ⟨x, y, e⟩
   ·exact .inr ⟨g, off, x, fun i hi => by rw [e] at hi; exact absurd hi (Nat.not_lt_zero _)⟩
  ·exact .inr ⟨g, off, e, hcells⟩
 clear h ha
 rcases hform with ⟨rfl, rfl, rfl⟩ | ⟨g, off, rfl, hcells⟩
 ·by_cases hpos : 0 < u
  ·have HW : Hid (addA [] o u = [] ++ [(o, u)] ++ []) := by
    have := add_is (ac := []) (o := o) (u := u) (k := 0) (Nat.le_refl _) (fun j hj => absurd hj (Nat.not_lt_zero _)) (fun c => absurd c (Nat.not_lt_zero _)) HP.out h0; rw [if_pos hpos, if_neg (fun c => Nat.not_lt_zero _ c.1)] at this; exact this
   have e1 : decide (0 < u) = true := decide_eq_true hpos; have HR1 : Hid (jj3 (w.alloc (.cells #[] 71)) w.heap.size 2 none 0 (jz5 [])) := Lib.hid ((jvd (w := w) (.inl rfl)).alloc (Nat.le_refl _) _); have HT : Hid (([] : List Ac).length = 0) := rfl; have HDl : Hid (([] : List Ac).length = 0) := rfl
   have HRT : ∀ W, Below w.heap.size w W → jj3 W w.heap.size 2 none 0 (jz5 []) := fun W hW => (jvd (w := w) (.inl rfl)).below hW
   have HRTh := Lib.hid HRT; clear hpos HRT; go_enter Tryz.func147, Tryz.ntmps147; go_wp2_with fail; refine wp_loop_rounds 1 ?_; rw [rounds_succ]
   go_wp2_with (first | (at_builtin; refine jq2 _ rfl (.tmp 24) (.tmp 27) _ rfl w.heap.size 71 i0 _ 2 16 Tryz.underlying28 hi0 hz0 hz1 hz2 rfl (by omega) _ 0 [] rfl ⟨rfl, .inr ⟨w.heap.size, 0, #[], rfl, Nat.le_refl _, Blk.new _ _ _, Nat.le_refl _, by unfold maxLen; omega, rfl, rfl⟩⟩ w.heap.size none 0 _ (jz5 []) rfl HR1.out (jqg _) (by unfold maxLen; omega) (by omega) (by simp) ?_; intro v1 w1 hown1 hg1 hat1; clear hat1; rw [Nat.zero_add, List.nil_append] at hown1; have BB : Below w.heap.size w w1 := ((Below.refl _ _).alloc (Nat.le_refl _) _).grown hg1 (by simp) (fun q hq => by have e : w.heap.size = q := Option.some.inj hq; omega); have hsw := BB.size; clear hg1) | (at_builtin; refine wpList_append_own _ rfl (.tmp 53) (.tmp 57) _ rfl w.heap.size 71 i0 _ 2 16 Tryz.underlying28 hi0 hz0 hz1 hz2 rfl (by decide) _ _ _ rfl (World.ownsRow.alloc hown1 _) ⟨_, 0, none⟩ 1 1 [.int .i64 o, .int .i64 (u)] rfl rfl (jxa _ _ (by simp) _ _) (jqg [(o, u)]) (by unfold maxLen; omega) (by omega) (by simp; omega) ?_; intro v2 w2 hown2 hg2 hat2; clear hat2; have BC : Below w.heap.size w w2 := (BB.alloc BB.size _).grown hg2 (by have := BB.size; simp; omega) (fun q hq => by have := (World.ownsRow.lt hown1 q hq).1; omega); have hsw2 := BC.size; have hr2 := HRTh.out _ BC) | (at_builtin; refine jq2 _ rfl (.tmp 59) (.tmp 62) _ rfl w.heap.size 71 i0 _ 2 16 Tryz.underlying28 hi0 hz0 hz1 hz2 rfl (by omega) _ _ _ rfl hown2 w.heap.size none (0) _ (jz5 []) rfl hr2 (jqg _) (by unfold maxLen; omega) (by omega) (by omega) ?_; intro v3 w3 hown3 hg3 hat3))
   all_goals (
    go_ret
    exact ⟨v3, rfl, by rw [HW.out]; exact acc_tail2 (o := o) (u := u) hown3 HT.out HDl.out, BC.grown hg3 BC.size (fun q hq => by have := (World.ownsRow.lt hown2 q hq).1; omega)⟩)
  ·have HW : Hid (addA [] o u = [] ++ [] ++ []) := by
    have := add_is (ac := []) (o := o) (u := u) (k := 0) (Nat.le_refl _) (fun j hj => absurd hj (Nat.not_lt_zero _)) (fun c => absurd c (Nat.not_lt_zero _)) HP.out h0; rw [if_neg hpos, if_neg (fun c => Nat.not_lt_zero _ c.1)] at this; exact this
   have e1 : decide (0 < u) = false := decide_eq_false hpos; have HR1 : Hid (jj3 (w.alloc (.cells #[] 71)) w.heap.size 2 none 0 (jz5 [])) := Lib.hid ((jvd (w := w) (.inl rfl)).alloc (Nat.le_refl _) _); have HT : Hid (([] : List Ac).length = 0) := rfl; have HDl : Hid (([] : List Ac).length = 0) := rfl
   have HRT : ∀ W, Below w.heap.size w W → jj3 W w.heap.size 2 none 0 (jz5 []) := fun W hW => (jvd (w := w) (.inl rfl)).below hW
   have HRTh := Lib.hid HRT; clear hpos HRT; go_enter Tryz.func147, Tryz.ntmps147; go_wp2_with fail; refine wp_loop_rounds 1 ?_; rw [rounds_succ]
   go_wp2_with (first | (at_builtin; refine jq2 _ rfl (.tmp 24) (.tmp 27) _ rfl w.heap.size 71 i0 _ 2 16 Tryz.underlying28 hi0 hz0 hz1 hz2 rfl (by omega) _ 0 [] rfl ⟨rfl, .inr ⟨w.heap.size, 0, #[], rfl, Nat.le_refl _, Blk.new _ _ _, Nat.le_refl _, by unfold maxLen; omega, rfl, rfl⟩⟩ w.heap.size none 0 _ (jz5 []) rfl HR1.out (jqg _) (by unfold maxLen; omega) (by omega) (by simp) ?_; intro v1 w1 hown1 hg1 hat1; clear hat1; rw [Nat.zero_add, List.nil_append] at hown1; have BB : Below w.heap.size w w1 := ((Below.refl _ _).alloc (Nat.le_refl _) _).grown hg1 (by simp) (fun q hq => by have e : w.heap.size = q := Option.some.inj hq; omega); have hsw := BB.size; clear hg1; have hr2 := HRTh.out _ BB) | (at_builtin; refine jq2 _ rfl (.tmp 59) (.tmp 62) _ rfl w.heap.size 71 i0 _ 2 16 Tryz.underlying28 hi0 hz0 hz1 hz2 rfl (by omega) _ _ _ rfl hown1 w.heap.size none (0) _ (jz5 []) rfl hr2 (jqg _) (by unfold maxLen; omega) (by omega) (by omega) ?_; intro v3 w3 hown3 hg3 hat3))
   all_goals (
    go_ret
    exact ⟨v3, rfl, by rw [HW.out]; exact acc_tail hown3 HT.out HDl.out, BB.grown hg3 BB.size (fun q hq => by have := (World.ownsRow.lt hown1 q hq).1; omega)⟩)
 have HC := Lib.hid hcells
 have kp : ∀ W, Below w.heap.size w W → ∀ p v, w.cell? ⟨g, p, none⟩ = some v → W.cell? ⟨g, p, none⟩ = some v := fun W hB p v c => (hB.cell (p := ⟨g, p, none⟩) (World.block_lt_of_cell? w _ c)).trans c
 clear hcells; go_enter Tryz.func147, Tryz.ntmps147; go_wp2_with fail
 go_loop [7] (fun i => ∃ k : Nat, k ≤ ac.length ∧ i = .int .i64 k ∧ Hid (∀ j, j < k → (ac.getD j ac0).1 < o)) (fun i => ac.length - (intOf i).toNat)
 case atStart => exact ⟨0, Nat.zero_le _, rfl, fun j hj => absurd hj (Nat.not_lt_zero _)⟩
 case round =>
  obtain ⟨k, hk, rfl, HK⟩ := hrel
  have HT : Hid ((ac.take k).length = k) := by show (ac.take k).length = k; rw [List.length_take]; omega
  have HR1 : Hid (jj3 (w.alloc (.cells #[] 71)) w.heap.size 2 (some ⟨g, off, none⟩) k (jz5 (ac.take k))) := by
   have := jvd (ac_take HC.out k); rw [HT.out] at this; exact this.alloc (Nat.le_refl _) _
  by_cases hlt : k < ac.length
  ·obtain ⟨y0, y1⟩ := HC.out k hlt
   have hy : (ac.getD k ac0).1 < o → ∀ j, j < k + 1 → (ac.getD j ac0).1 < o := fun e j hj => by
    by_cases ej : j = k
    ·subst ej; exact e
    ·exact HK.out j (by omega)
   have hb := HU.out k hlt; have hpy : 0 < (ac.getD k ac0).2 := HP.out _ (by rw [List.getD_eq_getElem?_getD, List.getElem?_eq_getElem hlt]; exact List.getElem_mem _); have HAD := Lib.hid (fun hx => add_is (o := o) (u := u) hk HK.out (fun _ => hx) HP.out h0); generalize ac.getD k ac0 = q at y0 y1 hy hb hpy HAD; obtain ⟨x, y⟩ := q; dsimp only at y0 y1 hb hpy; have HY := Lib.hid hy; clear hy
   by_cases hxo : x < o
   ·have e1 : decide (x < o) = true := decide_eq_true hxo
    go_wp2_with fail
    go_round
    case rel => exact ⟨k + 1, by omega, by go_num, HY.out hxo⟩
    case measure => simp [intOf]; omega
   have e1 : decide (x < o) = false := decide_eq_false hxo; have hAD := HAD.out hxo; clear HAD HY
   by_cases hxe : x = o
   ·have e2 : (x == o) = true := by simpa using hxe
    have hw0 := hAD; rw [if_pos ⟨hlt, hxe⟩, if_pos (by show 0 < u + y; omega)] at hw0; replace hw0 : addA ac o u = ac.take k ++ [(o, u + y)] ++ ac.drop (k + 1) := hw0
    have hwr : IntKind.i64.wrap (u + y) = u + y := by rw [IntKind.wrap_i64]; omega
    have e3 : decide (0 < u + y) = true := decide_eq_true (by omega); clear hAD hxo hxe hpy
    by_cases hck : cap = k + 1
    ·skip
     have HW := Lib.hid hw0
     have i0_ : (0 : Int) ≤ ((k : Nat) : Int) := by omega
     have i1_ : ((k : Nat) : Int) ≤ (cap : Int) := by omega
     have i2_ : ((k : Nat) : Int) ≤ (ac.length : Int) := by omega
     have i4_ : ((k : Nat) : Int) + 1 ≤ (cap : Int) := by omega
     have i5_ : ((k : Nat) : Int) + 1 ≤ (ac.length : Int) := by omega
     have i6_ : (0 : Int) ≤ ((k : Nat) : Int) + 1 := by omega
     have i7_ : ((k : Nat) : Int) < (ac.length : Int) := by omega
     have i8_ : (((k : Nat) : Int) + 1).toNat = k + 1 := by omega
     have HDl : Hid ((ac.drop (k + 1)).length = ac.length - (k + 1)) := by show (ac.drop (k + 1)).length = _; rw [List.length_drop]
     have HRTh : Hid (∀ W, Below w.heap.size w W → jj3 W w.heap.size 2 (some ⟨g, off, none⟩) (ac.length - (k + 1)) (jz5 (ac.drop (k + 1)))) := fun W hW => by
      have := ((jvd HI.out).below hW).cut (k := k + 1) (cap := cap) (by omega) (by omega); rw [vals_dropA, if_pos hck] at this; exact this
     clear hw0
     go_wp2_with (first | (at_builtin; refine jq2 _ rfl (.tmp 24) (.tmp 27) _ rfl w.heap.size 71 i0 _ 2 16 Tryz.underlying28 hi0 hz0 hz1 hz2 rfl (by omega) _ 0 [] rfl ⟨rfl, .inr ⟨w.heap.size, 0, #[], rfl, Nat.le_refl _, Blk.new _ _ _, Nat.le_refl _, by unfold maxLen; omega, rfl, rfl⟩⟩ w.heap.size (some ⟨g, off, none⟩) k _ (jz5 (ac.take k)) rfl HR1.out (jqg _) (by unfold maxLen; omega) (by omega) (by simp) ?_; intro v1 w1 hown1 hg1 hat1; clear hat1; rw [Nat.zero_add, List.nil_append] at hown1; have BB : Below w.heap.size w w1 := ((Below.refl _ _).alloc (Nat.le_refl _) _).grown hg1 (by simp) (fun q hq => by have e : w.heap.size = q := Option.some.inj hq; omega); have hsw := BB.size; clear hg1; have x0 := kp _ BB _ _ y0; have x1 := kp _ BB _ _ y1) | (at_builtin; refine wpList_append_own _ rfl (.tmp 53) (.tmp 57) _ rfl w.heap.size 71 i0 _ 2 16 Tryz.underlying28 hi0 hz0 hz1 hz2 rfl (by decide) _ _ _ rfl (World.ownsRow.alloc hown1 _) ⟨_, 0, none⟩ 1 1 [.int .i64 o, .int .i64 (u + y)] rfl rfl (jxa _ _ (by simp) _ _) (jqg [(o, u + y)]) (by unfold maxLen; omega) (by omega) (by simp; omega) ?_; intro v2 w2 hown2 hg2 hat2; clear hat2; have BC : Below w.heap.size w w2 := (BB.alloc BB.size _).grown hg2 (by have := BB.size; simp; omega) (fun q hq => by have := (World.ownsRow.lt hown1 q hq).1; omega); have hsw2 := BC.size; have hr2 := HRTh.out _ BC) | (at_builtin; refine jq2 _ rfl (.tmp 59) (.tmp 62) _ rfl w.heap.size 71 i0 _ 2 16 Tryz.underlying28 hi0 hz0 hz1 hz2 rfl (by omega) _ _ _ rfl hown2 w.heap.size _ (ac.length - (k + 1)) _ (jz5 (ac.drop (k + 1))) rfl hr2 (jqg _) (by unfold maxLen; omega) (by omega) (by omega) ?_; intro v3 w3 hown3 hg3 hat3))
     all_goals (
      go_ret
      exact ⟨v3, rfl, by rw [HW.out]; exact acc_tail2 (o := o) (u := u + y) hown3 HT.out HDl.out, BC.grown hg3 BC.size (fun q hq => by have := (World.ownsRow.lt hown2 q hq).1; omega)⟩)
    ·skip
     have HW := Lib.hid hw0
     have i0_ : (0 : Int) ≤ ((k : Nat) : Int) := by omega
     have i1_ : ((k : Nat) : Int) ≤ (cap : Int) := by omega
     have i2_ : ((k : Nat) : Int) ≤ (ac.length : Int) := by omega
     have i4_ : ((k : Nat) : Int) + 1 ≤ (cap : Int) := by omega
     have i5_ : ((k : Nat) : Int) + 1 ≤ (ac.length : Int) := by omega
     have i6_ : (0 : Int) ≤ ((k : Nat) : Int) + 1 := by omega
     have i7_ : ((k : Nat) : Int) < (ac.length : Int) := by omega
     have i8_ : (((k : Nat) : Int) + 1).toNat = k + 1 := by omega
     have HDl : Hid ((ac.drop (k + 1)).length = ac.length - (k + 1)) := by show (ac.drop (k + 1)).length = _; rw [List.length_drop]
     have HRTh : Hid (∀ W, Below w.heap.size w W → jj3 W w.heap.size 2 (some ⟨g, off + (k + 1) * 2, none⟩) (ac.length - (k + 1)) (jz5 (ac.drop (k + 1)))) := fun W hW => by
      have := ((jvd HI.out).below hW).cut (k := k + 1) (cap := cap) (by omega) (by omega); rw [vals_dropA, if_neg hck] at this; rw [show Option.map (fun a : Addr => a.add ((k + 1) * 2)) (some (⟨g, off, none⟩ : Addr)) = some ⟨g, off + (k + 1) * 2, none⟩ from by show some ((⟨g, off, none⟩ : Addr).add _) = _; rw [jv1]] at this; exact this
     clear hw0
     go_wp2_with (first | (at_builtin; refine jq2 _ rfl (.tmp 24) (.tmp 27) _ rfl w.heap.size 71 i0 _ 2 16 Tryz.underlying28 hi0 hz0 hz1 hz2 rfl (by omega) _ 0 [] rfl ⟨rfl, .inr ⟨w.heap.size, 0, #[], rfl, Nat.le_refl _, Blk.new _ _ _, Nat.le_refl _, by unfold maxLen; omega, rfl, rfl⟩⟩ w.heap.size (some ⟨g, off, none⟩) k _ (jz5 (ac.take k)) rfl HR1.out (jqg _) (by unfold maxLen; omega) (by omega) (by simp) ?_; intro v1 w1 hown1 hg1 hat1; clear hat1; rw [Nat.zero_add, List.nil_append] at hown1; have BB : Below w.heap.size w w1 := ((Below.refl _ _).alloc (Nat.le_refl _) _).grown hg1 (by simp) (fun q hq => by have e : w.heap.size = q := Option.some.inj hq; omega); have hsw := BB.size; clear hg1; have x0 := kp _ BB _ _ y0; have x1 := kp _ BB _ _ y1) | (at_builtin; refine wpList_append_own _ rfl (.tmp 53) (.tmp 57) _ rfl w.heap.size 71 i0 _ 2 16 Tryz.underlying28 hi0 hz0 hz1 hz2 rfl (by decide) _ _ _ rfl (World.ownsRow.alloc hown1 _) ⟨_, 0, none⟩ 1 1 [.int .i64 o, .int .i64 (u + y)] rfl rfl (jxa _ _ (by simp) _ _) (jqg [(o, u + y)]) (by unfold maxLen; omega) (by omega) (by simp; omega) ?_; intro v2 w2 hown2 hg2 hat2; clear hat2; have BC : Below w.heap.size w w2 := (BB.alloc BB.size _).grown hg2 (by have := BB.size; simp; omega) (fun q hq => by have := (World.ownsRow.lt hown1 q hq).1; omega); have hsw2 := BC.size; have hr2 := HRTh.out _ BC) | (at_builtin; refine jq2 _ rfl (.tmp 59) (.tmp 62) _ rfl w.heap.size 71 i0 _ 2 16 Tryz.underlying28 hi0 hz0 hz1 hz2 rfl (by omega) _ _ _ rfl hown2 w.heap.size _ (ac.length - (k + 1)) _ (jz5 (ac.drop (k + 1))) rfl hr2 (jqg _) (by unfold maxLen; omega) (by omega) (by omega) ?_; intro v3 w3 hown3 hg3 hat3))
     all_goals (
      go_ret
      exact ⟨v3, rfl, by rw [HW.out]; exact acc_tail2 (o := o) (u := u + y) hown3 HT.out HDl.out, BC.grown hg3 BC.size (fun q hq => by have := (World.ownsRow.lt hown2 q hq).1; omega)⟩)
   have e2 : (x == o) = false := by simpa using hxe
   rw [if_neg (fun c => hxe c.2)] at hAD; clear hxo hxe hpy
   by_cases hpos : 0 < u
   ·have e3 : decide (0 < u) = true := decide_eq_true hpos
    have hw0 := hAD; rw [if_pos hpos] at hw0; clear hAD hpos
    have hck : ¬ cap = k := by omega
    have HW := Lib.hid hw0
    have i0_ : (0 : Int) ≤ ((k : Nat) : Int) := by omega
    have i1_ : ((k : Nat) : Int) ≤ (cap : Int) := by omega
    have i2_ : ((k : Nat) : Int) ≤ (ac.length : Int) := by omega
    have i7_ : ((k : Nat) : Int) < (ac.length : Int) := by omega
    have HDl : Hid ((ac.drop (k)).length = ac.length - (k)) := by show (ac.drop (k)).length = _; rw [List.length_drop]
    have HRTh : Hid (∀ W, Below w.heap.size w W → jj3 W w.heap.size 2 (some ⟨g, off + (k) * 2, none⟩) (ac.length - (k)) (jz5 (ac.drop (k)))) := fun W hW => by
     have := ((jvd HI.out).below hW).cut (k := k) (cap := cap) (by omega) (by omega); rw [vals_dropA, if_neg hck] at this; rw [show Option.map (fun a : Addr => a.add ((k) * 2)) (some (⟨g, off, none⟩ : Addr)) = some ⟨g, off + (k) * 2, none⟩ from by show some ((⟨g, off, none⟩ : Addr).add _) = _; rw [jv1]] at this; exact this
    clear hw0
    go_wp2_with (first | (at_builtin; refine jq2 _ rfl (.tmp 24) (.tmp 27) _ rfl w.heap.size 71 i0 _ 2 16 Tryz.underlying28 hi0 hz0 hz1 hz2 rfl (by omega) _ 0 [] rfl ⟨rfl, .inr ⟨w.heap.size, 0, #[], rfl, Nat.le_refl _, Blk.new _ _ _, Nat.le_refl _, by unfold maxLen; omega, rfl, rfl⟩⟩ w.heap.size (some ⟨g, off, none⟩) k _ (jz5 (ac.take k)) rfl HR1.out (jqg _) (by unfold maxLen; omega) (by omega) (by simp) ?_; intro v1 w1 hown1 hg1 hat1; clear hat1; rw [Nat.zero_add, List.nil_append] at hown1; have BB : Below w.heap.size w w1 := ((Below.refl _ _).alloc (Nat.le_refl _) _).grown hg1 (by simp) (fun q hq => by have e : w.heap.size = q := Option.some.inj hq; omega); have hsw := BB.size; clear hg1; have x0 := kp _ BB _ _ y0; have x1 := kp _ BB _ _ y1) | (at_builtin; refine wpList_append_own _ rfl (.tmp 53) (.tmp 57) _ rfl w.heap.size 71 i0 _ 2 16 Tryz.underlying28 hi0 hz0 hz1 hz2 rfl (by decide) _ _ _ rfl (World.ownsRow.alloc hown1 _) ⟨_, 0, none⟩ 1 1 [.int .i64 o, .int .i64 (u)] rfl rfl (jxa _ _ (by simp) _ _) (jqg [(o, u)]) (by unfold maxLen; omega) (by omega) (by simp; omega) ?_; intro v2 w2 hown2 hg2 hat2; clear hat2; have BC : Below w.heap.size w w2 := (BB.alloc BB.size _).grown hg2 (by have := BB.size; simp; omega) (fun q hq => by have := (World.ownsRow.lt hown1 q hq).1; omega); have hsw2 := BC.size; have hr2 := HRTh.out _ BC) | (at_builtin; refine jq2 _ rfl (.tmp 59) (.tmp 62) _ rfl w.heap.size 71 i0 _ 2 16 Tryz.underlying28 hi0 hz0 hz1 hz2 rfl (by omega) _ _ _ rfl hown2 w.heap.size _ (ac.length - (k)) _ (jz5 (ac.drop (k))) rfl hr2 (jqg _) (by unfold maxLen; omega) (by omega) (by omega) ?_; intro v3 w3 hown3 hg3 hat3))
    all_goals (
     go_ret
     exact ⟨v3, rfl, by rw [HW.out]; exact acc_tail2 (o := o) (u := u) hown3 HT.out HDl.out, BC.grown hg3 BC.size (fun q hq => by have := (World.ownsRow.lt hown2 q hq).1; omega)⟩)
   ·have e3 : decide (0 < u) = false := decide_eq_false hpos
    have hw0 := hAD; rw [if_neg hpos] at hw0; clear hAD hpos
    have hck : ¬ cap = k := by omega
    have HW := Lib.hid hw0
    have i0_ : (0 : Int) ≤ ((k : Nat) : Int) := by omega
    have i1_ : ((k : Nat) : Int) ≤ (cap : Int) := by omega
    have i2_ : ((k : Nat) : Int) ≤ (ac.length : Int) := by omega
    have i7_ : ((k : Nat) : Int) < (ac.length : Int) := by omega
    have HDl : Hid ((ac.drop (k)).length = ac.length - (k)) := by show (ac.drop (k)).length = _; rw [List.length_drop]
    have HRTh : Hid (∀ W, Below w.heap.size w W → jj3 W w.heap.size 2 (some ⟨g, off + (k) * 2, none⟩) (ac.length - (k)) (jz5 (ac.drop (k)))) := fun W hW => by
     have := ((jvd HI.out).below hW).cut (k := k) (cap := cap) (by omega) (by omega); rw [vals_dropA, if_neg hck] at this; rw [show Option.map (fun a : Addr => a.add ((k) * 2)) (some (⟨g, off, none⟩ : Addr)) = some ⟨g, off + (k) * 2, none⟩ from by show some ((⟨g, off, none⟩ : Addr).add _) = _; rw [jv1]] at this; exact this
    clear hw0
    go_wp2_with (first | (at_builtin; refine jq2 _ rfl (.tmp 24) (.tmp 27) _ rfl w.heap.size 71 i0 _ 2 16 Tryz.underlying28 hi0 hz0 hz1 hz2 rfl (by omega) _ 0 [] rfl ⟨rfl, .inr ⟨w.heap.size, 0, #[], rfl, Nat.le_refl _, Blk.new _ _ _, Nat.le_refl _, by unfold maxLen; omega, rfl, rfl⟩⟩ w.heap.size (some ⟨g, off, none⟩) k _ (jz5 (ac.take k)) rfl HR1.out (jqg _) (by unfold maxLen; omega) (by omega) (by simp) ?_; intro v1 w1 hown1 hg1 hat1; clear hat1; rw [Nat.zero_add, List.nil_append] at hown1; have BB : Below w.heap.size w w1 := ((Below.refl _ _).alloc (Nat.le_refl _) _).grown hg1 (by simp) (fun q hq => by have e : w.heap.size = q := Option.some.inj hq; omega); have hsw := BB.size; clear hg1; have x0 := kp _ BB _ _ y0; have x1 := kp _ BB _ _ y1; have hr2 := HRTh.out _ BB) | (at_builtin; refine jq2 _ rfl (.tmp 59) (.tmp 62) _ rfl w.heap.size 71 i0 _ 2 16 Tryz.underlying28 hi0 hz0 hz1 hz2 rfl (by omega) _ _ _ rfl hown1 w.heap.size _ (ac.length - (k)) _ (jz5 (ac.drop (k))) rfl hr2 (jqg _) (by unfold maxLen; omega) (by omega) (by omega) ?_; intro v3 w3 hown3 hg3 hat3))
    all_goals (
     go_ret
     exact ⟨v3, rfl, by rw [HW.out]; exact acc_tail hown3 HT.out HDl.out, BB.grown hg3 BB.size (fun q hq => by have := (World.ownsRow.lt hown1 q hq).1; omega)⟩)
  ·have hAD := add_is (o := o) (u := u) hk HK.out (fun c => absurd c hlt) HP.out h0
   rw [if_neg (fun c => hlt c.1)] at hAD; have d1 : decide ((k : Int) < (ac.length : Int)) = false := decide_eq_false (by omega); have d2 : decide (k < ac.length) = false := decide_eq_false hlt
   have hlk : ac.length ≤ k := by omega
   clear hlt
   by_cases hpos : 0 < u
   ·have e3 : decide (0 < u) = true := decide_eq_true hpos
    have hw0 := hAD; rw [if_pos hpos, List.drop_eq_nil_of_le hlk] at hw0; clear hAD hpos
    by_cases hck : cap = k
    ·skip
     have HW := Lib.hid hw0
     have i0_ : (0 : Int) ≤ ((k : Nat) : Int) := by omega
     have i1_ : ((k : Nat) : Int) ≤ (cap : Int) := by omega
     have i2_ : ((k : Nat) : Int) ≤ (ac.length : Int) := by omega
     have HDl : Hid (([] : List Ac).length = 0) := rfl
     have HRTh : Hid (∀ W, Below w.heap.size w W → ∀ A : Option Addr, jj3 W w.heap.size 2 A 0 (jz5 [])) := fun W hW A => ⟨rfl, fun h => absurd h (Nat.lt_irrefl 0)⟩
     clear hw0
     go_wp2_with (first | (at_builtin; refine jq2 _ rfl (.tmp 24) (.tmp 27) _ rfl w.heap.size 71 i0 _ 2 16 Tryz.underlying28 hi0 hz0 hz1 hz2 rfl (by omega) _ 0 [] rfl ⟨rfl, .inr ⟨w.heap.size, 0, #[], rfl, Nat.le_refl _, Blk.new _ _ _, Nat.le_refl _, by unfold maxLen; omega, rfl, rfl⟩⟩ w.heap.size (some ⟨g, off, none⟩) k _ (jz5 (ac.take k)) rfl HR1.out (jqg _) (by unfold maxLen; omega) (by omega) (by simp) ?_; intro v1 w1 hown1 hg1 hat1; clear hat1; rw [Nat.zero_add, List.nil_append] at hown1; have BB : Below w.heap.size w w1 := ((Below.refl _ _).alloc (Nat.le_refl _) _).grown hg1 (by simp) (fun q hq => by have e : w.heap.size = q := Option.some.inj hq; omega); have hsw := BB.size; clear hg1) | (at_builtin; refine wpList_append_own _ rfl (.tmp 53) (.tmp 57) _ rfl w.heap.size 71 i0 _ 2 16 Tryz.underlying28 hi0 hz0 hz1 hz2 rfl (by decide) _ _ _ rfl (World.ownsRow.alloc hown1 _) ⟨_, 0, none⟩ 1 1 [.int .i64 o, .int .i64 (u)] rfl rfl (jxa _ _ (by simp) _ _) (jqg [(o, u)]) (by unfold maxLen; omega) (by omega) (by simp; omega) ?_; intro v2 w2 hown2 hg2 hat2; clear hat2; have BC : Below w.heap.size w w2 := (BB.alloc BB.size _).grown hg2 (by have := BB.size; simp; omega) (fun q hq => by have := (World.ownsRow.lt hown1 q hq).1; omega); have hsw2 := BC.size; have hr2 := HRTh.out _ BC) | (at_builtin; refine jq2 _ rfl (.tmp 59) (.tmp 62) _ rfl w.heap.size 71 i0 _ 2 16 Tryz.underlying28 hi0 hz0 hz1 hz2 rfl (by omega) _ _ _ rfl hown2 w.heap.size _ (0) _ (jz5 []) rfl (hr2 _) (jqg _) (by unfold maxLen; omega) (by omega) (by omega) ?_; intro v3 w3 hown3 hg3 hat3))
     all_goals (
      go_ret
      exact ⟨v3, rfl, by rw [HW.out]; exact acc_tail2 (o := o) (u := u) hown3 HT.out HDl.out, BC.grown hg3 BC.size (fun q hq => by have := (World.ownsRow.lt hown2 q hq).1; omega)⟩)
    ·skip
     have HW := Lib.hid hw0
     have i0_ : (0 : Int) ≤ ((k : Nat) : Int) := by omega
     have i1_ : ((k : Nat) : Int) ≤ (cap : Int) := by omega
     have i2_ : ((k : Nat) : Int) ≤ (ac.length : Int) := by omega
     have HDl : Hid (([] : List Ac).length = 0) := rfl
     have HRTh : Hid (∀ W, Below w.heap.size w W → ∀ A : Option Addr, jj3 W w.heap.size 2 A 0 (jz5 [])) := fun W hW A => ⟨rfl, fun h => absurd h (Nat.lt_irrefl 0)⟩
     clear hw0
     go_wp2_with (first | (at_builtin; refine jq2 _ rfl (.tmp 24) (.tmp 27) _ rfl w.heap.size 71 i0 _ 2 16 Tryz.underlying28 hi0 hz0 hz1 hz2 rfl (by omega) _ 0 [] rfl ⟨rfl, .inr ⟨w.heap.size, 0, #[], rfl, Nat.le_refl _, Blk.new _ _ _, Nat.le_refl _, by unfold maxLen; omega, rfl, rfl⟩⟩ w.heap.size (some ⟨g, off, none⟩) k _ (jz5 (ac.take k)) rfl HR1.out (jqg _) (by unfold maxLen; omega) (by omega) (by simp) ?_; intro v1 w1 hown1 hg1 hat1; clear hat1; rw [Nat.zero_add, List.nil_append] at hown1; have BB : Below w.heap.size w w1 := ((Below.refl _ _).alloc (Nat.le_refl _) _).grown hg1 (by simp) (fun q hq => by have e : w.heap.size = q := Option.some.inj hq; omega); have hsw := BB.size; clear hg1) | (at_builtin; refine wpList_append_own _ rfl (.tmp 53) (.tmp 57) _ rfl w.heap.size 71 i0 _ 2 16 Tryz.underlying28 hi0 hz0 hz1 hz2 rfl (by decide) _ _ _ rfl (World.ownsRow.alloc hown1 _) ⟨_, 0, none⟩ 1 1 [.int .i64 o, .int .i64 (u)] rfl rfl (jxa _ _ (by simp) _ _) (jqg [(o, u)]) (by unfold maxLen; omega) (by omega) (by simp; omega) ?_; intro v2 w2 hown2 hg2 hat2; clear hat2; have BC : Below w.heap.size w w2 := (BB.alloc BB.size _).grown hg2 (by have := BB.size; simp; omega) (fun q hq => by have := (World.ownsRow.lt hown1 q hq).1; omega); have hsw2 := BC.size; have hr2 := HRTh.out _ BC) | (at_builtin; refine jq2 _ rfl (.tmp 59) (.tmp 62) _ rfl w.heap.size 71 i0 _ 2 16 Tryz.underlying28 hi0 hz0 hz1 hz2 rfl (by omega) _ _ _ rfl hown2 w.heap.size _ (0) _ (jz5 []) rfl (hr2 _) (jqg _) (by unfold maxLen; omega) (by omega) (by omega) ?_; intro v3 w3 hown3 hg3 hat3))
     all_goals (
      go_ret
      exact ⟨v3, rfl, by rw [HW.out]; exact acc_tail2 (o := o) (u := u) hown3 HT.out HDl.out, BC.grown hg3 BC.size (fun q hq => by have := (World.ownsRow.lt hown2 q hq).1; omega)⟩)
   ·have e3 : decide (0 < u) = false := decide_eq_false hpos
    have hw0 := hAD; rw [if_neg hpos, List.drop_eq_nil_of_le hlk] at hw0; clear hAD hpos
    by_cases hck : cap = k
    ·skip
     have HW := Lib.hid hw0
     have i0_ : (0 : Int) ≤ ((k : Nat) : Int) := by omega
     have i1_ : ((k : Nat) : Int) ≤ (cap : Int) := by omega
     have i2_ : ((k : Nat) : Int) ≤ (ac.length : Int) := by omega
     have HDl : Hid (([] : List Ac).length = 0) := rfl
     have HRTh : Hid (∀ W, Below w.heap.size w W → ∀ A : Option Addr, jj3 W w.heap.size 2 A 0 (jz5 [])) := fun W hW A => ⟨rfl, fun h => absurd h (Nat.lt_irrefl 0)⟩
     clear hw0
     go_wp2_with (first | (at_builtin; refine jq2 _ rfl (.tmp 24) (.tmp 27) _ rfl w.heap.size 71 i0 _ 2 16 Tryz.underlying28 hi0 hz0 hz1 hz2 rfl (by omega) _ 0 [] rfl ⟨rfl, .inr ⟨w.heap.size, 0, #[], rfl, Nat.le_refl _, Blk.new _ _ _, Nat.le_refl _, by unfold maxLen; omega, rfl, rfl⟩⟩ w.heap.size (some ⟨g, off, none⟩) k _ (jz5 (ac.take k)) rfl HR1.out (jqg _) (by unfold maxLen; omega) (by omega) (by simp) ?_; intro v1 w1 hown1 hg1 hat1; clear hat1; rw [Nat.zero_add, List.nil_append] at hown1; have BB : Below w.heap.size w w1 := ((Below.refl _ _).alloc (Nat.le_refl _) _).grown hg1 (by simp) (fun q hq => by have e : w.heap.size = q := Option.some.inj hq; omega); have hsw := BB.size; clear hg1; have hr2 := HRTh.out _ BB) | (at_builtin; refine jq2 _ rfl (.tmp 59) (.tmp 62) _ rfl w.heap.size 71 i0 _ 2 16 Tryz.underlying28 hi0 hz0 hz1 hz2 rfl (by omega) _ _ _ rfl hown1 w.heap.size _ (0) _ (jz5 []) rfl (hr2 _) (jqg _) (by unfold maxLen; omega) (by omega) (by omega) ?_; intro v3 w3 hown3 hg3 hat3))
     all_goals (
      go_ret
      exact ⟨v3, rfl, by rw [HW.out]; exact acc_tail hown3 HT.out HDl.out, BB.grown hg3 BB.size (fun q hq => by have := (World.ownsRow.lt hown1 q hq).1; omega)⟩)
    ·skip
     have HW := Lib.hid hw0
     have i0_ : (0 : Int) ≤ ((k : Nat) : Int) := by omega
     have i1_ : ((k : Nat) : Int) ≤ (cap : Int) := by omega
     have i2_ : ((k : Nat) : Int) ≤ (ac.length : Int) := by omega
     have HDl : Hid (([] : List Ac).length = 0) := rfl
     have HRTh : Hid (∀ W, Below w.heap.size w W → ∀ A : Option Addr, jj3 W w.heap.size 2 A 0 (jz5 [])) := fun W hW A => ⟨rfl, fun h => absurd h (Nat.lt_irrefl 0)⟩
     clear hw0
     go_wp2_with (first | (at_builtin; refine jq2 _ rfl (.tmp 24) (.tmp 27) _ rfl w.heap.size 71 i0 _ 2 16 Tryz.underlying28 hi0 hz0 hz1 hz2 rfl (by omega) _ 0 [] rfl ⟨rfl, .inr ⟨w.heap.size, 0, #[], rfl, Nat.le_refl _, Blk.new _ _ _, Nat.le_refl _, by unfold maxLen; omega, rfl, rfl⟩⟩ w.heap.size (some ⟨g, off, none⟩) k _ (jz5 (ac.take k)) rfl HR1.out (jqg _) (by unfold maxLen; omega) (by omega) (by simp) ?_; intro v1 w1 hown1 hg1 hat1; clear hat1; rw [Nat.zero_add, List.nil_append] at hown1; have BB : Below w.heap.size w w1 := ((Below.refl _ _).alloc (Nat.le_refl _) _).grown hg1 (by simp) (fun q hq => by have e : w.heap.size = q := Option.some.inj hq; omega); have hsw := BB.size; clear hg1; have hr2 := HRTh.out _ BB) | (at_builtin; refine jq2 _ rfl (.tmp 59) (.tmp 62) _ rfl w.heap.size 71 i0 _ 2 16 Tryz.underlying28 hi0 hz0 hz1 hz2 rfl (by omega) _ _ _ rfl hown1 w.heap.size _ (0) _ (jz5 []) rfl (hr2 _) (jqg _) (by unfold maxLen; omega) (by omega) (by omega) ?_; intro v3 w3 hown3 hg3 hat3))
     all_goals (
      go_ret
      exact ⟨v3, rfl, by rw [HW.out]; exact acc_tail hown3 HT.out HDl.out, BB.grown hg3 BB.size (fun q hq => by have := (World.ownsRow.lt hown1 q hq).1; omega)⟩)
end Go.Proofs.YtaehemmjemhgpabGreat
