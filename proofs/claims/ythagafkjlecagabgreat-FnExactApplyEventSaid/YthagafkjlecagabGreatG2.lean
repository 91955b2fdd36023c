/- Contracts and facts of functions of this program, in build order. Conditions: those stated in each. -/
import Derived.Test.YthagafkjlecagabGreatG1
import Derived.Test.YthagafkjlecagabGreatG0
import Derived.Laws.OwnMore
import Derived.Maps.AppendAt
import Derived.WalkLawsBesides
import Derived.Deep.RegionWith
import Derived.BigRegion
import Derived.Deep.RegionHeld3
import Derived.Deep.DeepCutAuto
set_option maxRecDepth 100000
set_option maxHeartbeats 16000000
namespace Go.Proofs.YthagafkjlecagabGreat
open Go.RowKit
set_option linter.unusedSimpArgs false
set_option linter.unusedVariables false
theorem own_snoc {w : World} {base : Nat} {v : Value} {A : List Hd} {o n d : Int} (h : w.ownsRow base 103 3 v (A.length + 1) (valsH A ++ [.int .i64 o, .int .i64 n, .int .i64 d])) : OwnH w base v (A ++ [(o, n, d)]) := by
 unfold OwnH; rw [List.length_append, vals_append]; exact h
theorem setTo_not (L : Led) (o : Int) (q : Rat) : ∀ k, k ≤ L.length → (setTo L o q k).2 = false → q ≠ 0 := by
  intro k
  induction k with
  | zero => intro _ h; rw [setTo_zero] at h; simpa using h
  | succ k ih =>
    intro hk h; rw [setTo_succ o q (by omega)] at h; simp only [Bool.or_eq_false_iff] at h; exact ih (by omega) h.1
theorem setTo_raw {L : Led} {hs : List Hd} (hh : hs = rawL L) {n d : Int} {q : Rat} (hq : shareIs n d q) (o : Int) {k : Nat} (hk : k < hs.length) {c : Bool} (hc : (setTo L o q k).2 = c) {x xn xd : Int} (hx : hs.getD k hd0 = (x, xn, xd)) :
  rawL (setTo L o q (k + 1)).1 = rawL (setTo L o q k).1 ++ ((if !c && decide (o ≤ x) then [(o, n, d)] else []) ++ (if x ≠ o then [(x, xn, xd)] else [])) ∧ (setTo L o q (k + 1)).2 = (c || decide (o ≤ x)) := by
 subst hh; rw [raw_len] at hk; rw [raw_get L hk] at hx; have e1 : (L.getD k (0, 0)).1 = x := congrArg Prod.fst hx
 have e3 : rawL [L.getD k (0, 0)] = [(x, xn, xd)] := by show [rawH (L.getD k (0, 0))] = _; rw [hx]
 rw [setTo_succ o q hk, hc, e1]; refine ⟨?_, rfl⟩; dsimp only; rw [raw_append, raw_append]
 congr 2
 ·by_cases h : (!c && decide (o ≤ x)) = true
  ·rw [if_pos h, if_pos h]
   have hcf : c = false := by cases c with | true => simp at h | false => rfl
   have := setTo_not L o q k (by omega) (by rw [hc, hcf])
   show [rawH (o, q)] = _
   rw [shareIs_raw hq this]
  ·rw [if_neg h, if_neg h]; rfl
 ·by_cases h : x ≠ o
  ·rw [if_pos h, if_pos h, e3]
  ·rw [if_neg h, if_neg h]; rfl
theorem sset (a : Option Addr) (cap : Nat) (L : Led) (hs : List Hd) (o n d : Int) (q : Rat) (w : World) (h : IsHs w a hs) (hhs : hs = rawL L) (hn : hs.length ≤ 1000) (hq : shareIs n d q) :
    Calls Tryz.prog 118 #[.slice a hs.length cap, .int .i64 o, .agg #[.int .i64 n, .int .i64 d]] w (NewH w (rawL (setL L o q))) := by
  obtain ⟨i0, hi0, hz0, hz1, hz2⟩ := info_parts infoH; have HQ := Lib.hid hq
  have HZ : Hid (decide (q = 0) = (n == 0)) := by show _ = _; rw [shareIs_zero hq]; by_cases e : n = 0 <;> simp [e]
  have HE : Hid (rawL (setL L o q) = rawL (setTo L o q hs.length).1 ++ (if (setTo L o q hs.length).2 then [] else [(o, n, d)])) := by
    show _ = _
    rw [setTo_end, raw_append, hhs, raw_len]
    congr 1
    cases hc : (setTo L o q L.length).2 with
    | true => rfl
    | false =>
      show [rawH (o, q)] = _
      rw [shareIs_raw hq (setTo_not L o q _ (Nat.le_refl _) hc)]; rfl
  have HLn : Hid (∀ k, k ≤ hs.length → (rawL (setTo L o q k).1).length ≤ 2 * k) := fun k hk => by rw [raw_len]; exact setTo_len L o q k (by rw [hhs, raw_len] at hk; exact hk)
  rcases h with he | ⟨g, off, rfl, hc⟩
  · have e0 : hs.length = 0 := by rw [he]; rfl
    rw [e0] at HE ⊢; clear he hhs hq; have hq0 := HE.out; have hl0 : (rawL (setTo L o q 0).1) = [] := rfl
    have hs0 : (setTo L o q 0).2 = (n == 0) := by show decide (q = 0) = _; exact HZ.out
    rw [hl0, hs0] at hq0
    by_cases hz : n = 0
    · have hzb : (n == 0) = true := by simpa using hz
      have HW : Hid (rawL (setL L o q) = []) := by show _ = _; rw [hq0, hzb]; rfl
      clear hz hq0 hl0 hs0 HZ; go_enter Tryz.func118, Tryz.ntmps118; go_wp2_with fail; refine wp_loop_rounds 1 ?_; rw [rounds_succ]; go_wp2_with fail; go_ret; refine ⟨_, rfl, ?_, by go_grown⟩; rw [HW.out]; exact ⟨rfl, .inr ⟨w.heap.size + 1, 0, #[], rfl, by omega, by have := Blk.new (w.alloc (.cells #[.int .i64 n, .int .i64 d] 49)) 103 #[]; rw [World.size_alloc] at this; exact this, Nat.le_refl _, by unfold maxLen; omega, rfl, rfl⟩⟩
    · have hzb : (n == 0) = false := by simpa using hz
      have HW : Hid (rawL (setL L o q) = [(o, n, d)]) := by show _ = _; rw [hq0, hzb]; rfl
      have hown : ((w.alloc (.cells #[.int .i64 n, .int .i64 d] 49)).alloc (.cells #[] 103)).ownsRow (w.heap.size + 1) 103 3 (.slice (some ⟨w.heap.size + 1, 0, none⟩) 0 0) 0 (valsH []) := ⟨rfl, .inr ⟨w.heap.size + 1, 0, #[], rfl, by omega, by have := Blk.new (w.alloc (.cells #[.int .i64 n, .int .i64 d] 49)) 103 #[]; rw [World.size_alloc] at this; exact this, Nat.le_refl _, by unfold maxLen; omega, rfl, rfl⟩⟩
      have HO := Lib.hid hown; clear hz hq0 hl0 hs0 HZ hown; go_enter Tryz.func118, Tryz.ntmps118; go_wp2_with fail; refine wp_loop_rounds 1 ?_; rw [rounds_succ]
      go_wp2_with (first | (at_builtin; refine wpList_append_own _ rfl (.tmp 53) (.tmp 57) _ rfl (w.heap.size + 1) 103 i0 _ 3 24 Tryz.underlying39 hi0 hz0 hz1 hz2 rfl (by decide) _ _ (valsH []) rfl (HO.out.alloc _) ⟨w.heap.size + 2, 0, none⟩ 1 1 [.int .i64 o, .int .i64 n, .int .i64 d] rfl rfl (by have := new_cells ((w.alloc (.cells #[.int .i64 n, .int .i64 d] 49)).alloc (.cells #[] 103)) [.int .i64 o, .int .i64 n, .int .i64 d] 103; rw [World.size_alloc, World.size_alloc] at this; exact this) (vals_one [(o, n, d)]) (by unfold maxLen; omega) (by omega) (by simp <;> omega) ?_; intro v3 w3 h3 g3 n3))
      have O3 : OwnH w3 (w.heap.size + 1) v3 ([] ++ [(o, n, d)]) := own_snoc h3; go_ret; exact ⟨v3, rfl, by rw [HW.out]; exact own_base O3, ((((Below.refl _ _).alloc (Nat.le_refl _) _).alloc (by simp) _).alloc (by simp; omega) _).grown g3 (by simp; omega) (fun q hq => by have e : w.heap.size + 1 = q := Option.some.inj hq; omega)⟩
  · have HC := Lib.hid hc
    have HS := Lib.hid hhs; clear hc hhs hq; go_enter Tryz.func118, Tryz.ntmps118; go_wp2_with fail
    go_loopw [7, 8, 9] (fun v b i wr => ∃ k : Nat, i = .int .i64 k ∧ b = .bool (setTo L o q k).2 ∧ k ≤ hs.length ∧ OwnH wr (w.heap.size + 1) v (rawL (setTo L o q k).1) ∧ Blk wr w.heap.size 49 #[.int .i64 n, .int .i64 d] ∧ Below w.heap.size w wr ∧ w.heap.size + 2 ≤ wr.heap.size) (fun _ _ i _ => hs.length - (intOf i).toNat)
    case atStart => exact ⟨0, rfl, by show _ = Value.bool (decide (q = 0)); rw [HZ.out], Nat.zero_le _, ⟨rfl, .inr ⟨w.heap.size + 1, 0, #[], rfl, Nat.le_refl _, by have := Blk.new (w.alloc (.cells #[.int .i64 n, .int .i64 d] 49)) 103 #[]; rw [World.size_alloc] at this; exact this, Nat.le_refl _, by unfold maxLen; omega, rfl, rfl⟩⟩, (Blk.new _ _ _).alloc _, by go_grown, by simp⟩
    case round =>
      obtain ⟨k, rfl, rfl, hk, hown, hS, hB, hsz⟩ := hrel; unfold OwnH at hown
      obtain ⟨c, hcc⟩ : ∃ c, (setTo L o q k).2 = c := ⟨_, rfl⟩
      have hal := HLn.out k hk
      by_cases hlt : k < hs.length
      · obtain ⟨c0, c1, c2⟩ := cells_at HC.out hB hlt
        have ht := fun x xn xd => setTo_raw HS.out HQ.out o hlt hcc (x := x) (xn := xn) (xd := xd)
        obtain ⟨hh, hhe⟩ : ∃ hh, hs.getD k hd0 = hh := ⟨_, rfl⟩
        obtain ⟨x, xn, xd⟩ := hh; rw [hhe] at c0 c1 c2; dsimp only at c0 c1 c2; have ht := ht x xn xd hhe; rw [hcc]; generalize rawL (setTo L o q k).1 = A at hown hal ht; obtain ⟨t0, t1, t2, t3, t4⟩ := blk_two hS; have HH := Lib.hid hhe; clear hcc hhe
        by_cases hp : (!c && decide (o ≤ x)) = true
        · rw [if_pos hp] at ht
          simp only [Bool.and_eq_true, Bool.not_eq_true', decide_eq_true_eq] at hp; obtain ⟨rfl, hox⟩ := hp
          by_cases hx : x = o
          · rw [if_neg (fun e => e hx)] at ht
            have HT := Lib.hid ht
            have hxb : (x == o) = true := by simpa using hx
            have hxn : (x != o) = false := by simp [hx]
            clear ht hx
            go_wp2_with (first | (at_builtin; refine wpList_append_own _ rfl (.tmp 31) (.tmp 35) _ rfl (w.heap.size + 1) 103 i0 _ 3 24 Tryz.underlying39 hi0 hz0 hz1 hz2 rfl (by decide) _ _ (valsH A) rfl (hown.alloc _) ⟨wr.heap.size, 0, none⟩ 1 1 [.int .i64 o, .int .i64 n, .int .i64 d] rfl rfl (new_cells wr _ _) (vals_one [(o, n, d)]) (by unfold maxLen; omega) (by omega) (by simp; omega) ?_; intro v2 w2 h2 g2 n2; have O2 : OwnH w2 (w.heap.size + 1) v2 (A ++ [(o, n, d)]) := own_snoc h2; have B2 : Below w.heap.size w w2 := (hB.alloc hB.size _).grown g2 (by simp; omega) (fun q hq => by have := (hown.lt q hq).1; omega); have S2 : Blk w2 w.heap.size 49 #[.int .i64 n, .int .i64 d] := (hS.alloc _).grown g2 (fun e => by have := (hown.lt _ e.symm).1; omega); have Z2 : (A ++ [(o, n, d)]).length ≤ 2 * k + 1 := (by rw [List.length_append]; simp; omega); have z2 : w.heap.size + 2 ≤ w2.heap.size := (by have := g2.size; simp at this; omega); obtain ⟨c0, c1, c2⟩ := cells_at HC.out B2 hlt; rw [HH.out] at c0 c1 c2; dsimp only at c0 c1 c2; clear h2 g2 n2; unfold OwnH at O2))
            go_roundw
            case rel => exact ⟨k + 1, by go_num, by rw [HT.out.2]; first | rfl | (simp; omega) | simp [hox], by omega, by rw [HT.out.1]; simp only [List.append_nil, List.nil_append, ← List.append_assoc]; exact O2, S2, B2, z2⟩
            case measure => simp [intOf]; omega
          · rw [if_pos hx] at ht
            have HT := Lib.hid ht
            have hxb : (x == o) = false := by simpa using hx
            have hxn : (x != o) = true := by simp [hx]
            clear ht hx
            go_wp2_with (first | (at_builtin; refine wpList_append_own _ rfl (.tmp 31) (.tmp 35) _ rfl (w.heap.size + 1) 103 i0 _ 3 24 Tryz.underlying39 hi0 hz0 hz1 hz2 rfl (by decide) _ _ (valsH A) rfl (hown.alloc _) ⟨wr.heap.size, 0, none⟩ 1 1 [.int .i64 o, .int .i64 n, .int .i64 d] rfl rfl (new_cells wr _ _) (vals_one [(o, n, d)]) (by unfold maxLen; omega) (by omega) (by simp; omega) ?_; intro v2 w2 h2 g2 n2; have O2 : OwnH w2 (w.heap.size + 1) v2 (A ++ [(o, n, d)]) := own_snoc h2; have B2 : Below w.heap.size w w2 := (hB.alloc hB.size _).grown g2 (by simp; omega) (fun q hq => by have := (hown.lt q hq).1; omega); have S2 : Blk w2 w.heap.size 49 #[.int .i64 n, .int .i64 d] := (hS.alloc _).grown g2 (fun e => by have := (hown.lt _ e.symm).1; omega); have Z2 : (A ++ [(o, n, d)]).length ≤ 2 * k + 1 := (by rw [List.length_append]; simp; omega); have z2 : w.heap.size + 2 ≤ w2.heap.size := (by have := g2.size; simp at this; omega); obtain ⟨c0, c1, c2⟩ := cells_at HC.out B2 hlt; rw [HH.out] at c0 c1 c2; dsimp only at c0 c1 c2; clear h2 g2 n2; unfold OwnH at O2) | (at_builtin; refine wpList_append_own _ rfl (.tmp 44) (.tmp 49) _ rfl (w.heap.size + 1) 103 i0 _ 3 24 Tryz.underlying39 hi0 hz0 hz1 hz2 rfl (by decide) v2 _ (valsH (A ++ [(o, n, d)])) rfl (O2.alloc _) ⟨w2.heap.size, 0, none⟩ 1 1 [.int .i64 x, .int .i64 xn, .int .i64 xd] rfl rfl (new_cells w2 _ _) (vals_one [(x, xn, xd)]) (by unfold maxLen; omega) (by omega) (by simp; omega) ?_; intro v3 w3 h3 g3 n3))
            have O3 : OwnH w3 (w.heap.size + 1) v3 ((A ++ [(o, n, d)]) ++ [(x, xn, xd)]) := own_snoc h3; have B3 : Below w.heap.size w w3 := (B2.alloc B2.size _).grown g3 (by simp; omega) (fun q hq => by have := (O2.lt q hq).1; omega); have S3 : Blk w3 w.heap.size 49 #[.int .i64 n, .int .i64 d] := (S2.alloc _).grown g3 (fun e => by have := (O2.lt _ e.symm).1; omega)
            have z3 : w.heap.size + 2 ≤ w3.heap.size := (by have := g3.size; simp at this; omega)
            go_roundw
            case rel => exact ⟨k + 1, by go_num, by rw [HT.out.2]; first | rfl | (simp; omega) | simp [hox], by omega, by rw [HT.out.1]; simp only [List.append_nil, List.nil_append, ← List.append_assoc]; exact O3, S3, B3, z3⟩
            case measure => simp [intOf]; omega
        · rw [if_neg hp] at ht
          have hp2 : c = true ∨ ¬ o ≤ x := by
            cases c with
            | true => exact .inl rfl
            | false => right; simpa using hp
          clear hp
          by_cases hx : x = o
          · rw [if_neg (fun e => e hx)] at ht
            have HT := Lib.hid ht
            have hxb : (x == o) = true := by simpa using hx
            have hxn : (x != o) = false := by simp [hx]
            have hc1 : c = true := by rcases hp2 with h | h; exact h; exact absurd (by omega) h
            subst hc1; clear ht hx hp2; go_wp2_with fail
            go_roundw
            case rel => exact ⟨k + 1, by go_num, by rw [HT.out.2]; first | rfl | (simp; omega) | simp [hox], by omega, by rw [HT.out.1]; simp only [List.append_nil, List.nil_append, ← List.append_assoc]; exact hown, hS, hB, hsz⟩
            case measure => simp [intOf]; omega
          · rw [if_pos hx] at ht
            have HT := Lib.hid ht
            have hxb : (x == o) = false := by simpa using hx
            have hxn : (x != o) = true := by simp [hx]
            clear ht hx
            rcases hp2 with hp2 | hp2
            · subst hp2
              go_wp2_with (first | (at_builtin; refine wpList_append_own _ rfl (.tmp 44) (.tmp 49) _ rfl (w.heap.size + 1) 103 i0 _ 3 24 Tryz.underlying39 hi0 hz0 hz1 hz2 rfl (by decide) _ _ (valsH A) rfl (hown.alloc _) ⟨wr.heap.size, 0, none⟩ 1 1 [.int .i64 x, .int .i64 xn, .int .i64 xd] rfl rfl (new_cells wr _ _) (vals_one [(x, xn, xd)]) (by unfold maxLen; omega) (by omega) (by simp; omega) ?_; intro v3 w3 h3 g3 n3))
              have O3 : OwnH w3 (w.heap.size + 1) v3 (A ++ [(x, xn, xd)]) := own_snoc h3; have B3 : Below w.heap.size w w3 := (hB.alloc hB.size _).grown g3 (by simp; omega) (fun q hq => by have := (hown.lt q hq).1; omega); have S3 : Blk w3 w.heap.size 49 #[.int .i64 n, .int .i64 d] := (hS.alloc _).grown g3 (fun e => by have := (hown.lt _ e.symm).1; omega)
              have z3 : w.heap.size + 2 ≤ w3.heap.size := (by have := g3.size; simp at this; omega)
              go_roundw
              case rel => exact ⟨k + 1, by go_num, by rw [HT.out.2]; first | rfl | (simp; omega) | simp [hox], by omega, by rw [HT.out.1]; simp only [List.append_nil, List.nil_append, ← List.append_assoc]; exact O3, S3, B3, z3⟩
              case measure => simp [intOf]; omega
            · have hox : decide (o ≤ x) = false := by simpa using hp2
              cases c with
              | false =>
                go_wp2_with (first | (at_builtin; refine wpList_append_own _ rfl (.tmp 44) (.tmp 49) _ rfl (w.heap.size + 1) 103 i0 _ 3 24 Tryz.underlying39 hi0 hz0 hz1 hz2 rfl (by decide) _ _ (valsH A) rfl (hown.alloc _) ⟨wr.heap.size, 0, none⟩ 1 1 [.int .i64 x, .int .i64 xn, .int .i64 xd] rfl rfl (new_cells wr _ _) (vals_one [(x, xn, xd)]) (by unfold maxLen; omega) (by omega) (by simp; omega) ?_; intro v3 w3 h3 g3 n3))
                have O3 : OwnH w3 (w.heap.size + 1) v3 (A ++ [(x, xn, xd)]) := own_snoc h3; have B3 : Below w.heap.size w w3 := (hB.alloc hB.size _).grown g3 (by simp; omega) (fun q hq => by have := (hown.lt q hq).1; omega); have S3 : Blk w3 w.heap.size 49 #[.int .i64 n, .int .i64 d] := (hS.alloc _).grown g3 (fun e => by have := (hown.lt _ e.symm).1; omega)
                have z3 : w.heap.size + 2 ≤ w3.heap.size := (by have := g3.size; simp at this; omega)
                go_roundw
                case rel => exact ⟨k + 1, by go_num, by rw [HT.out.2]; first | rfl | (simp; omega) | simp [hox], by omega, by rw [HT.out.1]; simp only [List.append_nil, List.nil_append, ← List.append_assoc]; exact O3, S3, B3, z3⟩
                case measure => simp [intOf]; omega
              | true =>
                go_wp2_with (first | (at_builtin; refine wpList_append_own _ rfl (.tmp 44) (.tmp 49) _ rfl (w.heap.size + 1) 103 i0 _ 3 24 Tryz.underlying39 hi0 hz0 hz1 hz2 rfl (by decide) _ _ (valsH A) rfl (hown.alloc _) ⟨wr.heap.size, 0, none⟩ 1 1 [.int .i64 x, .int .i64 xn, .int .i64 xd] rfl rfl (new_cells wr _ _) (vals_one [(x, xn, xd)]) (by unfold maxLen; omega) (by omega) (by simp; omega) ?_; intro v3 w3 h3 g3 n3))
                have O3 : OwnH w3 (w.heap.size + 1) v3 (A ++ [(x, xn, xd)]) := own_snoc h3; have B3 : Below w.heap.size w w3 := (hB.alloc hB.size _).grown g3 (by simp; omega) (fun q hq => by have := (hown.lt q hq).1; omega); have S3 : Blk w3 w.heap.size 49 #[.int .i64 n, .int .i64 d] := (hS.alloc _).grown g3 (fun e => by have := (hown.lt _ e.symm).1; omega)
                have z3 : w.heap.size + 2 ≤ w3.heap.size := (by have := g3.size; simp at this; omega)
                go_roundw
                case rel => exact ⟨k + 1, by go_num, by rw [HT.out.2]; first | rfl | (simp; omega) | simp [hox], by omega, by rw [HT.out.1]; simp only [List.append_nil, List.nil_append, ← List.append_assoc]; exact O3, S3, B3, z3⟩
                case measure => simp [intOf]; omega
      · obtain rfl : hs.length = k := by omega
        have he := HE.out; rw [hcc] at he ⊢; generalize rawL (setTo L o q hs.length).1 = A at hown hal he; obtain ⟨t0, t1, t2, t3, t4⟩ := blk_two hS; clear hcc
        cases c with
        | true =>
          have HW : Hid (rawL (setL L o q) = A) := by show _ = _; rw [he]; simp
          clear he; go_wp2_with fail; go_ret; refine ⟨_, rfl, ?_, hB⟩; rw [HW.out]; exact own_base hown
        | false =>
          have HW : Hid (rawL (setL L o q) = A ++ [(o, n, d)]) := he; clear he
          go_wp2_with (first | (at_builtin; refine wpList_append_own _ rfl (.tmp 53) (.tmp 57) _ rfl (w.heap.size + 1) 103 i0 _ 3 24 Tryz.underlying39 hi0 hz0 hz1 hz2 rfl (by decide) _ _ (valsH A) rfl (hown.alloc _) ⟨wr.heap.size, 0, none⟩ 1 1 [.int .i64 o, .int .i64 n, .int .i64 d] rfl rfl (new_cells wr _ _) (vals_one [(o, n, d)]) (by unfold maxLen; omega) (by omega) (by simp; omega) ?_; intro v3 w3 h3 g3 n3))
          have O3 : OwnH w3 (w.heap.size + 1) v3 (A ++ [(o, n, d)]) := own_snoc h3; go_ret; exact ⟨v3, rfl, by rw [HW.out]; exact own_base O3, (hB.alloc hB.size _).grown g3 (by simp; omega) (fun q hq => by have := (hown.lt q hq).1; omega)⟩
theorem sold_two {L : Led} (ha : Asc L) {f t : Int} (hft : t ≠ f) (p : Rat) : setL (setL L f (shareL L f - p)) t (shareL (setL L f (shareL L f - p)) t + p) = soldL L f t p := by
 unfold soldL; rw [share_set ha, if_neg hft]
def vwB (zs : List Int) : Bool := allB zs 1000 && decide (zs.length ≤ 12) && decide (0 < zs.sum)
theorem vw_no1 {zs : List Int} (h : allB zs 1000 = false) : vwB zs = false := by unfold vwB; rw [h]; rfl
theorem vw_no2 {zs : List Int} (h : 12 < zs.length) : vwB zs = false := by unfold vwB; rw [decide_eq_false (by omega : ¬ zs.length ≤ 12)]; simp
theorem vw_sum {zs : List Int} (h : allB zs 1000 = true) (h2 : zs.length ≤ 12) : vwB zs = decide (0 < zs.sum) := by unfold vwB; rw [h, decide_eq_true h2]; rfl
theorem all_bd {zs : List Int} {most : Int} (h : allB zs most = true) (hm : most ≤ 1000000) : ∀ z ∈ zs, -1000000 ≤ z ∧ z ≤ 1000000 := fun z hz => by
 have := (allB_iff zs most).1 h z hz; omega
theorem vw_is {ws : List Int} (h : vwB ws = true) : allB ws 1000 = true ∧ ws.length ≤ 12 ∧ 0 < ws.sum := by
 unfold vwB at h; simp only [Bool.and_eq_true, decide_eq_true_eq] at h; exact ⟨h.1.1, h.1.2, h.2⟩
theorem svw (a : Option Addr) (cap : Nat) (zs : List Int) (w : World) (h : IsInts w a zs) (hn : zs.length ≤ 1048576) :
  Calls Tryz.prog 122 #[.slice a zs.length cap] w fun e w' => e = .returned (.bool (vwB zs)) ∧ w = w' := by
 have h0 := h
 rcases h with rfl | ⟨g, o, rfl, hc⟩
 ·go_enter Tryz.func122, Tryz.ntmps122
  go_wp2_with fail; refine wp_loop_rounds 1 ?_; rw [rounds_succ]; go_wp2_with fail; refine (stotal a cap [] _ h0 (by simp) (by simp)).mono ?_; rintro e w' ⟨rfl, rfl⟩; go_wp2_with fail; go_ret; exact ⟨rfl, rfl⟩
 ·have HC := Lib.hid hc
  have H0 := Lib.hid h0; clear hc h0; go_enter Tryz.func122, Tryz.ntmps122; go_wp2_with fail
  go_loop [3] (fun i => ∃ k : Nat, k ≤ zs.length ∧ i = .int .i64 k ∧ Hid (∀ j, j < k → 0 ≤ zs.getD j 0 ∧ zs.getD j 0 ≤ 1000)) (fun i => zs.length - (intOf i).toNat)
  case atStart => exact ⟨0, Nat.zero_le _, rfl, fun j hj => by omega⟩
  case round =>
   obtain ⟨k, hk, rfl, HA⟩ := hrel
   by_cases hlt : k < zs.length
   ·have hc := HC.out k hlt
    have hno := allB_no (most := 1000) hlt
    have hyes : 0 ≤ zs.getD k 0 → zs.getD k 0 ≤ 1000 → ∀ j, j < k + 1 → 0 ≤ zs.getD j 0 ∧ zs.getD j 0 ≤ 1000 := fun h0 h1 j hj => by
     by_cases hjk : j = k
     ·subst hjk; exact ⟨h0, h1⟩
     ·exact HA.out j (by omega)
    generalize zs.getD k 0 = z at hc hno hyes; have HN := Lib.hid hno; have HY := Lib.hid hyes; clear hno hyes
    by_cases zb : z < 0 ∨ 1000 < z
    ·have HNN := Lib.hid (vw_no1 (HN.out zb))
     go_wp2_with fail; refine (inRange_no z 0 1000 _ zb).mono ?_; rintro e w' ⟨rfl, rfl⟩; go_wp2_with fail; go_ret; exact ⟨ret_bool HNN.out.symm, rfl⟩
    ·go_wp2_with fail
     refine (inRange_yes z 0 1000 _ (by omega) (by omega)).mono ?_; rintro e w' ⟨rfl, rfl⟩; go_wp2_with fail
     go_round
     case rel => exact ⟨k + 1, by omega, by go_num, HY.out (by omega) (by omega)⟩
     case measure => simp [intOf]; omega
   ·have hall := allB_yes (most := 1000) (fun j hj => HA.out j (by omega))
    have HL := Lib.hid hall; clear hall
    by_cases h12 : 12 < zs.length
    ·go_wp2_with fail
     go_ret; exact ⟨ret_bool (vw_no2 h12).symm, rfl⟩
    ·have HS := Lib.hid (vw_sum HL.out (by omega))
     go_wp2_with fail; refine (stotal _ cap zs _ H0.out (by omega) (all_bd HL.out (by omega))).mono ?_; rintro e w' ⟨rfl, rfl⟩; go_wp2_with fail; go_ret; exact ⟨ret_bool HS.out.symm, rfl⟩
theorem iVW (a : Option Addr) (cap : Nat) (zs : List Int) (w : World) (h : IsInts w a zs) (hn : zs.length ≤ 1048576) :
    Calls Tryz.prog 108 #[.slice a zs.length cap] w fun e w' => e = .returned (.bool (vwB zs)) ∧ w = w' := by
  by_cases h1 : zs.length < 1
  · have hz : zs = [] := List.eq_nil_of_length_eq_zero (by omega)
    subst hz; go_enter Tryz.func108, Tryz.ntmps108; go_wp2_with fail; go_ret; exact ⟨rfl, rfl⟩
  · have h1' : ¬ (zs.length : Int) < 1 := by omega
    by_cases h2 : 12 < zs.length
    · have h2' : (12 : Int) < (zs.length : Int) := by omega
      go_enter Tryz.func108, Tryz.ntmps108; go_wp2_with fail; go_ret; exact ⟨ret_bool (vw_no2 h2).symm, rfl⟩
    · have h2' : ¬ (12 : Int) < (zs.length : Int) := by omega
      cases hall : allB zs 1000 with
      | false =>
        have HN := Lib.hid (vw_no1 hall); go_enter Tryz.func108, Tryz.ntmps108; go_wp2_with fail; refine (iall a cap zs 1000 _ h hn).mono ?_; rintro e w' ⟨rfl, rfl⟩; go_wp2_with fail; go_ret; exact ⟨ret_bool HN.out.symm, rfl⟩
      | true =>
        have HS := Lib.hid (vw_sum hall (by omega)); have HZ := Lib.hid (all_bd hall (by omega)); go_enter Tryz.func108, Tryz.ntmps108; go_wp2_with fail; refine (iall a cap zs 1000 _ h hn).mono ?_; rintro e w' ⟨rfl, rfl⟩; go_wp2_with fail; refine (isum a cap zs _ h hn HZ.out).mono ?_; rintro e w' ⟨rfl, rfl⟩; go_wp2_with fail; go_ret; exact ⟨ret_bool HS.out.symm, rfl⟩
def csB (n : Int) (ws : List Int) : Bool := decide (0 ≤ n) && decide (n ≤ 500) && vwB ws
theorem cs_no1 {n : Int} (ws : List Int) (h : n < 0 ∨ 500 < n) : csB n ws = false := by
 unfold csB
 rcases h with h | h
 ·rw [decide_eq_false (by omega : ¬ 0 ≤ n)]; rfl
 ·rw [decide_eq_false (by omega : ¬ n ≤ 500)]; simp
theorem cs_is {n : Int} {ws : List Int} (h : 0 ≤ n ∧ n ≤ 500) : csB n ws = vwB ws := by unfold csB; rw [decide_eq_true h.1, decide_eq_true h.2]; rfl
theorem cs_yes {n : Int} {ws : List Int} (h : csB n ws = true) : (0 ≤ n ∧ n ≤ 500) ∧ vwB ws = true := by
 unfold csB at h; simp only [Bool.and_eq_true, decide_eq_true_eq] at h; exact h
theorem icanSplit (n : Int) (a : Option Addr) (cap : Nat) (ws : List Int) (w : World) (h : IsInts w a ws) (hn : ws.length ≤ 1048576) :
  Calls Tryz.prog 137 #[.int .i64 n, .slice a ws.length cap] w fun e w' => e = .returned (.bool (csB n ws)) ∧ w = w' := by
 by_cases h1 : n < 0
 ·go_enter Tryz.func137, Tryz.ntmps137
  go_wp2_with fail; go_ret; exact ⟨ret_bool (cs_no1 ws (by omega)).symm, rfl⟩
 ·by_cases h2 : 500 < n
  ·have h3 : decide (n ≤ 500) = false := by simp; omega
   go_enter Tryz.func137, Tryz.ntmps137; go_wp2_with fail; go_ret; exact ⟨ret_bool (cs_no1 ws (by omega)).symm, rfl⟩
  ·have HC := Lib.hid (cs_is (n := n) (ws := ws) (by omega))
   go_enter Tryz.func137, Tryz.ntmps137; go_wp2_with fail; refine (iVW a cap ws _ h hn).mono ?_; rintro e w' ⟨rfl, rfl⟩; go_wp2_with fail; go_ret; exact ⟨ret_bool HC.out.symm, rfl⟩
theorem svalidSplit (n : Int) (a : Option Addr) (cap : Nat) (ws : List Int) (w : World) (h : IsInts w a ws) (hn : ws.length ≤ 1048576) :
  Calls Tryz.prog 93 #[.int .i64 n, .slice a ws.length cap] w fun e w' => e = .returned (.bool (csB n ws)) ∧ w = w' := by
 by_cases h1 : n < 0 ∨ 500 < n
 ·go_enter Tryz.func93, Tryz.ntmps93
  go_wp2_with fail; refine (inRange_no n 0 500 _ h1).mono ?_; rintro e w' ⟨rfl, rfl⟩; go_wp2_with fail; go_ret; exact ⟨ret_bool (cs_no1 ws h1).symm, rfl⟩
 ·have HC := Lib.hid (cs_is (n := n) (ws := ws) (by omega))
  go_enter Tryz.func93, Tryz.ntmps93; go_wp2_with fail; refine (inRange_yes n 0 500 _ (by omega) (by omega)).mono ?_; rintro e w' ⟨rfl, rfl⟩; go_wp2_with fail; refine (svw a cap ws _ h hn).mono ?_; rintro e w' ⟨rfl, rfl⟩; go_wp2_with fail; go_ret; exact ⟨ret_bool HC.out.symm, rfl⟩
def qs (n : Int) (ws : List Int) : List Int := ws.map fun z => n * z / ws.sum
theorem qs_len (n : Int) (ws : List Int) : (qs n ws).length = ws.length := by unfold qs; simp
theorem qs_get (n : Int) (ws : List Int) {k : Nat} (h : k < ws.length) : (qs n ws).getD k 0 = n * ws.getD k 0 / ws.sum := by
 unfold qs; rw [List.getD_eq_getElem?_getD, List.getD_eq_getElem?_getD, List.getElem?_map, List.getElem?_eq_getElem h]; rfl
theorem q_bd {n : Int} {ws : List Int} (h : csB n ws = true) {k : Nat} (hk : k < ws.length) : 0 ≤ ws.getD k 0 ∧ ws.getD k 0 ≤ 1000 ∧ 0 ≤ n * ws.getD k 0 ∧ n * ws.getD k 0 ≤ 500000 := by
 obtain ⟨⟨a, b⟩, c⟩ := cs_yes h; have e := (allB_iff ws 1000).1 (vw_is c).1 _ (getD_mem hk); exact ⟨e.1, e.2, Int.mul_nonneg a e.1, Int.le_trans (Int.mul_le_mul b e.2 e.1 (by omega)) (by omega)⟩
theorem ws_bd {ws : List Int} (h : vwB ws = true) : 1 ≤ ws.sum ∧ ws.sum ≤ 12000000 := by
 obtain ⟨a, b, c⟩ := vw_is h; have := sum_bd ws (all_bd a (by omega)) ws.length (Nat.le_refl _); rw [List.take_of_length_le (Nat.le_refl _)] at this
 omega
def Quot (w : World) (n : Int) (ws : List Int) (e : Ending) (w' : World) : Prop := ∃ g : Nat, e = .returned (.slice (some ⟨g, 0, none⟩) ws.length ws.length) ∧ w.heap.size ≤ g ∧ Row w' g (qs n ws) ∧ Below w.heap.size w w'
theorem iquot (n : Int) (a : Option Addr) (cap : Nat) (ws : List Int) (w : World) (h : IsInts w a ws) (hn : ws.length ≤ 1048576) (hcs : csB n ws = true) :
  Calls Tryz.prog 138 #[.int .i64 n, .slice a ws.length cap] w (Quot w n ws) := by
 obtain ⟨⟨n0, n1⟩, hv⟩ := cs_yes hcs; have h0 := h
 rcases h with rfl | ⟨g, o, rfl, hc⟩
 ·exact absurd (vw_is hv).2.2 (by simp)
 ·have hmk := run_make_row' (P := Tryz.prog) 32 3 (.int .i64 0) 8 Tryz.underlying32 infoInt rfl .i64 .i64 ws.length (by omega) (by omega)
  obtain ⟨s0, s1⟩ := ws_bd hv; have HZ := Lib.hid (all_bd (vw_is hv).1 (by omega)); have HC := Lib.hid hc; have HK := Lib.hid hcs; clear hc hv; go_enter Tryz.func138, Tryz.ntmps138; go_wp2_with fail; refine (icanSplit n _ cap ws _ h0 hn).mono ?_; rintro e w' ⟨rfl, rfl⟩; go_wp2_with fail; refine (isum _ cap ws _ h0 hn HZ.out).mono ?_; rintro e w' ⟨rfl, rfl⟩; go_wp2_with fail; clear hmk hcs
  go_loopw [20] (fun i wr => ∃ k : Nat, k ≤ ws.length ∧ i = .int .i64 k ∧ wr.rowIs w.heap.size 3 ws.length (fun j => if j < k then .int .i64 ((qs n ws).getD j 0) else .int .i64 0) ∧ Below w.heap.size w wr) (fun i _ => ws.length - (intOf i).toNat)
  case atStart => exact ⟨0, Nat.zero_le _, rfl, (World.rowIs_made w (.int .i64 0) ws.length _).congr (fun i hi => by simp), by go_grown⟩
  case round =>
   obtain ⟨k, hk, rfl, hrow, hB⟩ := hrel
   by_cases hlt : k < ws.length
   ·have hc0 := HC.out k hlt
    have hc := (hB.cell (p := ⟨g, o + k, none⟩) (World.block_lt_of_cell? w _ hc0)).trans hc0
    have hd : wr.cell? ⟨w.heap.size, k, none⟩ = some (.int .i64 0) := by rw [hrow.cell hlt, if_neg (Nat.lt_irrefl k)]
    have hf := hrow.frozen k
    have hcon : ∀ z : Int, (qs n ws).getD k 0 = z → (wr.setCell ⟨w.heap.size, k, none⟩ (.int .i64 z)).rowIs w.heap.size 3 ws.length (fun j => if j < k + 1 then .int .i64 ((qs n ws).getD j 0) else .int .i64 0) := fun z hz =>
     (hrow.set k (.int .i64 z)).congr (fun j hj => by
      show (if j = k then Value.int .i64 z else if j < k then .int .i64 ((qs n ws).getD j 0) else .int .i64 0) = _
      by_cases hjk : j = k
      ·subst hjk; rw [if_pos rfl, if_pos (by omega), hz]
      ·rw [if_neg hjk]
       by_cases hl : j < k
       ·rw [if_pos hl, if_pos (by omega)]
       ·rw [if_neg hl, if_neg (by omega)])
    have hcon2 := hcon _ (qs_get n ws hlt); obtain ⟨z0, z1, z2, z3⟩ := q_bd HK.out hlt; clear hcon hc0; generalize ws.getD k 0 = z at hc hcon2 z0 z1 z2 z3; have HR := Lib.hid hcon2; have HB := Lib.hid hB; clear hcon2 hrow hB
    go_wp2
    go_roundw
    case rel => exact ⟨k + 1, by omega, by go_num, HR.out, HB.out.setCell (Nat.le_refl _) _⟩
    case measure => simp [intOf]; omega
   ·have HR := Lib.hid hrow
    have HB := Lib.hid hB; clear hrow hB
    go_wp2
    go_ret; refine ⟨_, rfl, Nat.le_refl _, ?_, HB.out⟩; have e : (qs n ws).length = ws.length := qs_len n ws; unfold Row; rw [e]; exact HR.out.congr (fun i hi => by rw [if_pos (by omega)])
def QuotO (w : World) (n : Int) (ws : List Int) (e : Ending) (w' : World) : Prop := ∃ v, e = .returned v ∧ w'.ownsRow w.heap.size 3 1 v ws.length ((qs n ws).map (Value.int .i64)) ∧ Below w.heap.size w w'
theorem squotasO (n : Int) (a : Option Addr) (cap : Nat) (ws : List Int) (w : World) (h : IsInts w a ws) (hn : ws.length ≤ 1048576) (hcs : csB n ws = true) :
  Calls Tryz.prog 123 #[.int .i64 n, .slice a ws.length cap] w (QuotO w n ws) := by
 obtain ⟨⟨n0, n1⟩, hv⟩ := cs_yes hcs; have h0 := h
 rcases h with rfl | ⟨g, o, rfl, hc⟩
 ·exact absurd (vw_is hv).2.2 (by simp)
 ·obtain ⟨s0, s1⟩ := ws_bd hv
  obtain ⟨i0, hi, hz0, hz1, hz2⟩ := info_parts infoInt; have HZ := Lib.hid (all_bd (vw_is hv).1 (by omega)); have HC := Lib.hid hc; have HK := Lib.hid hcs; have H0 := Lib.hid h0; clear hc hv hcs h0; go_enter Tryz.func123, Tryz.ntmps123; go_wp2_with fail; refine (stotal _ cap ws _ (ints_below H0.out (by go_grown)) hn HZ.out).mono ?_; rintro e w' ⟨rfl, rfl⟩; go_wp2_with fail
  go_loopw [5, 7] (fun v i wr => ∃ k : Nat, k ≤ ws.length ∧ i = .int .i64 k ∧ wr.ownsRow w.heap.size 3 1 v k (((qs n ws).take k).map (Value.int .i64)) ∧ Below w.heap.size w wr) (fun _ i _ => ws.length - (intOf i).toNat)
  case atStart => exact ⟨0, Nat.zero_le _, rfl, ⟨by simp, .inr ⟨w.heap.size, 0, #[], rfl, Nat.le_refl _, Go.Deep.blk_alloc_new _ _, Nat.le_refl _, by unfold maxLen; omega, rfl, rfl⟩⟩, by go_grown⟩
  case round =>
   obtain ⟨k, hk, rfl, hown, hB⟩ := hrel; have hsz := hB.size
   by_cases hlt : k < ws.length
   ·have hc0 := HC.out k hlt
    have hc := (hB.cell (p := ⟨g, o + k, none⟩) (World.block_lt_of_cell? w _ hc0)).trans hc0; obtain ⟨z0, z1, z2, z3⟩ := q_bd HK.out hlt; have ht := take_map (qs n ws) k (by rw [qs_len]; exact hlt); rw [qs_get n ws hlt] at ht; clear hc0; generalize ws.getD k 0 = z at hc z0 z1 z2 z3 ht; have HT := Lib.hid ht; clear ht
    go_wp2_with (first | (at_builtin; refine wpList_append_own _ rfl _ _ 32 rfl w.heap.size 3 i0 (.int .i64 0) 1 8 Tryz.underlying32 hi hz0 hz1 hz2 rfl (by decide) _ _ _ rfl (hown.alloc _) ⟨wr.heap.size, 0, none⟩ 1 1 [.int .i64 (n * z / ws.sum)] rfl rfl (cell_one_new _ _ _) (fun x hx => by simp at hx; subst hx; rfl) (by unfold maxLen; omega) (by omega) (by simp; omega) ?_; intro v' w3 hown' hgrow3 hnil3))
    have HR : Hid (w3.ownsRow w.heap.size 3 1 v' (k + 1) (((qs n ws).take (k + 1)).map (Value.int .i64)) ∧ Below w.heap.size w w3) := ⟨by rw [HT.out]; exact hown', (hB.alloc hsz _).grown hgrow3 (by simp; omega) (fun q hq => (hown.lt q hq).1)⟩
    clear hown hown' hgrow3 hnil3 hB
    go_roundw
    case rel => exact ⟨k + 1, by omega, by go_num, HR.out.1, HR.out.2⟩
    case measure => simp [intOf]; omega
   ·have HW := Lib.hid hown
    have HB := Lib.hid hB; clear hown hB; go_wp2_with fail; go_ret; have hl := qs_len n ws; have ho := HW.out; rw [List.take_of_length_le (by omega), show k = (qs n ws).length from by omega] at ho; rw [hl] at ho; exact ⟨_, rfl, ho, HB.out⟩
theorem getD_set (l : List Int) (b : Nat) (v : Int) (hb : b < l.length) (i : Nat) : (l.set b v).getD i 0 = if i = b then v else l.getD i 0 := by
 rw [List.getD_eq_getElem?_getD, List.getElem?_set, List.getD_eq_getElem?_getD]
 by_cases h : i = b
 ·subst h; simp [hb]
 ·rw [if_neg (fun e => h e.symm), if_neg h]
theorem sum_set (l : List Int) : ∀ (b : Nat) (v : Int), b < l.length → (l.set b v).sum = l.sum - l.getD b 0 + v := by
  induction l with
  | nil => intro b v h; simp at h
  | cons x l ih =>
    intro b v h
    cases b with
    | zero => simp; omega
    | succ b =>
      have := ih b v (by simpa using h)
      simp at this ⊢
      omega
def pickB (R : Nat → Nat → Bool) : Nat → Nat
 | 0 => 0
 | k + 1 => if R k (pickB R k) then k else pickB R k
theorem pickB_succ (R : Nat → Nat → Bool) (k : Nat) : pickB R (k + 1) = if R k (pickB R k) then k else pickB R k := rfl
theorem pickB_lt (R : Nat → Nat → Bool) (k : Nat) : pickB R (k + 1) < k + 1 := by
 induction k with
 | zero => rw [pickB_succ]; split <;> simp [pickB]
 | succ k ih => rw [pickB_succ]; split <;> omega
theorem pickB_lt' {R : Nat → Nat → Bool} {k : Nat} (h : 0 < k) : pickB R k < k := by
 obtain ⟨j, rfl⟩ : ∃ j, k = j + 1 := ⟨k - 1, by omega⟩
 exact pickB_lt R j
theorem pickB_max (R : Nat → Nat → Bool) (ge : Nat → Nat → Prop) (refl : ∀ i, ge i i) (hn : ∀ i b, R i b = false → ge b i) (ht : ∀ i b c, R i b = true → ge b c → ge i c) : ∀ k i, i < k → ge (pickB R k) i := by
  intro k
  induction k with
  | zero => intro i h; omega
  | succ k ih =>
    intro i h; rw [pickB_succ]
    cases hR : R k (pickB R k) with
    | true =>
      simp only [if_true]
      by_cases e : i = k
      · subst e; exact refl _
      · exact ht _ _ _ hR (ih i (by omega))
    | false =>
      simp only [Bool.false_eq_true, if_false]
      by_cases e : i = k
      · subst e; exact hn _ _ hR
      · exact ih i (by omega)
def pickS (ok : Nat → Bool) (R : Nat → Nat → Bool) : Nat → Int
 | 0 => -1
 | k + 1 => if ok k && (decide (pickS ok R k < 0) || R k (pickS ok R k).toNat) then k else pickS ok R k
theorem pickS_is (ok : Nat → Bool) (R : Nat → Nat → Bool) (n : Nat) (h1 : ∀ i b, i < n → b < n → ok i = true → ok b = false → R i b = true) (h2 : ∀ i b, i < n → b < n → ok i = false → R i b = false) :
    ∀ k, k ≤ n → (pickS ok R k = -1 ∧ pickB R k = 0 ∧ ∀ j, j < k → ok j = false) ∨ (pickS ok R k = (pickB R k : Nat) ∧ ok (pickB R k) = true ∧ pickB R k < k) := by
  intro k
  induction k with
  | zero => intro _; exact .inl ⟨rfl, rfl, fun j h => by omega⟩
  | succ k ih =>
    intro hk; rw [pickB_succ]
    show ((if ok k && (decide (pickS ok R k < 0) || R k (pickS ok R k).toNat) then (k : Int) else pickS ok R k) = -1 ∧ _ ∧ _) ∨ ((if ok k && (decide (pickS ok R k < 0) || R k (pickS ok R k).toNat) then (k : Int) else pickS ok R k) = _ ∧ _ ∧ _)
    rcases ih (by omega) with ⟨a, b, c⟩ | ⟨a, b, c⟩
    · rw [a, b]
      cases ho : ok k with
      | true =>
        right
        by_cases h0 : k = 0
        · subst h0; simp [ho]
        · rw [h1 k 0 (by omega) (by omega) ho (c 0 (by omega))]; simp [ho]
      | false =>
        left
        rw [h2 k 0 (by omega) (by omega) ho]; refine ⟨by simp, by simp, fun j hj => ?_⟩
        by_cases e : j = k
        · subst e; exact ho
        · exact c j (by omega)
    · right
      rw [a]
      have e : decide (((pickB R k : Nat) : Int) < 0) = false := by simp
      rw [e, Int.toNat_natCast]
      cases ho : ok k with
      | true =>
        cases hR : R k (pickB R k) with
        | true => simp [ho]
        | false => simp [b]; omega
      | false =>
        rw [h2 k _ (by omega) (by omega) ho]
        simp [b]; omega
def rsts (n : Int) (ws : List Int) : List Int := ws.map fun z => n * z % ws.sum
theorem rsts_len (n : Int) (ws : List Int) : (rsts n ws).length = ws.length := by unfold rsts; simp
theorem rsts_get (n : Int) (ws : List Int) {k : Nat} (h : k < ws.length) : (rsts n ws).getD k 0 = n * ws.getD k 0 % ws.sum := by
 unfold rsts; rw [List.getD_eq_getElem?_getD, List.getD_eq_getElem?_getD, List.getElem?_map, List.getElem?_eq_getElem h]; rfl
theorem sum_parts (n S : Int) : ∀ ws : List Int, n * ws.sum = S * (ws.map fun z => n * z / S).sum + (ws.map fun z => n * z % S).sum := by
  intro ws
  induction ws with
  | nil => simp
  | cons x l ih =>
    simp only [List.map_cons, List.sum_cons, Int.mul_add]; have := Int.mul_ediv_add_emod (n * x) S
    omega
theorem qr_sum (n : Int) (ws : List Int) : n * ws.sum = ws.sum * (qs n ws).sum + (rsts n ws).sum := sum_parts n ws.sum ws
def moreB (l : List Int) (i b : Nat) : Bool := decide (l.getD i 0 > l.getD b 0)
def stepR (s : List Int × List Int) : List Int × List Int :=
 (s.1.set (pickB (moreB s.2) s.2.length) (s.1.getD (pickB (moreB s.2) s.2.length) 0 + 1), s.2.set (pickB (moreB s.2) s.2.length) (-1))
def restTo (n : Int) (ws : List Int) : Nat → List Int × List Int
 | 0 => (qs n ws, rsts n ws)
 | j + 1 => stepR (restTo n ws j)
theorem restTo_len (n : Int) (ws : List Int) : ∀ j, (restTo n ws j).1.length = ws.length ∧ (restTo n ws j).2.length = ws.length := by
 intro j
 induction j with
 | zero => exact ⟨qs_len n ws, rsts_len n ws⟩
 | succ j ih => exact ⟨by show (List.set _ _ _).length = _; simp [ih.1], by show (List.set _ _ _).length = _; simp [ih.2]⟩
theorem moreB_max (l : List Int) {i : Nat} (h : i < l.length) : l.getD i 0 ≤ l.getD (pickB (moreB l) l.length) 0 := by
 refine pickB_max (moreB l) (fun b i => l.getD i 0 ≤ l.getD b 0) (fun i => Int.le_refl _) (fun i b h => ?_) (fun i b c h h' => ?_) l.length i h
 ·unfold moreB at h; simp only [decide_eq_false_iff_not] at h; omega
 ·unfold moreB at h; simp only [decide_eq_true_eq] at h; omega
def leftOf (n : Int) (ws : List Int) : Nat := (n - (qs n ws).sum).toNat
def sr (n : Int) (ws : List Int) : List Int := (restTo n ws (leftOf n ws)).1
theorem sr_len (n : Int) (ws : List Int) : (sr n ws).length = ws.length := (restTo_len n ws _).1
def posS (l : List Int) : Int := (l.map fun z => if z < 0 then 0 else z).sum
theorem posS_pos {l : List Int} (h : 0 < posS l) : ∃ i, i < l.length ∧ 0 < l.getD i 0 := by
  unfold posS at h
  induction l with
  | nil => simp at h
  | cons x l ih =>
    by_cases hx : 0 < x
    · exact ⟨0, by simp, by simpa using hx⟩
    · simp only [List.map_cons, List.sum_cons] at h
      obtain ⟨i, hi, hg⟩ := ih (by split at h <;> omega); exact ⟨i + 1, by simpa using hi, by simpa using hg⟩
theorem posS_set {l : List Int} {b : Nat} (h : b < l.length) (h0 : 0 ≤ l.getD b 0) : posS (l.set b (-1)) = posS l - l.getD b 0 := by
 unfold posS; rw [List.map_set, sum_set _ _ _ (by simpa using h)]
 have e : (l.map fun z => if z < 0 then 0 else z).getD b 0 = l.getD b 0 := by
  rw [List.getD_eq_getElem?_getD, List.getElem?_map, List.getElem?_eq_getElem h]; rw [List.getD_eq_getElem?_getD, List.getElem?_eq_getElem h] at h0 ⊢
  simp at h0 ⊢; omega
 rw [e]; simp
theorem posS_all {l : List Int} (h : ∀ i, i < l.length → 0 ≤ l.getD i 0) : posS l = l.sum := by
  unfold posS
  induction l with
  | nil => rfl
  | cons x l ih =>
    have h0 := h 0 (by simp); have := ih (fun i hi => by simpa using h (i + 1) (by simpa using hi)); simp only [List.getD_cons_zero] at h0; simp only [List.map_cons, List.sum_cons, this, if_neg (by omega : ¬ x < 0)]
structure Rest (n : Int) (ws : List Int) (j : Nat) : Prop where
 each : ∀ i, i < ws.length → ((restTo n ws j).1.getD i 0 = (qs n ws).getD i 0 ∧ (restTo n ws j).2.getD i 0 = (rsts n ws).getD i 0) ∨ ((restTo n ws j).1.getD i 0 = (qs n ws).getD i 0 + 1 ∧ (restTo n ws j).2.getD i 0 = -1 ∧ 0 < (rsts n ws).getD i 0)
 order : ∀ i k, i < ws.length → k < ws.length → (restTo n ws j).2.getD i 0 = -1 → (restTo n ws j).2.getD k 0 ≠ -1 → (rsts n ws).getD k 0 ≤ (rsts n ws).getD i 0
 sum : (restTo n ws j).1.sum = (qs n ws).sum + j
 pos : ws.sum * ((leftOf n ws : Int) - j) ≤ posS (restTo n ws j).2
theorem rsts_bd {n : Int} {ws : List Int} (hcs : csB n ws = true) {i : Nat} (hi : i < ws.length) : 0 ≤ (rsts n ws).getD i 0 ∧ (rsts n ws).getD i 0 < ws.sum ∧ ws.sum ≤ 12000000 := by
 obtain ⟨s0, s1⟩ := ws_bd (cs_yes hcs).2; rw [rsts_get n ws hi]; exact ⟨Int.emod_nonneg _ (by omega), Int.emod_lt_of_pos _ (by omega), s1⟩
theorem list_nonneg {l : List Int} (h : ∀ i, i < l.length → 0 ≤ l.getD i 0) : 0 ≤ l.sum := by
  induction l with
  | nil => simp
  | cons x l ih =>
    have h0 := h 0 (by simp); have := ih (fun i hi => by simpa using h (i + 1) (by simpa using hi)); simp only [List.getD_cons_zero] at h0; rw [List.sum_cons]; omega
theorem q_sum {n : Int} {ws : List Int} (hcs : csB n ws = true) : 0 ≤ (qs n ws).sum ∧ (qs n ws).sum ≤ n := by
 obtain ⟨s0, s1⟩ := ws_bd (cs_yes hcs).2
 have hq : 0 ≤ (qs n ws).sum := list_nonneg (fun i hi => by
  rw [qs_len] at hi; rw [qs_get n ws hi]
  exact Int.ediv_nonneg (q_bd hcs hi).2.2.1 (by omega))
 have hr : 0 ≤ (rsts n ws).sum := list_nonneg (fun i hi => by rw [rsts_len] at hi; exact (rsts_bd hcs hi).1); have e := qr_sum n ws; refine ⟨hq, ?_⟩
 have : ws.sum * (qs n ws).sum ≤ ws.sum * n := by rw [Int.mul_comm ws.sum n]; omega
 exact Int.le_of_mul_le_mul_left this (by omega)
theorem left_is {n : Int} {ws : List Int} (hcs : csB n ws = true) : (leftOf n ws : Int) = n - (qs n ws).sum := by
 have := q_sum hcs; unfold leftOf; omega
theorem q_le {n : Int} {ws : List Int} (hcs : csB n ws = true) {i : Nat} (hi : i < ws.length) : 0 ≤ (qs n ws).getD i 0 ∧ (qs n ws).getD i 0 ≤ 500000 := by
 obtain ⟨s0, s1⟩ := ws_bd (cs_yes hcs).2; obtain ⟨a, b, c, d⟩ := q_bd hcs hi; rw [qs_get n ws hi]; exact ⟨Int.ediv_nonneg c (by omega), Int.le_trans (Int.ediv_le_self _ c) d⟩
theorem ws_ne {ws : List Int} (h : vwB ws = true) : 0 < ws.length := by
 have := (ws_bd h).1
 cases ws with
 | nil => simp at this
 | cons x l => simp
theorem rest_best {n : Int} {ws : List Int} (hcs : csB n ws = true) {j : Nat} (h : Rest n ws j) (hj : j < leftOf n ws) :
  pickB (moreB (restTo n ws j).2) ws.length < ws.length ∧ 0 < (restTo n ws j).2.getD (pickB (moreB (restTo n ws j).2) ws.length) 0 := by
 obtain ⟨s0, s1⟩ := ws_bd (cs_yes hcs).2; have hl := (restTo_len n ws j).2; have hp := h.pos
 have : 0 < posS (restTo n ws j).2 := by
  have : ws.sum * 1 ≤ ws.sum * ((leftOf n ws : Int) - j) := Int.mul_le_mul_of_nonneg_left (by omega) (by omega)
  omega
 obtain ⟨i, hi, hg⟩ := posS_pos this; have hm := moreB_max _ hi; rw [hl] at hm; exact ⟨pickB_lt' (by omega), by omega⟩
theorem restTo_succ1 (n : Int) (ws : List Int) (j : Nat) : (restTo n ws (j + 1)).1 = (restTo n ws j).1.set (pickB (moreB (restTo n ws j).2) ws.length) ((restTo n ws j).1.getD (pickB (moreB (restTo n ws j).2) ws.length) 0 + 1) := by
 show (stepR (restTo n ws j)).1 = _
 unfold stepR; rw [(restTo_len n ws j).2]
theorem restTo_succ2 (n : Int) (ws : List Int) (j : Nat) : (restTo n ws (j + 1)).2 = (restTo n ws j).2.set (pickB (moreB (restTo n ws j).2) ws.length) (-1) := by
 show (stepR (restTo n ws j)).2 = _
 unfold stepR; rw [(restTo_len n ws j).2]
theorem rest_is {n : Int} {ws : List Int} (hcs : csB n ws = true) : ∀ j, j ≤ leftOf n ws → Rest n ws j := by
  obtain ⟨s0, s1⟩ := ws_bd (cs_yes hcs).2; intro j
  induction j with
  | zero =>
    intro _; refine ⟨fun i hi => .inl ⟨rfl, rfl⟩, fun i k hi hk h => ?_, by simp [restTo], ?_⟩
    · have : (rsts n ws).getD i 0 = -1 := h
      have := rsts_bd hcs hi
      omega
    · show _ ≤ posS (rsts n ws)
      rw [posS_all (fun i hi => by rw [rsts_len] at hi; exact (rsts_bd hcs hi).1), left_is hcs]; have := qr_sum n ws; rw [Int.mul_comm n] at this; simp only [Int.mul_sub, Int.natCast_zero, Int.mul_zero]
      omega
  | succ j ih =>
    intro hj; have H := ih (by omega); obtain ⟨hb, hpos⟩ := rest_best hcs H (by omega); obtain ⟨l1, l2⟩ := restTo_len n ws j
    have hmax := fun i (hi : i < ws.length) => moreB_max (restTo n ws j).2 (i := i) (by omega)
    rw [l2] at hmax; have e1 := restTo_succ1 n ws j; have e2 := restTo_succ2 n ws j; generalize pickB (moreB (restTo n ws j).2) ws.length = b at hb hpos hmax e1 e2
    have g1 := fun i => getD_set (restTo n ws j).1 b ((restTo n ws j).1.getD b 0 + 1) (by omega) i
    have g2 := fun i => getD_set (restTo n ws j).2 b (-1) (by omega) i
    rw [← e1] at g1; rw [← e2] at g2
    have hbe : (restTo n ws j).1.getD b 0 = (qs n ws).getD b 0 ∧ (restTo n ws j).2.getD b 0 = (rsts n ws).getD b 0 := by
      rcases H.each b hb with h | h
      · exact h
      · omega
    refine ⟨fun i hi => ?_, fun i k hi hk h1 h2 => ?_, ?_, ?_⟩
    · rw [g1 i, g2 i]
      by_cases e : i = b
      · subst e; rw [if_pos rfl, if_pos rfl]; right; refine ⟨by omega, rfl, by omega⟩
      · rw [if_neg e, if_neg e]; exact H.each i hi
    · rw [g2 i] at h1
      rw [g2 k] at h2
      have ek : k ≠ b := fun e => h2 (by rw [if_pos e])
      rw [if_neg ek] at h2
      have hk' : (restTo n ws j).2.getD k 0 = (rsts n ws).getD k 0 := by
        rcases H.each k hk with h | h
        · exact h.2
        · exact absurd h.2.1 h2
      by_cases e : i = b
      · subst e; have := hmax k hk; omega
      · rw [if_neg e] at h1; exact H.order i k hi hk h1 h2
    · rw [e1, sum_set _ _ _ (by omega), H.sum]; simp; omega
    · rw [e2, posS_set (by omega) (by omega)]
      have hp := H.pos; have hr := (rsts_bd hcs hb).2.1
      have e : ws.sum * ((leftOf n ws : Int) - (j + 1 : Nat)) = ws.sum * ((leftOf n ws : Int) - j) - ws.sum := by
        rw [show ((leftOf n ws : Int) - (j + 1 : Nat)) = ((leftOf n ws : Int) - j) - 1 by omega, Int.mul_sub]; omega
      rw [e]; omega
def avgB (step : Int) (ws gs : List Int) (i b : Nat) : Bool := decide (ws.getD i 0 * (step * gs.getD b 0 + 1) > ws.getD b 0 * (step * gs.getD i 0 + 1))
theorem avgB_true {step : Int} {ws gs : List Int} {i b : Nat} (h : avgB step ws gs i b = true) : ws.getD b 0 * (step * gs.getD i 0 + 1) < ws.getD i 0 * (step * gs.getD b 0 + 1) := by
 unfold avgB at h; simpa using h
theorem avgB_false {step : Int} {ws gs : List Int} {i b : Nat} (h : avgB step ws gs i b = false) : ws.getD i 0 * (step * gs.getD b 0 + 1) ≤ ws.getD b 0 * (step * gs.getD i 0 + 1) := by
 unfold avgB at h; simpa using h
def avgTo (step : Int) (ws : List Int) : Nat → List Int
 | 0 => List.replicate ws.length 0
 | j + 1 => (avgTo step ws j).set (pickB (avgB step ws (avgTo step ws j)) ws.length) ((avgTo step ws j).getD (pickB (avgB step ws (avgTo step ws j)) ws.length) 0 + 1)
theorem avgTo_succ (step : Int) (ws : List Int) (j : Nat) : avgTo step ws (j + 1) = (avgTo step ws j).set (pickB (avgB step ws (avgTo step ws j)) ws.length) ((avgTo step ws j).getD (pickB (avgB step ws (avgTo step ws j)) ws.length) 0 + 1) := rfl
theorem avgTo_len (step : Int) (ws : List Int) : ∀ j, (avgTo step ws j).length = ws.length := by
 intro j
 induction j with
 | zero => simp [avgTo]
 | succ j ih => rw [avgTo_succ]; simp [ih]
def sa (step n : Int) (ws : List Int) : List Int := avgTo step ws n.toNat
theorem sa_len (step n : Int) (ws : List Int) : (sa step n ws).length = ws.length := avgTo_len step ws _
structure Avg (step : Int) (ws : List Int) (j : Nat) : Prop where
 bd : ∀ i, i < ws.length → 0 ≤ (avgTo step ws j).getD i 0 ∧ (avgTo step ws j).getD i 0 ≤ j
 zero : ∀ i, i < ws.length → ws.getD i 0 = 0 → (avgTo step ws j).getD i 0 = 0
 sum : (avgTo step ws j).sum = j
theorem all_get {ws : List Int} (h : vwB ws = true) {i : Nat} (hi : i < ws.length) : 0 ≤ ws.getD i 0 ∧ ws.getD i 0 ≤ 1000 := (allB_iff ws 1000).1 (vw_is h).1 _ (getD_mem hi)
theorem pos_some {ws : List Int} (h : vwB ws = true) : ∃ i, i < ws.length ∧ 0 < ws.getD i 0 := by
 have e := posS_all (fun i hi => (all_get h (i := i) hi).1); exact posS_pos (by rw [e]; exact (ws_bd h).1)
theorem fac_bd {step g j : Int} (h : 1 ≤ step ∧ step ≤ 2) (hg : 0 ≤ g ∧ g ≤ j) (hj : j ≤ 1000) : 0 < step * g + 1 ∧ step * g + 1 ≤ 2001 := by
 have a := Int.mul_nonneg (a := step) (by omega) hg.1; have b : step * g ≤ 2 * 1000 := Int.mul_le_mul h.2 (by omega) hg.1 (by omega)
 omega
theorem avg_trans {x y z a b c : Int} (hy : 0 < b) (ha : 0 < a) (hc : 0 < c)(h1 : x * b ≥ y * a) (h2 : y * c ≥ z * b) : x * c ≥ z * a := by
 have k1 : y * a * c ≤ x * b * c := Int.mul_le_mul_of_nonneg_right h1 (by omega); have k2 : z * b * a ≤ y * c * a := Int.mul_le_mul_of_nonneg_right h2 (by omega)
 have k3 : z * a * b ≤ x * c * b := by
  rw [Int.mul_right_comm z a b, Int.mul_right_comm x c b]; rw [Int.mul_right_comm y c a] at k2
  omega
 exact Int.le_of_mul_le_mul_right k3 hy
theorem avg_max {step : Int} {ws : List Int} {j : Nat} (hv : vwB ws = true) (hs : 1 ≤ step ∧ step ≤ 2) (hj : j ≤ 1000) (H : Avg step ws j) {i : Nat} (hi : i < ws.length) :
    ws.getD i 0 * (step * (avgTo step ws j).getD (pickB (avgB step ws (avgTo step ws j)) ws.length) 0 + 1) ≤ ws.getD (pickB (avgB step ws (avgTo step ws j)) ws.length) 0 * (step * (avgTo step ws j).getD i 0 + 1) := by
  have hb := fun i (hi : i < ws.length) => fac_bd hs (H.bd i hi) (by omega)
  have hall := fun i (hi : i < ws.length) => all_get hv hi
  have key : ∀ k, k ≤ ws.length → ∀ i, i < k → ws.getD i 0 * (step * (avgTo step ws j).getD (pickB (avgB step ws (avgTo step ws j)) k) 0 + 1) ≤ ws.getD (pickB (avgB step ws (avgTo step ws j)) k) 0 * (step * (avgTo step ws j).getD i 0 + 1) := by
    intro k
    induction k with
    | zero => intro _ i h; omega
    | succ k ih =>
      intro hk i hik; rw [pickB_succ]
      cases hR : avgB step ws (avgTo step ws j) k (pickB (avgB step ws (avgTo step ws j)) k) with
      | true =>
        simp only [if_true]; have hR := avgB_true hR
        by_cases e : i = k
        · subst e; exact Int.le_refl _
        · have hp : pickB (avgB step ws (avgTo step ws j)) k < k := pickB_lt' (by omega)
          have := ih (by omega) i (by omega); exact avg_trans (hb _ (by omega)).1 (hb _ (by omega)).1 (hb _ (by omega)).1 (Int.le_of_lt hR) this
      | false =>
        simp only [Bool.false_eq_true, if_false]; have hR := avgB_false hR
        by_cases e : i = k
        · subst e; exact hR
        · exact ih (by omega) i (by omega)
  exact key ws.length (Nat.le_refl _) i hi
theorem avg_pos {step : Int} {ws : List Int} {j : Nat} (hv : vwB ws = true) (hs : 1 ≤ step ∧ step ≤ 2) (hj : j ≤ 1000) (H : Avg step ws j) :
  pickB (avgB step ws (avgTo step ws j)) ws.length < ws.length ∧ 0 < ws.getD (pickB (avgB step ws (avgTo step ws j)) ws.length) 0 := by
 have hp : pickB (avgB step ws (avgTo step ws j)) ws.length < ws.length := pickB_lt' (ws_ne hv); refine ⟨hp, ?_⟩; obtain ⟨i, hi, hw⟩ := pos_some hv; have hm := avg_max hv hs hj H hi; have h1 := (fac_bd hs (H.bd _ hp) (by omega)).1; have h2 := (fac_bd hs (H.bd _ hi) (by omega)).1; have h3 := Int.mul_pos hw h1
 by_cases h : 0 < ws.getD (pickB (avgB step ws (avgTo step ws j)) ws.length) 0
 ·exact h
 ·have : ws.getD (pickB (avgB step ws (avgTo step ws j)) ws.length) 0 = 0 := by have := (all_get hv hp).1; omega
  rw [this, Int.zero_mul] at hm; omega
theorem avg_is {step : Int} {ws : List Int} (hv : vwB ws = true) (hs : 1 ≤ step ∧ step ≤ 2) : ∀ j, j ≤ 1000 → Avg step ws j := by
  intro j
  induction j with
  | zero =>
    intro _
    have hz : ∀ i, (avgTo step ws 0).getD i 0 = 0 := fun i => by
      show (List.replicate ws.length (0 : Int)).getD i 0 = 0
      rw [List.getD_eq_getElem?_getD, List.getElem?_replicate]; split <;> rfl
    refine ⟨fun i hi => ?_, fun i hi _ => hz i, ?_⟩
    · rw [hz i]; omega
    · show (List.replicate ws.length (0 : Int)).sum = _
      simp
  | succ j ih =>
    intro hj; have H := ih (by omega); obtain ⟨hp, hw⟩ := avg_pos hv hs (by omega) H; have hl := avgTo_len step ws j; have e := avgTo_succ step ws j; generalize pickB (avgB step ws (avgTo step ws j)) ws.length = b at hp hw e
    have g1 := fun i => getD_set (avgTo step ws j) b ((avgTo step ws j).getD b 0 + 1) (by omega) i
    rw [← e] at g1; refine ⟨fun i hi => ?_, fun i hi h0 => ?_, ?_⟩
    · rw [g1 i]
      have hb := H.bd b hp; have hi' := H.bd i hi
      split <;> omega
    · rw [g1 i]
      by_cases eb : i = b
      · subst eb; omega
      · rw [if_neg eb]; exact H.zero i hi h0
    · rw [e, sum_set _ _ _ (by omega), H.sum]; simp; omega

theorem sr_each {n : Int} {ws : List Int} (hcs : csB n ws = true) {i : Nat} (hi : i < ws.length) :
  (qs n ws).getD i 0 ≤ (sr n ws).getD i 0 ∧ (sr n ws).getD i 0 ≤ (qs n ws).getD i 0 + 1 ∧ (ws.getD i 0 = 0 → (sr n ws).getD i 0 = 0) := by
 have H := rest_is hcs (leftOf n ws) (Nat.le_refl _); have he := H.each i hi
 have hz : ws.getD i 0 = 0 → (qs n ws).getD i 0 = 0 ∧ (rsts n ws).getD i 0 = 0 := fun e => by
  rw [qs_get n ws hi, rsts_get n ws hi, e]; simp
 unfold sr
 rcases he with ⟨a, b⟩ | ⟨a, b, c⟩
 ·exact ⟨by omega, by omega, fun e => by have := hz e; omega⟩
 ·exact ⟨by omega, by omega, fun e => by have := hz e; omega⟩
theorem sr_sum {n : Int} {ws : List Int} (hcs : csB n ws = true) : (sr n ws).sum = n := by
 have H := (rest_is hcs (leftOf n ws) (Nat.le_refl _)).sum; have := left_is hcs; unfold sr; omega
theorem q_le_n {n : Int} {ws : List Int} (hcs : csB n ws = true) {i : Nat} (hi : i < ws.length) : 0 ≤ (qs n ws).getD i 0 ∧ (qs n ws).getD i 0 ≤ n := by
 obtain ⟨s0, s1⟩ := ws_bd (cs_yes hcs).2; have hq := q_le hcs hi; have hw := all_get (cs_yes hcs).2 hi
 have hle : ws.getD i 0 ≤ ws.sum := by
  have := posS_all (l := ws) (fun i hi => (all_get (cs_yes hcs).2 hi).1); have h2 := posS_set (l := ws) hi hw.1
  have h3 : 0 ≤ posS (ws.set i (-1)) := by
   unfold posS; refine list_nonneg (fun j hj => ?_)
   have : ∀ l : List Int, ∀ j, 0 ≤ (l.map fun z => if z < 0 then 0 else z).getD j 0 := fun l j => by
    rw [List.getD_eq_getElem?_getD, List.getElem?_map]
    cases l[j]? with
    | none => simp
    | some z => simp; split <;> omega
   exact this _ j
  omega
 rw [qs_get n ws hi] at hq ⊢; refine ⟨hq.1, ?_⟩; have h1 : n * ws.getD i 0 ≤ n * ws.sum := Int.mul_le_mul_of_nonneg_left hle (cs_yes hcs).1.1; have h2 := Int.ediv_le_ediv (c := ws.sum) (by omega) h1
 rwa [Int.mul_ediv_cancel _ (by omega)] at h2
theorem sr_bd {n : Int} {ws : List Int} (hcs : csB n ws = true) {i : Nat} (hi : i < ws.length) : 0 ≤ (sr n ws).getD i 0 ∧ (sr n ws).getD i 0 ≤ 501 := by
 have a := sr_each hcs hi; have b := q_le_n hcs hi; have c := (cs_yes hcs).1
 omega
def Env (step : Int) (ws gs : List Int) : Prop := ∀ i k, i < ws.length → k < ws.length → 0 < gs.getD k 0 → ws.getD i 0 * (step * (gs.getD k 0 - 1) + 1) ≤ ws.getD k 0 * (step * gs.getD i 0 + 1)
theorem env_is {step : Int} {ws : List Int} (hv : vwB ws = true) (hs : 1 ≤ step ∧ step ≤ 2) : ∀ j, j ≤ 1000 → Env step ws (avgTo step ws j) := by
  intro j
  induction j with
  | zero =>
    intro _ i k hi hk h; have := (avg_is hv hs 0 (by omega)).bd k hk
    omega
  | succ j ih =>
    intro hj i k hi hk; have E := ih (by omega); have A := avg_is hv hs j (by omega); have hb := (avg_pos hv hs (by omega) A).1
    have hmax := fun i (hi : i < ws.length) => avg_max hv hs (by omega) A hi
    have e := avgTo_succ step ws j; have hl := avgTo_len step ws j; generalize pickB (avgB step ws (avgTo step ws j)) ws.length = b at *
    have g1 := fun i => getD_set (avgTo step ws j) b ((avgTo step ws j).getD b 0 + 1) (by omega) i
    rw [← e] at g1; have hw := (all_get hv hk).1
    have mono : ws.getD k 0 * (step * (avgTo step ws j).getD i 0 + 1) ≤ ws.getD k 0 * (step * (avgTo step ws (j + 1)).getD i 0 + 1) := by
      refine Int.mul_le_mul_of_nonneg_left ?_ hw
      have : step * (avgTo step ws j).getD i 0 ≤ step * (avgTo step ws (j + 1)).getD i 0 := by
        refine Int.mul_le_mul_of_nonneg_left ?_ (by omega); rw [g1 i]; split
        · next h => subst h; omega
        · omega
      omega
    intro h; refine Int.le_trans ?_ mono; rw [g1 k] at h ⊢
    by_cases ek : k = b
    · subst ek
      rw [if_pos rfl]; have := hmax i hi; rw [show (avgTo step ws j).getD k 0 + 1 - 1 = (avgTo step ws j).getD k 0 by omega]; exact this
    · rw [if_neg ek] at h ⊢
      exact E i k hi hk h
theorem sa_facts {step n : Int} {ws : List Int} (hcs : csB n ws = true) (hs : 1 ≤ step ∧ step ≤ 2) :
  (sa step n ws).sum = n ∧ Env step ws (sa step n ws) ∧ ∀ i, i < ws.length → 0 ≤ (sa step n ws).getD i 0 ∧ (sa step n ws).getD i 0 ≤ n := by
 obtain ⟨⟨a, b⟩, hv⟩ := cs_yes hcs
 have A := avg_is hv hs n.toNat (by omega)
 unfold sa; refine ⟨by rw [A.sum]; omega, env_is hv hs _ (by omega), fun i hi => by have := A.bd i hi; omega⟩
theorem iownersN (a : Option Addr) (cap : Nat) (ts : List Tn) (w : World) (h : IsTn w a ts) (hv : vtB ts = true) (N : Nat) (hN : (sumT ts).toNat = N) :
  Calls Tryz.prog 145 #[.slice a ts.length cap] w fun e w' => ∃ g : Nat, e = .returned (.slice (some ⟨g, 0, none⟩) N N) ∧ Row w' g (ownT ts) ∧ Below w.heap.size w w' := by
 refine (iowners a cap ts w h hv).mono ?_; rintro e w1 ⟨g, rfl, _, R, C⟩; rw [hN]; exact ⟨g, rfl, R, C⟩
theorem who_cell {w : World} {g N : Nat} {ts : List Tn} (R : Row w g (ownT ts)) (hN : (sumT ts).toNat = N) (h1 : 1 ≤ sumT ts) {a : Int} (ha : 0 ≤ a) : ∃ q : Nat, a % (N : Int) = (q : Int) ∧ q < N ∧ w.cell? ⟨g, q, none⟩ = some (.int .i64 (whoM ts a)) := by
 have e : (N : Int) = sumT ts := by omega
 have r0 := Int.emod_nonneg a (show (N : Int) ≠ 0 by omega); have r1 := Int.emod_lt_of_pos a (show 0 < (N : Int) by omega)
 obtain ⟨q, hq⟩ : ∃ q : Nat, a % (N : Int) = (q : Int) := ⟨_, (Int.toNat_of_nonneg r0).symm⟩
 have hqN : q < N := by omega
 refine ⟨q, hq, hqN, ?_⟩; have := World.rowIs.cell R (i := q) (by rw [ownT_len, hN]; exact hqN); rw [ownT_get ts (by rw [hN]; exact hqN)] at this; rw [this]; unfold whoM; rw [← e, hq]
theorem speriod (a : Option Addr) (cap : Nat) (ts : List Tn) (w : World) (h : IsTn w a ts) (hn : ts.length ≤ 1048576) (hz : ∀ k, k < ts.length → 0 ≤ (ts.getD k tn0).2 ∧ (ts.getD k tn0).2 ≤ 1000000) :
  Calls Tryz.prog 128 #[.slice a ts.length cap] w fun e w' => e = .returned (.int .i64 (sumT ts)) ∧ w = w' := by
 rcases h with rfl | ⟨g, o, rfl, hc⟩
 ·go_enter Tryz.func128, Tryz.ntmps128
  go_wp2
  go_rounds 1
  go_ret; exact ⟨rfl, rfl⟩
 ·have HC := Lib.hid hc
  have HZ := Lib.hid hz; have HB := Lib.hid (sumT_bd2 hz); clear hc hz; go_enter Tryz.func128, Tryz.ntmps128
  go_wp2
  go_loop [3, 4] (fun s i => ∃ k : Nat, k ≤ ts.length ∧ i = .int .i64 k ∧ s = .int .i64 (sumT (ts.take k))) (fun _ i => ts.length - (intOf i).toNat)
  case atStart => exact ⟨0, Nat.zero_le _, rfl, rfl⟩
  case round =>
   obtain ⟨k, hk, rfl, rfl⟩ := hrel; obtain ⟨b0, b1⟩ := HB.out k hk
   by_cases hlt : k < ts.length
   ·obtain ⟨c0, c1⟩ := HC.out k hlt
    have ht := sumT_succ hlt; obtain ⟨z0, z1⟩ := HZ.out k hlt; generalize ts.getD k tn0 = hh at c0 c1 ht z0 z1; obtain ⟨x, y⟩ := hh; dsimp only at c0 c1 ht z0 z1; generalize sumT (ts.take k) = s at ht b0 b1; have HT := Lib.hid ht; clear ht
    go_wp2
    go_round
    case rel => exact ⟨k + 1, by omega, by go_num, by rw [HT.out]⟩
    case measure => simp [intOf]; omega
   ·go_wp2
    go_ret; exact ⟨ret_int (by rw [List.take_of_length_le (by omega)]), rfl⟩
theorem okT_bd {ts : List Tn} {k : Nat} (hk : k ≤ ts.length) (hn : ts.length ≤ 1048576) (h : ∀ j, j < k → okT ts j = true) : 0 ≤ sumT (ts.take k) ∧ sumT (ts.take k) ≤ 352321536 := by
 have := sumT_bd k hk h; omega
theorem svt (a : Option Addr) (cap : Nat) (ts : List Tn) (w : World) (h : IsTn w a ts) (hn : ts.length ≤ 1048576) :
  Calls Tryz.prog 48 #[.slice a ts.length cap] w fun e w' => e = .returned (.bool (vtB ts)) ∧ w = w' := by
 rcases h with rfl | ⟨g, o, rfl, hc⟩
 ·go_enter Tryz.func48, Tryz.ntmps48
  go_wp2_with fail; refine wp_loop_rounds 1 ?_; rw [rounds_succ]; go_wp2_with fail; refine (inRange_no 0 1 24 _ (by omega)).mono ?_; rintro e w' ⟨rfl, rfl⟩; go_wp2_with fail; go_ret; exact ⟨rfl, rfl⟩
 ·have HC := Lib.hid hc
  clear hc; go_enter Tryz.func48, Tryz.ntmps48; go_wp2_with fail
  go_loop [3, 4] (fun s i => ∃ k : Nat, k ≤ ts.length ∧ i = .int .i64 k ∧ s = .int .i64 (sumT (ts.take k)) ∧ Hid (∀ j, j < k → okT ts j = true)) (fun _ i => ts.length - (intOf i).toNat)
  case atStart => exact ⟨0, Nat.zero_le _, rfl, rfl, fun j hj => by omega⟩
  case round =>
   obtain ⟨k, hk, rfl, rfl, HA⟩ := hrel
   by_cases hlt : k < ts.length
   ·obtain ⟨c0, c1⟩ := HC.out k hlt
    obtain ⟨b0, b1⟩ := okT_bd hk hn HA.out; have ht := sumT_succ hlt
    have hno : ¬ (1 ≤ (ts.getD k tn0).1 ∧ (ts.getD k tn0).1 ≤ 999 ∧ 1 ≤ (ts.getD k tn0).2 ∧ (ts.getD k tn0).2 ≤ 336) → vtB ts = false := fun e => vt_no2 hlt (okT_no e)
    have hyes : (1 ≤ (ts.getD k tn0).1 ∧ (ts.getD k tn0).1 ≤ 999 ∧ 1 ≤ (ts.getD k tn0).2 ∧ (ts.getD k tn0).2 ≤ 336) → ∀ j, j < k + 1 → okT ts j = true := fun e => rng_more HA.out ((okT_iff ts k).2 e)
    generalize ts.getD k tn0 = hh at c0 c1 hno hyes ht; obtain ⟨x, y⟩ := hh; dsimp only at c0 c1 hno hyes ht; generalize sumT (ts.take k) = s at ht b0 b1; have HT := Lib.hid ht; have HN := Lib.hid hno; have HY := Lib.hid hyes; clear hno hyes ht HA
    by_cases h2 : 1 ≤ x ∧ x ≤ 999
    ·by_cases h3 : 1 ≤ y ∧ y ≤ 336
     ·have HY2 := Lib.hid (HY.out ⟨h2.1, h2.2, h3.1, h3.2⟩)
      have y0 := h3.1; have y1 := h3.2; go_wp2_with fail; refine (inRange_yes x 1 999 _ h2.1 h2.2).mono ?_; rintro e w' ⟨rfl, rfl⟩; go_wp2_with fail; refine (inRange_yes y 1 336 _ h3.1 h3.2).mono ?_; rintro e w' ⟨rfl, rfl⟩; go_wp2_with fail
      go_round
      case rel => exact ⟨k + 1, by omega, by go_num, by rw [HT.out], HY2.out⟩
      case measure => simp [intOf]; omega
     ·have hv : Hid (vtB ts = false) := HN.out (fun c => h3 ⟨c.2.2.1, c.2.2.2⟩)
      go_wp2_with fail; refine (inRange_yes x 1 999 _ h2.1 h2.2).mono ?_; rintro e w' ⟨rfl, rfl⟩; go_wp2_with fail; refine (inRange_no y 1 336 _ (by omega)).mono ?_; rintro e w' ⟨rfl, rfl⟩; go_wp2_with fail; go_ret; exact ⟨ret_bool hv.out.symm, rfl⟩
    ·have hv : Hid (vtB ts = false) := HN.out (fun c => h2 ⟨c.1, c.2.1⟩)
     go_wp2_with fail; refine (inRange_no x 1 999 _ (by omega)).mono ?_; rintro e w' ⟨rfl, rfl⟩; go_wp2_with fail; go_ret; exact ⟨ret_bool hv.out.symm, rfl⟩
   ·obtain rfl : k = ts.length := by omega
    rw [sumT_all]; have HA2 := HA; clear HA
    by_cases h24 : 1 ≤ ts.length ∧ ts.length ≤ 24
    ·have HE := Lib.hid (vt_end h24.1 h24.2 HA2.out)
     go_wp2_with fail; refine (inRange_yes (ts.length : Int) 1 24 _ (by omega) (by omega)).mono ?_; rintro e w' ⟨rfl, rfl⟩; go_wp2_with fail; go_ret; exact ⟨ret_bool HE.out.symm, rfl⟩
    ·have hv : Hid (vtB ts = false) := by
      by_cases c : 1 ≤ ts.length
      ·exact vt_no1 (by omega)
      ·exact vt_no0 (by omega)
     go_wp2_with fail; refine (inRange_no (ts.length : Int) 1 24 _ (by omega)).mono ?_; rintro e w' ⟨rfl, rfl⟩; go_wp2_with fail; go_ret; exact ⟨ret_bool hv.out.symm, rfl⟩
theorem flatTn_set : ∀ (ts : List Tn) (k : Nat) (x : Tn), k < ts.length → ((flatTn ts).set (k * 2) x.1).set (k * 2 + 1) x.2 = flatTn (ts.set k x) := by
  intro ts
  induction ts with
  | nil => intro k x h; simp at h
  | cons h t ih =>
    intro k x hk
    cases k with
    | zero => rfl
    | succ k =>
      have := ih k x (by simpa using hk); rw [show (k + 1) * 2 = k * 2 + 1 + 1 from by omega]
      show h.1 :: h.2 :: ((flatTn t).set (k * 2) x.1).set (k * 2 + 1) x.2 = _
      rw [this]; rfl
def OutTn (w : World) (b : Bool) (L : List Tn) (e : Ending) (w' : World) : Prop := (b = false → e = .returned (.slice none 0 0)) ∧ (b = true → ∃ g cap, e = .returned (.slice (some ⟨g, 0, none⟩) L.length cap) ∧ w.heap.size ≤ g ∧ Flat w' g 108 (flatTn L) ∧ L.length ≤ cap) ∧ Below w.heap.size w w'
theorem out_no {w w' : World} {L : List Tn} {e : Ending} (he : e = .returned (.slice none 0 0)) (h : Below w.heap.size w w') : OutTn w false L e w' := ⟨fun _ => he, (fun c => by cases c), h⟩
theorem out_yes {w w' : World} {L : List Tn} {g cap n : Nat} {e : Ending} (he : e = .returned (.slice (some ⟨g, 0, none⟩) n cap)) (hn : n = L.length) (hg : w.heap.size ≤ g) (hF : Flat w' g 108 (flatTn L)) (hc : L.length ≤ cap) (h : Below w.heap.size w w') : OutTn w true L e w' := ⟨(fun c => by cases c), fun _ => ⟨g, cap, by rw [he, hn], hg, hF, hc⟩, h⟩
def inB (ts : List Tn) (i : Int) : Bool := decide (0 ≤ i) && decide (i < (ts.length : Int))
def swB (ts : List Tn) (i k : Int) : Bool := vtB ts && inB ts i && inB ts k
def swL (ts : List Tn) (i k : Int) : List Tn := (ts.set i.toNat (ts.getD k.toNat tn0)).set k.toNat (ts.getD i.toNat tn0)
theorem in_no {ts : List Tn} {i : Int} (h : inB ts i = false) : i < 0 ∨ (ts.length : Int) - 1 < i := by
 have : ¬ (0 ≤ i ∧ i < (ts.length : Int)) := fun c => by unfold inB at h; rw [decide_eq_true c.1, decide_eq_true c.2] at h; cases h
 omega
theorem in_yes {ts : List Tn} {i : Int} (h : inB ts i = true) : ∃ k : Nat, i = (k : Int) ∧ k < ts.length := by
 unfold inB at h; simp only [Bool.and_eq_true, decide_eq_true_eq] at h; exact ⟨i.toNat, by omega, by omega⟩
theorem swB_no {ts : List Tn} {i k : Int} (h : vtB ts = false ∨ inB ts i = false ∨ inB ts k = false) : swB ts i k = false := by
 unfold swB
 rcases h with h | h | h <;> rw [h] <;> simp
theorem flat_new {w1 : World} {base : Nat} {v1 : Value} {ts : List Tn} (h : w1.ownsRow base 108 2 v1 (0 + ts.length) ([] ++ valsTn ts)) (hn : 1 ≤ ts.length) : ∃ g cap, v1 = .slice (some ⟨g, 0, none⟩) ts.length cap ∧ base ≤ g ∧ Flat w1 g 108 (flatTn ts) ∧ ts.length ≤ cap := by
 rw [Nat.zero_add, List.nil_append] at h
 rcases Flat.own (zs := flatTn ts) h with ⟨_, hz⟩ | r
 ·omega
 ·exact r
theorem swapped {w1 : World} {g i k : Nat} {ts : List Tn} {x y : Tn} (hF : Flat w1 g 108 (flatTn ts)) (hi : i < ts.length) (hk : k < ts.length) :
  Flat ((w1.setCell ⟨g, i * 2, none⟩ (.int .i64 x.1)).setCell ⟨g, i * 2 + 1, none⟩ (.int .i64 x.2)) g 108 (flatTn (ts.set i x)) ∧
  Flat ((((w1.setCell ⟨g, i * 2, none⟩ (.int .i64 x.1)).setCell ⟨g, i * 2 + 1, none⟩ (.int .i64 x.2)).setCell ⟨g, k * 2, none⟩ (.int .i64 y.1)).setCell ⟨g, k * 2 + 1, none⟩ (.int .i64 y.2)) g 108 (flatTn ((ts.set i x).set k y)) := by
 have hl := flatTn_len ts; have a := (hF.set_ (i := i * 2) (by omega) x.1).set_ (i := i * 2 + 1) (by rw [List.length_set]; omega) x.2; rw [flatTn_set ts i x hi] at a; have hl2 := flatTn_len (ts.set i x); rw [List.length_set] at hl2; have b := (a.set_ (i := k * 2) (by omega) y.1).set_ (i := k * 2 + 1) (by rw [List.length_set]; omega) y.2; rw [flatTn_set (ts.set i x) k y (by rw [List.length_set]; exact hk)] at b; exact ⟨a, b⟩
theorem swap_facts {w W w2 : World} {g0 o i k : Nat} {ts : List Tn} {v2 : Value} (hB : Below w.heap.size w W)
  (hc : ∀ i, i < ts.length → w.cell? ⟨g0, o + i * 2, none⟩ = some (.int .i64 (ts.getD i tn0).1) ∧ w.cell? ⟨g0, o + i * 2 + 1, none⟩ = some (.int .i64 (ts.getD i tn0).2))
  (hown : w2.ownsRow W.heap.size 108 2 v2 (0 + ts.length) ([] ++ valsTn ts)) (hg : (W.alloc (.cells #[] 108)).grownBy w2 (some W.heap.size)) (hi : i < ts.length) (hk : k < ts.length) :
  ∃ (g cp : Nat) (x0 x1 y0 y1 q0 q1 q2 q3 : Int), v2 = .slice (some ⟨g, 0, none⟩) ts.length cp ∧ w.heap.size ≤ g ∧ ts.length ≤ cp ∧
   w2.cell? ⟨g0, o + k * 2, none⟩ = some (.int .i64 x0) ∧ w2.cell? ⟨g0, o + k * 2 + 1, none⟩ = some (.int .i64 x1) ∧
   ((w2.setCell ⟨g, i * 2, none⟩ (.int .i64 x0)).setCell ⟨g, i * 2 + 1, none⟩ (.int .i64 x1)).cell? ⟨g0, o + i * 2, none⟩ = some (.int .i64 y0) ∧ ((w2.setCell ⟨g, i * 2, none⟩ (.int .i64 x0)).setCell ⟨g, i * 2 + 1, none⟩ (.int .i64 x1)).cell? ⟨g0, o + i * 2 + 1, none⟩ = some (.int .i64 y1) ∧
   w2.cell? ⟨g, i * 2, none⟩ = some (.int .i64 q0) ∧ w2.cell? ⟨g, i * 2 + 1, none⟩ = some (.int .i64 q1) ∧
   ((w2.setCell ⟨g, i * 2, none⟩ (.int .i64 x0)).setCell ⟨g, i * 2 + 1, none⟩ (.int .i64 x1)).cell? ⟨g, k * 2, none⟩ = some (.int .i64 q2) ∧ ((w2.setCell ⟨g, i * 2, none⟩ (.int .i64 x0)).setCell ⟨g, i * 2 + 1, none⟩ (.int .i64 x1)).cell? ⟨g, k * 2 + 1, none⟩ = some (.int .i64 q3) ∧
   w2.frozen? ⟨g, i * 2, none⟩ = false ∧ w2.frozen? ⟨g, i * 2 + 1, none⟩ = false ∧
   ((w2.setCell ⟨g, i * 2, none⟩ (.int .i64 x0)).setCell ⟨g, i * 2 + 1, none⟩ (.int .i64 x1)).frozen? ⟨g, k * 2, none⟩ = false ∧ ((w2.setCell ⟨g, i * 2, none⟩ (.int .i64 x0)).setCell ⟨g, i * 2 + 1, none⟩ (.int .i64 x1)).frozen? ⟨g, k * 2 + 1, none⟩ = false ∧
   Flat ((((w2.setCell ⟨g, i * 2, none⟩ (.int .i64 x0)).setCell ⟨g, i * 2 + 1, none⟩ (.int .i64 x1)).setCell ⟨g, k * 2, none⟩ (.int .i64 y0)).setCell ⟨g, k * 2 + 1, none⟩ (.int .i64 y1)) g 108 (flatTn ((ts.set i (ts.getD k tn0)).set k (ts.getD i tn0))) ∧
   Below w.heap.size w ((((w2.setCell ⟨g, i * 2, none⟩ (.int .i64 x0)).setCell ⟨g, i * 2 + 1, none⟩ (.int .i64 x1)).setCell ⟨g, k * 2, none⟩ (.int .i64 y0)).setCell ⟨g, k * 2 + 1, none⟩ (.int .i64 y1)) := by
 obtain ⟨g, cp, rfl, lg, F2, hcc⟩ := flat_new hown (by omega); have hsz := hB.size
 have lg2 : w.heap.size ≤ g := by omega
 have hB2 : Below w.heap.size w w2 := (hB.alloc hB.size _).grown hg (by simp; omega) (fun q hq => by have e : W.heap.size = q := Option.some.inj hq; omega); obtain ⟨F3, F4⟩ := swapped (x := ts.getD k tn0) (y := ts.getD i tn0) F2 hi hk; have hB3 := (hB2.setCell (p := ⟨g, i * 2, none⟩) lg2 (.int .i64 (ts.getD k tn0).1)).setCell (p := ⟨g, i * 2 + 1, none⟩) lg2 (.int .i64 (ts.getD k tn0).2); have hB4 := (hB3.setCell (p := ⟨g, k * 2, none⟩) lg2 (.int .i64 (ts.getD i tn0).1)).setCell (p := ⟨g, k * 2 + 1, none⟩) lg2 (.int .i64 (ts.getD i tn0).2); obtain ⟨c0, c1⟩ := tn_at hc hB2 hk; obtain ⟨d0, d1⟩ := tn_at hc hB3 hi; have l2 := flatTn_len ts; have l3 := flatTn_len (ts.set i (ts.getD k tn0)); rw [List.length_set] at l3; exact ⟨g, cp, _, _, _, _, _, _, _, _, rfl, lg2, hcc, c0, c1, d0, d1, F2.cell (j := i * 2) (by omega), F2.cell (j := i * 2 + 1) (by omega), F3.cell (j := k * 2) (by omega), F3.cell (j := k * 2 + 1) (by omega), F2.frozen _, F2.frozen _, F3.frozen _, F3.frozen _, F4, hB4⟩
theorem iSwap (a : Option Addr) (cap : Nat) (ts : List Tn) (i k : Int) (w : World) (h : IsTn w a ts) (hn : ts.length ≤ 1048576) (hc : ts.length ≤ cap) :
    Calls Tryz.prog 76 #[.slice a ts.length cap, .int .i64 i, .int .i64 k] w (OutTn w (swB ts i k) (swL ts i k)) := by
  have VT := iVT a cap ts w h hn; have H := Lib.hid h
  have ITi := fun W => iturn a ts.length cap i W hn
  have ITk := fun W => iturn a ts.length cap k W hn
  change ∀ W, Calls _ _ _ W (fun e w' => e = .returned (.bool (inB ts i)) ∧ W = w') at ITi; change ∀ W, Calls _ _ _ W (fun e w' => e = .returned (.bool (inB ts k)) ∧ W = w') at ITk
  cases hv : vtB ts with
  | false =>
    rw [swB_no (.inl hv)]; rw [hv] at VT; clear hv h; go_enter Tryz.func76, Tryz.ntmps76; go_wp2_with fail; refine VT.mono ?_; rintro e w1 ⟨rfl, C⟩; go_wp2_with fail; go_ret; exact out_no rfl (C)
  | true =>
    rw [hv] at VT
    cases hi : inB ts i with
    | false =>
      rw [swB_no (.inr (.inl hi))]; rw [hi] at ITi; clear hv h; go_enter Tryz.func76, Tryz.ntmps76; go_wp2_with fail; refine VT.mono ?_; rintro e w1 ⟨rfl, C⟩; go_wp2_with fail; refine (ITi _).mono ?_; rintro e w' ⟨rfl, rfl⟩; go_wp2_with fail; go_ret; exact out_no rfl (C)
    | true =>
      obtain ⟨i, rfl, hil⟩ := in_yes hi; rw [hi] at ITi
      cases hk : inB ts k with
      | false =>
        rw [swB_no (.inr (.inr hk))]; rw [hk] at ITk; clear hv h; go_enter Tryz.func76, Tryz.ntmps76; go_wp2_with fail; refine VT.mono ?_; rintro e w1 ⟨rfl, C⟩; go_wp2_with fail; refine (ITi _).mono ?_; rintro e w' ⟨rfl, rfl⟩; go_wp2_with fail; refine (ITk _).mono ?_; rintro e w' ⟨rfl, rfl⟩; go_wp2_with fail; go_ret; exact out_no rfl (C)
      | true =>
        obtain ⟨k, rfl, hkl⟩ := in_yes hk; rw [hk] at ITk
        have hb : swB ts (i : Int) (k : Int) = true := by unfold swB; rw [hv, hi, hk]; rfl
        have hL : swL ts (i : Int) (k : Int) = (ts.set i (ts.getD k tn0)).set k (ts.getD i tn0) := by unfold swL; rw [Int.toNat_natCast, Int.toNat_natCast]
        rw [hb, hL]
        obtain ⟨L, hLL⟩ : ∃ L, (ts.set i (ts.getD k tn0)).set k (ts.getD i tn0) = L := ⟨_, rfl⟩
        rw [hLL]; have HLL := Lib.hid hLL
        rcases h with rfl | ⟨g0, o, rfl, hcl⟩
        · simp at hil
        obtain ⟨i0, hi0, hz0, hz1, hz2⟩ := info_parts infoTn
        have i1 : (0 : Int) ≤ (i : Int) := by omega
        have i2 : (i : Int) < (ts.length : Int) := by omega
        have k1 : (0 : Int) ≤ (k : Int) := by omega
        have k2 : (k : Int) < (ts.length : Int) := by omega
        have l1 : 1 ≤ ts.length := by omega
        have HC := Lib.hid hcl; have HX := Lib.hid hi; have HY := Lib.hid hk; clear hv hcl hi hk hb hL hLL; go_enter Tryz.func76, Tryz.ntmps76; go_wp2_with fail; refine VT.mono ?_; rintro e w1 ⟨rfl, C⟩; have HB := Lib.hid C; clear C; have hR := tn_reads (tn_below H.out HB.out); have HR := Lib.hid hR; have hsz := HB.out.size; clear hR; go_wp2_with fail; refine (ITi _).mono ?_; rintro e w' ⟨rfl, rfl⟩; go_wp2_with fail; refine (ITk _).mono ?_; rintro e w' ⟨rfl, rfl⟩
        go_wp2_with (first | (at_builtin; refine wpList_append_any _ rfl (.tmp 23) (.tmp 24) _ rfl w1.heap.size 108 i0 _ 2 16 Tryz.underlying40 hi0 hz0 hz1 hz2 rfl (by omega) _ 0 [] rfl ⟨rfl, .inr ⟨w1.heap.size, 0, #[], rfl, Nat.le_refl _, Blk.new _ _ _, Nat.le_refl _, by unfold maxLen; omega, rfl, rfl⟩⟩ w1.heap.size (some ⟨g0, o, none⟩) ts.length cap (valsTn ts) rfl (HR.out.alloc (Nat.le_refl _) _) (valsTn_one ts) (by unfold maxLen; omega) (by omega) (by simp) ?_; intro v2 w2 hown2 hg2 hat2; obtain ⟨g, cp, x0, x1, y0, y1, q0, q1, q2, q3, rfl, lg2, hcc, c0, c1, d0, d1, m0, m1, n0, n1, fz0, fz1, fz2, fz3, F4, B4⟩ := swap_facts HB.out HC.out hown2 hg2 hil hkl; rw [HLL.out] at F4; have HF4 := Lib.hid F4; have HB4 := Lib.hid B4; clear hown2 hg2 hat2 F4 B4 HR H))
        go_ret
        have hlen : L.length = ts.length := by rw [← HLL.out]; simp
        exact out_yes rfl hlen.symm lg2 HF4.out (by omega) HB4.out
theorem sSwap (a : Option Addr) (cap : Nat) (ts : List Tn) (i k : Int) (w : World) (h : IsTn w a ts) (hn : ts.length ≤ 1048576) (hc : ts.length ≤ cap) :
    Calls Tryz.prog 57 #[.slice a ts.length cap, .int .i64 i, .int .i64 k] w (OutTn w (swB ts i k) (swL ts i k)) := by
  have VT := svt a cap ts w h hn; have H := Lib.hid h
  cases hv : vtB ts with
  | false =>
    rw [swB_no (.inl hv)]; rw [hv] at VT; clear hv h; go_enter Tryz.func57, Tryz.ntmps57; go_wp2_with fail; refine VT.mono ?_; rintro e w' ⟨rfl, rfl⟩; go_wp2_with fail; go_ret; exact out_no rfl (by go_grown)
  | true =>
    rw [hv] at VT
    cases hi : inB ts i with
    | false =>
      rw [swB_no (.inr (.inl hi))]
      clear hv h; go_enter Tryz.func57, Tryz.ntmps57; go_wp2_with fail; refine VT.mono ?_; rintro e w' ⟨rfl, rfl⟩; go_wp2_with fail; refine (inRange_no i 0 ((ts.length : Int) - 1) _ (in_no hi)).mono ?_; rintro e w' ⟨rfl, rfl⟩; go_wp2_with fail; go_ret; exact out_no rfl (by go_grown)
    | true =>
      obtain ⟨i, rfl, hil⟩ := in_yes hi
      cases hk : inB ts k with
      | false =>
        rw [swB_no (.inr (.inr hk))]
        clear hv h; go_enter Tryz.func57, Tryz.ntmps57; go_wp2_with fail; refine VT.mono ?_; rintro e w' ⟨rfl, rfl⟩; go_wp2_with fail; refine (inRange_yes (i : Int) 0 ((ts.length : Int) - 1) _ (by omega) (by omega)).mono ?_; rintro e w' ⟨rfl, rfl⟩; go_wp2_with fail; refine (inRange_no k 0 ((ts.length : Int) - 1) _ (in_no hk)).mono ?_; rintro e w' ⟨rfl, rfl⟩; go_wp2_with fail; go_ret; exact out_no rfl (by go_grown)
      | true =>
        obtain ⟨k, rfl, hkl⟩ := in_yes hk
        have hb : swB ts (i : Int) (k : Int) = true := by unfold swB; rw [hv, hi, hk]; rfl
        have hL : swL ts (i : Int) (k : Int) = (ts.set i (ts.getD k tn0)).set k (ts.getD i tn0) := by unfold swL; rw [Int.toNat_natCast, Int.toNat_natCast]
        rw [hb, hL]
        obtain ⟨L, hLL⟩ : ∃ L, (ts.set i (ts.getD k tn0)).set k (ts.getD i tn0) = L := ⟨_, rfl⟩
        rw [hLL]; have HLL := Lib.hid hLL
        rcases h with rfl | ⟨g0, o, rfl, hcl⟩
        · simp at hil
        obtain ⟨i0, hi0, hz0, hz1, hz2⟩ := info_parts infoTn
        have i1 : (0 : Int) ≤ (i : Int) := by omega
        have i2 : (i : Int) < (ts.length : Int) := by omega
        have k1 : (0 : Int) ≤ (k : Int) := by omega
        have k2 : (k : Int) < (ts.length : Int) := by omega
        have l1 : 1 ≤ ts.length := by omega
        have HC := Lib.hid hcl; have HX := Lib.hid hi; have HY := Lib.hid hk; clear hv hcl hi hk hb hL hLL; go_enter Tryz.func57, Tryz.ntmps57; go_wp2_with fail; refine VT.mono ?_; rintro e w' ⟨rfl, rfl⟩; have HB := Lib.hid (Below.refl w.heap.size w); have hR := tn_reads H.out; have HR := Lib.hid hR; have hsz := HB.out.size; clear hR; go_wp2_with fail; refine (inRange_yes (i : Int) 0 ((ts.length : Int) - 1) _ (by omega) (by omega)).mono ?_; rintro e w' ⟨rfl, rfl⟩; go_wp2_with fail; refine (inRange_yes (k : Int) 0 ((ts.length : Int) - 1) _ (by omega) (by omega)).mono ?_; rintro e w' ⟨rfl, rfl⟩
        go_wp2_with (first | (at_builtin; refine wpList_append_any _ rfl (.tmp 27) (.tmp 28) _ rfl w.heap.size 108 i0 _ 2 16 Tryz.underlying40 hi0 hz0 hz1 hz2 rfl (by omega) _ 0 [] rfl ⟨rfl, .inr ⟨w.heap.size, 0, #[], rfl, Nat.le_refl _, Blk.new _ _ _, Nat.le_refl _, by unfold maxLen; omega, rfl, rfl⟩⟩ w.heap.size (some ⟨g0, o, none⟩) ts.length cap (valsTn ts) rfl (HR.out.alloc (Nat.le_refl _) _) (valsTn_one ts) (by unfold maxLen; omega) (by omega) (by simp) ?_; intro v2 w2 hown2 hg2 hat2; obtain ⟨g, cp, x0, x1, y0, y1, q0, q1, q2, q3, rfl, lg2, hcc, c0, c1, d0, d1, m0, m1, n0, n1, fz0, fz1, fz2, fz3, F4, B4⟩ := swap_facts HB.out HC.out hown2 hg2 hil hkl; rw [HLL.out] at F4; have HF4 := Lib.hid F4; have HB4 := Lib.hid B4; clear hown2 hg2 hat2 F4 B4 HR H))
        go_ret
        have hlen : L.length = ts.length := by rw [← HLL.out]; simp
        exact out_yes rfl hlen.symm lg2 HF4.out (by omega) HB4.out

theorem iwithin (n m : Int) (w : World) :
  Calls Tryz.prog 71 #[.int .i64 n, .int .i64 m] w fun e w' => e = .returned (.bool (decide (0 ≤ n) && decide (n ≤ m))) ∧ w = w' := by
 by_cases h : n < 0 ∨ m < n
 ·have e : (decide (0 ≤ n) && decide (n ≤ m)) = false := by
   rcases h with h | h
   ·rw [decide_eq_false (by omega : ¬ 0 ≤ n)]; rfl
   ·rw [decide_eq_false (by omega : ¬ n ≤ m)]; simp
  rw [e]; exact iwithin_no n m w h
 ·rw [decide_eq_true (by omega : 0 ≤ n), decide_eq_true (by omega : n ≤ m)]; exact iwithin_yes n m w (by omega) (by omega)
theorem iisNode (a : Option Addr) (n cap : Nat) (i : Int) (w : World) (hn : n ≤ 1048576) :
  Calls Tryz.prog 104 #[.slice a n cap, .int .i64 i] w fun e w' => e = .returned (.bool (inN n i)) ∧ w = w' := by
 by_cases h1 : 0 ≤ i
 ·have hd : decide (0 ≤ i) = true := decide_eq_true h1
  clear h1; go_enter Tryz.func104, Tryz.ntmps104
  go_wp2
  go_ret; exact ⟨ret_bool (by unfold inN; rw [hd]; rfl), rfl⟩
 ·have hd : decide (0 ≤ i) = false := decide_eq_false h1
  clear h1; go_enter Tryz.func104, Tryz.ntmps104
  go_wp2
  go_ret; exact ⟨ret_bool (by unfold inN; rw [hd]; rfl), rfl⟩
theorem imeasures (x0 x1 x2 x3 x4 : Int) (w : World) :
    Calls Tryz.prog 105 #[.agg #[.int .i64 x0, .int .i64 x1, .int .i64 x2, .int .i64 x3, .int .i64 x4]] w fun e w' => e = .returned (.bool (mB (x0, x1, x2, x3, x4))) ∧ Below w.heap.size w w' := by
  obtain ⟨b1, h1⟩ : ∃ b, (decide (0 ≤ x1) && decide (x1 ≤ 1000)) = b := ⟨_, rfl⟩
  obtain ⟨b2, h2⟩ : ∃ b, (decide (0 ≤ x2) && decide (x2 ≤ 500)) = b := ⟨_, rfl⟩
  obtain ⟨b3, h3⟩ : ∃ b, (decide (0 ≤ x3) && decide (x3 ≤ 500)) = b := ⟨_, rfl⟩
  obtain ⟨b4, h4⟩ : ∃ b, (decide (0 ≤ x4) && decide (x4 ≤ 20)) = b := ⟨_, rfl⟩
  have HM : Hid (mB (x0, x1, x2, x3, x4) = (b1 && b2 && b3 && b4)) := by show mB _ = _; rw [← h1, ← h2, ← h3, ← h4]; rfl
  have C1 := fun W => iwithin x1 1000 W
  have C2 := fun W => iwithin x2 500 W
  have C3 := fun W => iwithin x3 500 W
  have C4 := fun W => iwithin x4 20 W
  rw [h1] at C1; rw [h2] at C2; rw [h3] at C3; rw [h4] at C4; clear h1 h2 h3 h4
  cases b1 with
  | false =>
    go_enter Tryz.func105, Tryz.ntmps105; go_wp2_with fail; refine (C1 _).mono ?_; rintro e w' ⟨rfl, rfl⟩; go_wp2_with fail; go_ret; exact ⟨ret_bool (by rw [HM.out]; simp), by go_grown⟩
  | true =>
    cases b2 with
    | false =>
      go_enter Tryz.func105, Tryz.ntmps105; go_wp2_with fail; refine (C1 _).mono ?_; rintro e w' ⟨rfl, rfl⟩; go_wp2_with fail; refine (C2 _).mono ?_; rintro e w' ⟨rfl, rfl⟩; go_wp2_with fail; go_ret; exact ⟨ret_bool (by rw [HM.out]; simp), by go_grown⟩
    | true =>
      cases b3 with
      | false =>
        go_enter Tryz.func105, Tryz.ntmps105; go_wp2_with fail; refine (C1 _).mono ?_; rintro e w' ⟨rfl, rfl⟩; go_wp2_with fail; refine (C2 _).mono ?_; rintro e w' ⟨rfl, rfl⟩; go_wp2_with fail; refine (C3 _).mono ?_; rintro e w' ⟨rfl, rfl⟩; go_wp2_with fail; go_ret; exact ⟨ret_bool (by rw [HM.out]; simp), by go_grown⟩
      | true =>
        cases b4 with
        | false =>
          go_enter Tryz.func105, Tryz.ntmps105; go_wp2_with fail; refine (C1 _).mono ?_; rintro e w' ⟨rfl, rfl⟩; go_wp2_with fail; refine (C2 _).mono ?_; rintro e w' ⟨rfl, rfl⟩; go_wp2_with fail; refine (C3 _).mono ?_; rintro e w' ⟨rfl, rfl⟩; go_wp2_with fail; refine (C4 _).mono ?_; rintro e w' ⟨rfl, rfl⟩; go_wp2_with fail; go_ret; exact ⟨ret_bool (by rw [HM.out]; simp), by go_grown⟩
        | true =>
          go_enter Tryz.func105, Tryz.ntmps105; go_wp2_with fail; refine (C1 _).mono ?_; rintro e w' ⟨rfl, rfl⟩; go_wp2_with fail; refine (C2 _).mono ?_; rintro e w' ⟨rfl, rfl⟩; go_wp2_with fail; refine (C3 _).mono ?_; rintro e w' ⟨rfl, rfl⟩; go_wp2_with fail; refine (C4 _).mono ?_; rintro e w' ⟨rfl, rfl⟩; go_wp2_with fail; go_ret; exact ⟨ret_bool (by rw [HM.out]; simp), by go_grown⟩
theorem ok_first {ns : List Nd} (h : ¬ (ns.getD 0 nd0).1 = -1) : okN ns 0 = false := by
 unfold okN; rw [pB_zero, decide_eq_false h]; rfl
theorem iVN (a : Option Addr) (cap : Nat) (ns : List Nd) (w : World) (h : IsNd w a ns) (hn : ns.length ≤ 1048576) (hcap : ns.length ≤ cap) :
    Calls Tryz.prog 68 #[.slice a ns.length cap] w fun e w' => e = .returned (.bool (vnB ns)) ∧ Below w.heap.size w w' := by
  by_cases h0 : ns.length < 1
  · have e0 : decide ((ns.length : Int) < 1) = true := by simp; omega
    have HN := Lib.hid (vn_no0 h0); clear h0; go_enter Tryz.func68, Tryz.ntmps68; go_wp2_with fail; go_ret; exact ⟨ret_bool HN.out.symm, by go_grown⟩
  have e0 : decide ((ns.length : Int) < 1) = false := by simp; omega
  by_cases h24 : 12 < ns.length
  · have e1 : decide (12 < (ns.length : Int)) = true := by simp; omega
    have HN := Lib.hid (vn_no1 h24); clear h24 h0; go_enter Tryz.func68, Tryz.ntmps68; go_wp2_with fail; go_ret; exact ⟨ret_bool HN.out.symm, by go_grown⟩
  have e1 : decide (12 < (ns.length : Int)) = false := by simp; omega
  rcases h with rfl | ⟨g, o, rfl, hc⟩
  · exact absurd (by simp) h0
  have HC := Lib.hid hc
  have l0 : (0 : Int) < (ns.length : Int) := by omega
  have l1 : 1 ≤ ns.length := by omega
  have l12 : ns.length ≤ 12 := by omega
  have c00 := (hc 0 (by omega)).1; rw [show o + 0 * 5 = o from by omega] at c00
  have hfirst := fun e => vn_no2 (ns := ns) (k := 0) (by omega) (ok_first e)
  have hf0 : ∀ p, (ns.getD 0 nd0).1 = p → p = -1 → pB p 0 = true := fun p _ e => by rw [pB_zero]; exact decide_eq_true e
  by_cases hp : (ns.getD 0 nd0).1 = -1
  rotate_left
  · have HF := Lib.hid (hfirst hp)
    have ep : ((ns.getD 0 nd0).1 == -1) = false := by simpa using hp
    generalize (ns.getD 0 nd0).1 = p at c00 ep; clear hc hp h0 h24 hfirst hf0; go_enter Tryz.func68, Tryz.ntmps68; go_wp2_with fail; go_ret; exact ⟨ret_bool HF.out.symm, by go_grown⟩
  rw [hp] at c00; clear hc h0 h24 hfirst hf0; have HP := Lib.hid hp; clear hp; go_enter Tryz.func68, Tryz.ntmps68; go_wp2_with fail
  go_loopw [22] (fun i wr => ∃ k : Nat, k ≤ ns.length ∧ i = .int .i64 k ∧ Hid (∀ j, j < k → okN ns j = true) ∧ Below w.heap.size w wr) (fun i _ => ns.length - (intOf i).toNat)
  case atStart => exact ⟨0, Nat.zero_le _, rfl, fun j hj => by omega, by go_grown⟩
  case round =>
    obtain ⟨k, hk, rfl, HA, hB⟩ := hrel
    by_cases hlt : k < ns.length
    · obtain ⟨c0, c1, c2, c3, c4⟩ := nd_at HC.out hB hlt
      obtain ⟨q, hq⟩ : ∃ q, mB (ns.getD k nd0) = q := ⟨_, rfl⟩
      have hk0 : k = 0 → (ns.getD k nd0).1 = -1 := fun e => by subst e; exact HP.out
      have hno : (pB (ns.getD k nd0).1 k = false ∨ q = false) → vnB ns = false := fun e => vn_no2 hlt (by unfold okN; rcases e with e | e <;> rw [hq, e] <;> simp)
      have hyes : pB (ns.getD k nd0).1 k = true → q = true → ∀ j, j < k + 1 → okN ns j = true := fun e1 e2 => rng_more HA.out (by unfold okN; rw [hq, e1, e2]; rfl)
      have CM := fun W => imeasures (ns.getD k nd0).1 (ns.getD k nd0).2.1 (ns.getD k nd0).2.2.1 (ns.getD k nd0).2.2.2.1 (ns.getD k nd0).2.2.2.2 W
      have hq' : mB ((ns.getD k nd0).1, (ns.getD k nd0).2.1, (ns.getD k nd0).2.2.1, (ns.getD k nd0).2.2.2.1, (ns.getD k nd0).2.2.2.2) = q := hq; rw [hq'] at CM; clear hq hq'; generalize (ns.getD k nd0).1 = x0 at c0 hno hyes CM hk0; generalize (ns.getD k nd0).2.1 = x1 at c1 CM; generalize (ns.getD k nd0).2.2.1 = x2 at c2 CM; generalize (ns.getD k nd0).2.2.2.1 = x3 at c3 CM; generalize (ns.getD k nd0).2.2.2.2 = x4 at c4 CM; have HN := Lib.hid hno; have HY := Lib.hid hyes; have HB := Lib.hid hB
      have kb0 : (0 : Int) ≤ (k : Int) := by omega
      have kb1 : (k : Int) ≤ (cap : Int) := by omega
      have kb2 : (k : Int) < (ns.length : Int) := by omega
      clear hno hyes hB
      by_cases k0 : k = 0
      · have d0 : decide (0 < (k : Int)) = false := decide_eq_false (by omega)
        have d1 : decide (0 < k) = false := decide_eq_false (by omega)
        have HP2 : Hid (pB x0 k = true) := by show pB x0 k = true; rw [hk0 k0, k0]; rfl
        clear hk0 k0
        cases q with
        | false =>
          have HV := Lib.hid (HN.out (.inr rfl)); go_wp2_with fail
          go_quiet (fail)
          go_wp2_with fail; refine (CM _).mono ?_; rintro e w1 ⟨rfl, C⟩; go_wp2_with fail; go_ret; exact ⟨ret_bool HV.out.symm, bel_tr (below_drewN (HB.out.alloc HB.out.size _) _) C⟩
        | true =>
          have HV := Lib.hid (HY.out HP2.out rfl); go_wp2_with fail
          go_quiet (fail)
          go_wp2_with fail; refine (CM _).mono ?_; rintro e w1 ⟨rfl, C⟩; go_wp2_with fail
          go_roundw
          case rel => exact ⟨k + 1, by omega, by go_num, HV.out, bel_tr (below_drewN (HB.out.alloc HB.out.size _) _) C⟩
          case measure => simp [intOf]; omega
      · have d0 : decide (0 < (k : Int)) = true := decide_eq_true (by omega)
        have d1 : decide (0 < k) = true := decide_eq_true (by omega)
        have hpb : pB x0 k = inN k x0 := by rw [pB_pos _ (by omega)]; rfl
        have CI := fun W => iisNode (some ⟨g, o, none⟩) k cap x0 W (by omega)
        obtain ⟨t, ht⟩ : ∃ t, inN k x0 = t := ⟨_, rfl⟩
        rw [ht] at CI hpb; have HP2 := Lib.hid hpb; have KI := Lib.hid (fun (W : World) (j : Nat) => Calls.quiet_of_same (w := W) (n := j) ((CI _).mono (fun _ _ h => ⟨h.1, h.2.symm⟩))); clear hk0 k0 hpb ht CI
        cases t with
        | false =>
          have HV := Lib.hid (HN.out (.inl HP2.out)); go_wp2_with fail
          go_quiet (first | (go_at_call_of 104 (Value.slice (some ⟨g, o, none⟩) k cap); exact KI.out _ _))
          go_wp2_with fail; go_ret; exact ⟨ret_bool HV.out.symm, below_drewN (HB.out.alloc HB.out.size _) _⟩
        | true =>
          cases q with
          | false =>
            have HV := Lib.hid (HN.out (.inr rfl)); go_wp2_with fail
            go_quiet (first | (go_at_call_of 104 (Value.slice (some ⟨g, o, none⟩) k cap); exact KI.out _ _))
            go_wp2_with fail; refine (CM _).mono ?_; rintro e w1 ⟨rfl, C⟩; go_wp2_with fail; go_ret; exact ⟨ret_bool HV.out.symm, bel_tr (below_drewN (HB.out.alloc HB.out.size _) _) C⟩
          | true =>
            have HV := Lib.hid (HY.out HP2.out rfl); go_wp2_with fail
            go_quiet (first | (go_at_call_of 104 (Value.slice (some ⟨g, o, none⟩) k cap); exact KI.out _ _))
            go_wp2_with fail; refine (CM _).mono ?_; rintro e w1 ⟨rfl, C⟩; go_wp2_with fail
            go_roundw
            case rel => exact ⟨k + 1, by omega, by go_num, HV.out, bel_tr (below_drewN (HB.out.alloc HB.out.size _) _) C⟩
            case measure => simp [intOf]; omega
    · obtain rfl : k = ns.length := by omega
      have HE := Lib.hid (vn_yes l1 l12 HA.out); have HB := Lib.hid hB; clear HA hB; go_wp2_with fail; go_ret; exact ⟨ret_bool HE.out.symm, HB.out⟩
theorem sinRange (n l h : Int) (w : World) :
  Calls Tryz.prog 52 #[.int .i64 n, .int .i64 l, .int .i64 h] w fun e w' => e = .returned (.bool (decide (l ≤ n) && decide (n ≤ h))) ∧ w = w' := by
 by_cases c : n < l ∨ h < n
 ·have e : (decide (l ≤ n) && decide (n ≤ h)) = false := by
   rcases c with c | c
   ·rw [decide_eq_false (by omega : ¬ l ≤ n)]; rfl
   ·rw [decide_eq_false (by omega : ¬ n ≤ h)]; simp
  rw [e]; exact inRange_no n l h w c
 ·rw [decide_eq_true (by omega : l ≤ n), decide_eq_true (by omega : n ≤ h)]; exact inRange_yes n l h w (by omega) (by omega)
theorem inN_range (n : Nat) (i : Int) : (decide (0 ≤ i) && decide (i ≤ (n : Int) - 1)) = inN n i := by
 unfold inN
 by_cases h : i < (n : Int)
 ·rw [decide_eq_true h, decide_eq_true (by omega : i ≤ (n : Int) - 1)]
 ·rw [decide_eq_false h, decide_eq_false (by omega : ¬ i ≤ (n : Int) - 1)]
theorem svn (a : Option Addr) (cap : Nat) (ns : List Nd) (w : World) (h : IsNd w a ns) (hn : ns.length ≤ 1048576) :
    Calls Tryz.prog 49 #[.slice a ns.length cap] w fun e w' => e = .returned (.bool (vnB ns)) ∧ Below w.heap.size w w' := by
  rcases h with rfl | ⟨g, o, rfl, hc⟩
  · go_enter Tryz.func49, Tryz.ntmps49
    go_wp2_with fail; refine wp_loop_rounds 1 ?_; rw [rounds_succ]; go_wp2_with fail; refine (inRange_no 0 1 12 _ (by omega)).mono ?_; rintro e w' ⟨rfl, rfl⟩; go_wp2_with fail; go_ret; exact ⟨rfl, by go_grown⟩
  have HC := Lib.hid hc; have HP := Lib.hid (fun (k : Nat) (_ : k = 0) (p : Int) (e : ¬ p = -1) => (by rw [pB_zero]; exact decide_eq_false e : pB p 0 = false)); clear hc; go_enter Tryz.func49, Tryz.ntmps49; go_wp2_with fail
  go_loopw [3] (fun i wr => ∃ k : Nat, k ≤ ns.length ∧ i = .int .i64 k ∧ Hid (∀ j, j < k → okN ns j = true) ∧ Below w.heap.size w wr) (fun i _ => ns.length - (intOf i).toNat)
  case atStart => exact ⟨0, Nat.zero_le _, rfl, fun j hj => by omega, by go_grown⟩
  case round =>
    obtain ⟨k, hk, rfl, HA, hB⟩ := hrel
    by_cases hlt : k < ns.length
    · obtain ⟨c0, c1, c2, c3, c4⟩ := nd_at HC.out hB hlt
      have hnp : pB (ns.getD k nd0).1 k = false → vnB ns = false := fun e => vn_no2 hlt (by unfold okN; rw [e]; rfl)
      have hnm : mB (ns.getD k nd0) = false → vnB ns = false := fun e => vn_no2 hlt (by unfold okN; rw [e]; simp)
      have hyes : pB (ns.getD k nd0).1 k = true → mB (ns.getD k nd0) = true → ∀ j, j < k + 1 → okN ns j = true := fun e1 e2 => rng_more HA.out (by unfold okN; rw [e1, e2]; rfl)
      generalize ns.getD k nd0 = nd at c0 c1 c2 c3 c4 hnp hnm hyes; obtain ⟨x0, x1, x2, x3, x4⟩ := nd; dsimp only at c0 c1 c2 c3 c4 hnp hnm hyes
      obtain ⟨b1, h1⟩ : ∃ b, (decide (0 ≤ x1) && decide (x1 ≤ 1000)) = b := ⟨_, rfl⟩
      obtain ⟨b2, h2⟩ : ∃ b, (decide (0 ≤ x2) && decide (x2 ≤ 500)) = b := ⟨_, rfl⟩
      obtain ⟨b3, h3⟩ : ∃ b, (decide (0 ≤ x3) && decide (x3 ≤ 500)) = b := ⟨_, rfl⟩
      obtain ⟨b4, h4⟩ : ∃ b, (decide (0 ≤ x4) && decide (x4 ≤ 20)) = b := ⟨_, rfl⟩
      have hmm : mB (x0, x1, x2, x3, x4) = (b1 && b2 && b3 && b4) := by rw [← h1, ← h2, ← h3, ← h4]; rfl
      have C1 := fun W => sinRange x1 0 1000 W
      have C2 := fun W => sinRange x2 0 500 W
      have C3 := fun W => sinRange x3 0 500 W
      have C4 := fun W => sinRange x4 0 20 W
      rw [h1] at C1; rw [h2] at C2; rw [h3] at C3; rw [h4] at C4; rw [hmm] at hnm hyes; have HNP := Lib.hid hnp; have HNM := Lib.hid hnm; have HY := Lib.hid hyes; have HB := Lib.hid hB; clear h1 h2 h3 h4 hmm hnp hnm hyes hB
      by_cases k0 : k = 0
      · have e0 : ((k : Int) == 0) = true := by simp; omega
        have e1 : (k == 0) = true := by simpa using k0
        have e2 : decide (0 < (k : Int)) = false := decide_eq_false (by omega); have e3 : decide (0 < k) = false := decide_eq_false (by omega)
        by_cases hp : x0 = -1
        · have HP2 : Hid (pB x0 k = true) := by show pB x0 k = true; rw [k0, pB_zero]; exact decide_eq_true hp
          clear k0 HNP; subst hp
          cases b1 with
          | false =>
            have HV : Hid (vnB ns = false) := HNM.out (by simp); go_wp2_with fail; refine (C1 _).mono ?_; rintro e w' ⟨rfl, rfl⟩; go_wp2_with fail; go_ret; exact ⟨ret_bool HV.out.symm, HB.out.alloc HB.out.size _⟩
          | true =>
            cases b2 with
            | false =>
              have HV : Hid (vnB ns = false) := HNM.out (by simp); go_wp2_with fail; refine (C1 _).mono ?_; rintro e w' ⟨rfl, rfl⟩; go_wp2_with fail; refine (C2 _).mono ?_; rintro e w' ⟨rfl, rfl⟩; go_wp2_with fail; go_ret; exact ⟨ret_bool HV.out.symm, HB.out.alloc HB.out.size _⟩
            | true =>
              cases b3 with
              | false =>
                have HV : Hid (vnB ns = false) := HNM.out (by simp); go_wp2_with fail; refine (C1 _).mono ?_; rintro e w' ⟨rfl, rfl⟩; go_wp2_with fail; refine (C2 _).mono ?_; rintro e w' ⟨rfl, rfl⟩; go_wp2_with fail; refine (C3 _).mono ?_; rintro e w' ⟨rfl, rfl⟩; go_wp2_with fail; go_ret; exact ⟨ret_bool HV.out.symm, HB.out.alloc HB.out.size _⟩
              | true =>
                cases b4 with
                | false =>
                  have HV : Hid (vnB ns = false) := HNM.out (by simp); go_wp2_with fail; refine (C1 _).mono ?_; rintro e w' ⟨rfl, rfl⟩; go_wp2_with fail; refine (C2 _).mono ?_; rintro e w' ⟨rfl, rfl⟩; go_wp2_with fail; refine (C3 _).mono ?_; rintro e w' ⟨rfl, rfl⟩; go_wp2_with fail; refine (C4 _).mono ?_; rintro e w' ⟨rfl, rfl⟩; go_wp2_with fail; go_ret; exact ⟨ret_bool HV.out.symm, HB.out.alloc HB.out.size _⟩
                | true =>
                  have HV := Lib.hid (HY.out HP2.out (by simp)); go_wp2_with fail; refine (C1 _).mono ?_; rintro e w' ⟨rfl, rfl⟩; go_wp2_with fail; refine (C2 _).mono ?_; rintro e w' ⟨rfl, rfl⟩; go_wp2_with fail; refine (C3 _).mono ?_; rintro e w' ⟨rfl, rfl⟩; go_wp2_with fail; refine (C4 _).mono ?_; rintro e w' ⟨rfl, rfl⟩; go_wp2_with fail
                  go_roundw
                  case rel => exact ⟨k + 1, by omega, by go_num, HV.out, HB.out.alloc HB.out.size _⟩
                  case measure => simp [intOf]; omega
        · have HV : Hid (vnB ns = false) := HNP.out (by rw [k0]; exact HP.out 0 rfl x0 hp)
          have ep : (x0 == -1) = false := by simpa using hp
          have ep2 : (x0 != -1) = true := by simpa using hp
          have ep3 : decide (x0 = -1) = false := decide_eq_false hp; clear k0 HNP; go_wp2_with fail; go_ret; exact ⟨ret_bool HV.out.symm, HB.out.alloc HB.out.size _⟩
      · have e0 : ((k : Int) == 0) = false := by simp; omega
        have e1 : (k == 0) = false := by simpa using k0
        have e2 : decide (0 < (k : Int)) = true := decide_eq_true (by omega); have e3 : decide (0 < k) = true := decide_eq_true (by omega)
        have e4 : IntKind.i64.wrap ((k : Int) - 1) = (k : Int) - 1 := by rw [IntKind.wrap_i64]; omega
        have hpb : pB x0 k = (decide (0 ≤ x0) && decide (x0 ≤ (k : Int) - 1)) := by rw [pB_pos _ (by omega), inN_range]; rfl
        have C0 := fun W => sinRange x0 0 ((k : Int) - 1) W
        obtain ⟨b0, h0⟩ : ∃ b, (decide (0 ≤ x0) && decide (x0 ≤ (k : Int) - 1)) = b := ⟨_, rfl⟩
        rw [h0] at hpb C0; have HPB := Lib.hid hpb; clear h0 hpb k0
        cases b0 with
        | false =>
          have HV : Hid (vnB ns = false) := HNP.out HPB.out; clear HNP; go_wp2_with fail; refine (C0 _).mono ?_; rintro e w' ⟨rfl, rfl⟩; go_wp2_with fail; go_ret; exact ⟨ret_bool HV.out.symm, HB.out.alloc HB.out.size _⟩
        | true =>
          have HP2 : Hid (pB x0 k = true) := HPB.out; clear HNP HPB
          cases b1 with
          | false =>
            have HV : Hid (vnB ns = false) := HNM.out (by simp); go_wp2_with fail; refine (C0 _).mono ?_; rintro e w' ⟨rfl, rfl⟩; go_wp2_with fail; refine (C1 _).mono ?_; rintro e w' ⟨rfl, rfl⟩; go_wp2_with fail; go_ret; exact ⟨ret_bool HV.out.symm, HB.out.alloc HB.out.size _⟩
          | true =>
            cases b2 with
            | false =>
              have HV : Hid (vnB ns = false) := HNM.out (by simp); go_wp2_with fail; refine (C0 _).mono ?_; rintro e w' ⟨rfl, rfl⟩; go_wp2_with fail; refine (C1 _).mono ?_; rintro e w' ⟨rfl, rfl⟩; go_wp2_with fail; refine (C2 _).mono ?_; rintro e w' ⟨rfl, rfl⟩; go_wp2_with fail; go_ret; exact ⟨ret_bool HV.out.symm, HB.out.alloc HB.out.size _⟩
            | true =>
              cases b3 with
              | false =>
                have HV : Hid (vnB ns = false) := HNM.out (by simp); go_wp2_with fail; refine (C0 _).mono ?_; rintro e w' ⟨rfl, rfl⟩; go_wp2_with fail; refine (C1 _).mono ?_; rintro e w' ⟨rfl, rfl⟩; go_wp2_with fail; refine (C2 _).mono ?_; rintro e w' ⟨rfl, rfl⟩; go_wp2_with fail; refine (C3 _).mono ?_; rintro e w' ⟨rfl, rfl⟩; go_wp2_with fail; go_ret; exact ⟨ret_bool HV.out.symm, HB.out.alloc HB.out.size _⟩
              | true =>
                cases b4 with
                | false =>
                  have HV : Hid (vnB ns = false) := HNM.out (by simp); go_wp2_with fail; refine (C0 _).mono ?_; rintro e w' ⟨rfl, rfl⟩; go_wp2_with fail; refine (C1 _).mono ?_; rintro e w' ⟨rfl, rfl⟩; go_wp2_with fail; refine (C2 _).mono ?_; rintro e w' ⟨rfl, rfl⟩; go_wp2_with fail; refine (C3 _).mono ?_; rintro e w' ⟨rfl, rfl⟩; go_wp2_with fail; refine (C4 _).mono ?_; rintro e w' ⟨rfl, rfl⟩; go_wp2_with fail; go_ret; exact ⟨ret_bool HV.out.symm, HB.out.alloc HB.out.size _⟩
                | true =>
                  have HV := Lib.hid (HY.out HP2.out (by simp)); go_wp2_with fail; refine (C0 _).mono ?_; rintro e w' ⟨rfl, rfl⟩; go_wp2_with fail; refine (C1 _).mono ?_; rintro e w' ⟨rfl, rfl⟩; go_wp2_with fail; refine (C2 _).mono ?_; rintro e w' ⟨rfl, rfl⟩; go_wp2_with fail; refine (C3 _).mono ?_; rintro e w' ⟨rfl, rfl⟩; go_wp2_with fail; refine (C4 _).mono ?_; rintro e w' ⟨rfl, rfl⟩; go_wp2_with fail
                  go_roundw
                  case rel => exact ⟨k + 1, by omega, by go_num, HV.out, HB.out.alloc HB.out.size _⟩
                  case measure => simp [intOf]; omega
    · obtain rfl : k = ns.length := by omega
      have CE := fun W => sinRange (ns.length : Int) 1 12 W
      rw [← vn_end HA.out] at CE; have HB := Lib.hid hB; clear HA hB; go_wp2_with fail; refine (CE _).mono ?_; rintro e w' ⟨rfl, rfl⟩; go_wp2_with fail; go_ret; exact ⟨rfl, HB.out⟩
theorem kids_len (ns : List Nd) (at_ : Int) : (kidsF ns at_).length ≤ ns.length := kidsTo_len ns at_ _
theorem skids (a : Option Addr) (cap : Nat) (ns : List Nd) (at_ : Int) (w : World) (h : IsNd w a ns) (hv : vnB ns = true) :
  Calls Tryz.prog 126 #[.slice a ns.length cap, .int .i64 at_] w (OutI w (kidsF ns at_)) := by
 obtain ⟨l1, l12, _⟩ := vn_is hv; obtain ⟨i0, hi0, hz0, hz1, hz2⟩ := info_parts infoInt
 rcases h with rfl | ⟨g, o, rfl, hc⟩
 ·simp at l1
 have HC := Lib.hid hc; clear hc hv; go_enter Tryz.func126, Tryz.ntmps126; go_wp2_with fail
 go_loopw [5, 6] (fun v i wr => ∃ k : Nat, k ≤ ns.length ∧ i = .int .i64 k ∧ OwnI wr w.heap.size v (kidsTo ns at_ k) ∧ Below w.heap.size w wr) (fun _ i _ => ns.length - (intOf i).toNat)
 case atStart => exact ⟨0, Nat.zero_le _, rfl, OwnI.new (Below.refl _ w), by go_grown⟩
 case round =>
  obtain ⟨k, hk, rfl, hO, hB⟩ := hrel; have hsz := hB.size
  by_cases hlt : k < ns.length
  ·have c0 := (nd_at HC.out hB hlt).1
   have hyes : (ns.getD k nd0).1 = at_ → kidsTo ns at_ (k + 1) = kidsTo ns at_ k ++ [(k : Int)] := fun e => kidsTo_yes e
   have hno : ¬ (ns.getD k nd0).1 = at_ → kidsTo ns at_ (k + 1) = kidsTo ns at_ k := fun e => kidsTo_no e
   have hll := kidsTo_len ns at_ k; generalize (ns.getD k nd0).1 = x0 at c0 hyes hno; generalize kidsTo ns at_ k = ks at hyes hno hll hO
   by_cases hp : x0 = at_
   ·have HY := Lib.hid (hyes hp)
    subst hp; clear hyes hno
    go_wp2_with (first | (at_builtin; refine wpList_append_own _ rfl (.tmp 21) (.tmp 23) _ rfl w.heap.size 3 i0 (.int .i64 0) 1 8 Tryz.underlying32 hi0 hz0 hz1 hz2 rfl (by decide) _ _ _ rfl (hO.alloc _) ⟨wr.heap.size, 0, none⟩ 1 1 [.int .i64 (k : Int)] rfl rfl (cell_one_new _ _ _) (fun x hx => by simp at hx; subst hx; rfl) (by unfold maxLen; omega) (by omega) (by simp; omega) ?_; intro v3 w3 hown3 hgrow3 hnil3))
    have HR : Hid (OwnI w3 w.heap.size v3 (kidsTo ns x0 (k + 1)) ∧ Below w.heap.size w w3) := ⟨by rw [HY.out]; exact OwnI.snoc hown3, (hB.alloc hsz _).grown hgrow3 (by simp; omega) hO.grow⟩
    clear hO hown3 hgrow3 hnil3 hB
    go_roundw
    case rel => exact ⟨k + 1, by omega, by go_num, HR.out.1, HR.out.2⟩
    case measure => simp [intOf]; omega
   ·have HY := Lib.hid (hno hp)
    have eb : (x0 == at_) = false := by simpa using hp
    have HO := Lib.hid hO; have HB := Lib.hid hB; clear hyes hno hp hO hB; go_wp2_with fail
    go_roundw
    case rel => exact ⟨k + 1, by omega, by go_num, by rw [HY.out]; exact HO.out, HB.out⟩
    case measure => simp [intOf]; omega
  ·have HO := Lib.hid hO
   have HB := Lib.hid hB; clear hO hB; go_wp2_with fail; go_ret; exact ⟨_, rfl, by rw [show k = ns.length from by omega] at HO; exact HO.out, HB.out⟩
theorem iKids (a : Option Addr) (cap : Nat) (ns : List Nd) (at_ : Int) (w : World) (h : IsNd w a ns) (hn : ns.length ≤ 1048576) (hcap : ns.length ≤ cap) :
    Calls Tryz.prog 157 #[.slice a ns.length cap, .int .i64 at_] w (OutI w (kidsV ns at_)) := by
  have VN := iVN a cap ns _ h hn hcap
  have CI := fun W => iisNode a ns.length cap at_ W hn
  skip
  skip
  cases hv : vnB ns with
  | false =>
    rw [kids_no (.inl hv)]; rw [hv] at VN; clear hv h; go_enter Tryz.func157, Tryz.ntmps157; go_wp2_with fail; refine VN.mono ?_; rintro e w1 ⟨rfl, C⟩; go_wp2_with fail; go_ret; exact outI_nil C
  | true =>
  rw [hv] at VN
  cases hi : inN ns.length at_ with
  | false =>
    rw [kids_no (.inr hi)]; rw [hi] at CI; clear hv hi h; go_enter Tryz.func157, Tryz.ntmps157; go_wp2_with fail; refine VN.mono ?_; rintro e w1 ⟨rfl, C⟩; go_wp2_with fail; refine (CI _).mono ?_; rintro e w' ⟨rfl, rfl⟩; go_wp2_with fail; go_ret; exact outI_nil C
  | true =>
    rw [hi] at CI; rw [kids_yes hv hi]; obtain ⟨i0, hi0, hz0, hz1, hz2⟩ := info_parts infoInt; have HH := Lib.hid h; obtain ⟨l1, l12, _⟩ := vn_is hv
    rcases h with rfl | ⟨g, o, rfl, hc⟩
    · simp at l1
    have HC := Lib.hid hc; clear hi hc hv; go_enter Tryz.func157, Tryz.ntmps157; go_wp2_with fail; refine VN.mono ?_; rintro e w1 ⟨rfl, C⟩; go_wp2_with fail; refine (CI _).mono ?_; rintro e w' ⟨rfl, rfl⟩; clear VN CI; go_wp2_with fail
    go_loopw [5, 20] (fun v i wr => ∃ k : Nat, k ≤ ns.length ∧ i = .int .i64 k ∧ OwnI wr w.heap.size v (kidsTo ns at_ k) ∧ Below w.heap.size w wr) (fun _ i _ => ns.length - (intOf i).toNat)
    case atStart => exact ⟨0, Nat.zero_le _, rfl, OwnI.new C, C.alloc C.size _⟩
    case round =>
      clear C; obtain ⟨k, hk, rfl, hO, hB⟩ := hrel; have hsz := hB.size
      by_cases hlt : k < ns.length
      · obtain ⟨c0, c1, c2, c3, c4⟩ := nd_at HC.out hB hlt
        have hyes : (ns.getD k nd0).1 = at_ → kidsTo ns at_ (k + 1) = kidsTo ns at_ k ++ [(k : Int)] := fun e => kidsTo_yes e
        have hno : ¬ (ns.getD k nd0).1 = at_ → kidsTo ns at_ (k + 1) = kidsTo ns at_ k := fun e => kidsTo_no e
        have hll := kidsTo_len ns at_ k; generalize ns.getD k nd0 = nd at c0 c1 c2 c3 c4 hyes hno; obtain ⟨x0, x1, x2, x3, x4⟩ := nd; dsimp only at c0 c1 c2 c3 c4 hyes hno; generalize kidsTo ns at_ k = ks at hyes hno hll hO
        obtain ⟨Wa, hWa⟩ : ∃ Wa, wr.alloc (.cells #[.int .i64 x0, .int .i64 x1, .int .i64 x2, .int .i64 x3, .int .i64 x4] 100) = Wa := ⟨_, rfl⟩
        have K0 : Blk Wa wr.heap.size 100 #[.int .i64 x0, .int .i64 x1, .int .i64 x2, .int .i64 x3, .int .i64 x4] := by rw [← hWa]; exact Blk.new _ _ _
        have kb0 := K0.cell 0
        dsimp at kb0
        have hOa : OwnI Wa w.heap.size u5 ks := by rw [← hWa]; exact World.ownsRow.alloc hO _
        have hBa : Below w.heap.size w Wa := by rw [← hWa]; exact hB.alloc hsz _
        have hsa := hBa.size; clear hO hB K0
        by_cases hp : x0 = at_
        · have HY := Lib.hid (hyes hp)
          subst hp; clear hyes hno
          go_wp2_with (first | (at_builtin; refine wpList_append_own _ rfl (.tmp 29) (.tmp 31) _ rfl w.heap.size 3 i0 (.int .i64 0) 1 8 Tryz.underlying32 hi0 hz0 hz1 hz2 rfl (by decide) _ _ _ rfl (hOa.alloc _) ⟨Wa.heap.size, 0, none⟩ 1 1 [.int .i64 (k : Int)] rfl rfl (cell_one_new _ _ _) (fun x hx => by simp at hx; subst hx; rfl) (by unfold maxLen; omega) (by omega) (by simp; omega) ?_; intro v3 w3 hown3 hgrow3 hnil3))
          have HR : Hid (OwnI w3 w.heap.size v3 (kidsTo ns x0 (k + 1)) ∧ Below w.heap.size w w3) := ⟨by rw [HY.out]; exact OwnI.snoc hown3, (hBa.alloc hsa _).grown hgrow3 (by simp; omega) hOa.grow⟩
          clear hOa hown3 hgrow3 hnil3 hBa hWa kb0
          go_roundw
          case rel => exact ⟨k + 1, by omega, by go_num, HR.out.1, HR.out.2⟩
          case measure => simp [intOf]; omega
        · have HY := Lib.hid (hno hp)
          have eb : (x0 == at_) = false := by simpa using hp
          have HO := Lib.hid hOa; have HB := Lib.hid hBa; clear hyes hno hp hOa hBa; go_wp2_with fail
          go_roundw
          case rel => exact ⟨k + 1, by omega, by go_num, by rw [HY.out]; exact HO.out, HB.out⟩
          case measure => simp [intOf]; omega
      · have HO := Lib.hid hO
        have HB := Lib.hid hB; clear hO hB; go_wp2_with fail; go_ret; exact ⟨_, rfl, by rw [show k = ns.length from by omega] at HO; exact HO.out, HB.out⟩
theorem flatNd_gate : ∀ (ns : List Nd) (k : Nat) (x : Int), k < ns.length → (flatNd ns).set (k * 5 + 1) x = flatNd (ns.set k ((ns.getD k nd0).1, x, (ns.getD k nd0).2.2)) := by
  intro ns
  induction ns with
  | nil => intro k x h; simp at h
  | cons h t ih =>
    intro k x hk
    cases k with
    | zero => rfl
    | succ k =>
      have := ih k x (by simpa using hk); rw [show (k + 1) * 5 + 1 = k * 5 + 1 + 1 + 1 + 1 + 1 + 1 from by omega]
      show h.1 :: h.2.1 :: h.2.2.1 :: h.2.2.2.1 :: h.2.2.2.2 :: ((flatNd t).set (k * 5 + 1) x) = _
      rw [this]; rfl
def sgB (ns : List Nd) (at_ wt : Int) : Bool := vnB ns && inN ns.length at_ && (decide (0 ≤ wt) && decide (wt ≤ 1000))
def sgL (ns : List Nd) (at_ wt : Int) : List Nd := ns.set at_.toNat ((ns.getD at_.toNat nd0).1, wt, (ns.getD at_.toNat nd0).2.2)
theorem gate_no {ns : List Nd} {at_ wt : Int} (h : vnB ns = false ∨ inN ns.length at_ = false ∨ (decide (0 ≤ wt) && decide (wt ≤ 1000)) = false) : sgB ns at_ wt = false := by
 unfold sgB; rcases h with h | h | h <;> rw [h] <;> simp
def OutNd (w : World) (b : Bool) (L : List Nd) (e : Ending) (w' : World) : Prop := (b = false → e = .returned (.slice none 0 0)) ∧ (b = true → ∃ g cap, e = .returned (.slice (some ⟨g, 0, none⟩) L.length cap) ∧ w.heap.size ≤ g ∧ Flat w' g 100 (flatNd L) ∧ L.length ≤ cap) ∧ Below w.heap.size w w'
theorem outNd_no {w w' : World} {L : List Nd} {e : Ending} (he : e = .returned (.slice none 0 0)) (h : Below w.heap.size w w') : OutNd w false L e w' := ⟨fun _ => he, (fun c => by cases c), h⟩
theorem outNd_yes {w w' : World} {L : List Nd} {g cap n : Nat} {e : Ending} (he : e = .returned (.slice (some ⟨g, 0, none⟩) n cap)) (hn : n = L.length) (hg : w.heap.size ≤ g) (hF : Flat w' g 100 (flatNd L)) (hc : L.length ≤ cap) (h : Below w.heap.size w w') : OutNd w true L e w' :=
 ⟨(fun c => by cases c), fun _ => ⟨g, cap, by rw [he, hn], hg, hF, hc⟩, h⟩
theorem flat_newNd {w1 : World} {base : Nat} {v1 : Value} {ns : List Nd} (h : w1.ownsRow base 100 5 v1 (0 + ns.length) ([] ++ valsNd ns)) (hn : 1 ≤ ns.length) : ∃ g cap, v1 = .slice (some ⟨g, 0, none⟩) ns.length cap ∧ base ≤ g ∧ Flat w1 g 100 (flatNd ns) ∧ ns.length ≤ cap := by
 rw [Nat.zero_add, List.nil_append] at h
 rcases Flat.own (zs := flatNd ns) h with ⟨_, hz⟩ | r
 ·omega
 ·exact r
theorem gate_flat {w : World} {g k : Nat} {ns : List Nd} {x : Int} (hF : Flat w g 100 (flatNd ns)) (hk : k < ns.length) : Flat (w.setCell ⟨g, k * 5 + 1, none⟩ (.int .i64 x)) g 100 (flatNd (sgL ns (k : Int) x)) := by
 have hl := flatNd_len ns; have a := hF.set_ (i := k * 5 + 1) (by omega) x; rw [flatNd_gate ns k x hk] at a; exact a
theorem iSetGate (a : Option Addr) (cap : Nat) (ns : List Nd) (at_ wt : Int) (w : World) (h : IsNd w a ns) (hn : ns.length ≤ 1048576) (hcap : ns.length ≤ cap) :
    Calls Tryz.prog 77 #[.slice a ns.length cap, .int .i64 at_, .int .i64 wt] w (OutNd w (sgB ns at_ wt) (sgL ns at_ wt)) := by
  have VN := iVN a cap ns _ h hn hcap
  have CI := fun W => iisNode a ns.length cap at_ W hn
  skip
  skip
  have CW := fun W => iwithin wt 1000 W
  cases hv : vnB ns with
  | false =>
    rw [gate_no (.inl hv)]; rw [hv] at VN; clear hv h; go_enter Tryz.func77, Tryz.ntmps77; go_wp2_with fail; refine VN.mono ?_; rintro e w1 ⟨rfl, C⟩; go_wp2_with fail; go_ret; exact outNd_no rfl C
  | true =>
  rw [hv] at VN
  cases hi : inN ns.length at_ with
  | false =>
    rw [gate_no (.inr (.inl hi))]; rw [hi] at CI; clear hv hi h; go_enter Tryz.func77, Tryz.ntmps77; go_wp2_with fail; refine VN.mono ?_; rintro e w1 ⟨rfl, C⟩; go_wp2_with fail; refine (CI _).mono ?_; rintro e w' ⟨rfl, rfl⟩; go_wp2_with fail; go_ret; exact outNd_no rfl C
  | true =>
    rw [hi] at CI; have HH := Lib.hid h
    cases hw : (decide (0 ≤ wt) && decide (wt ≤ 1000)) with
    | false =>
      rw [gate_no (.inr (.inr hw))]; rw [hw] at CW; clear hw hi hv h; go_enter Tryz.func77, Tryz.ntmps77; go_wp2_with fail; refine VN.mono ?_; rintro e w1 ⟨rfl, C⟩; go_wp2_with fail; refine (CI _).mono ?_; rintro e w' ⟨rfl, rfl⟩; go_wp2_with fail; refine (CW _).mono ?_; rintro e w' ⟨rfl, rfl⟩; clear VN CI CW; go_wp2_with fail; go_ret; exact outNd_no rfl C
    | true =>
      rw [show sgB ns at_ wt = true from by unfold sgB; rw [hv, hi, hw]; rfl]; rw [hw] at CW; obtain ⟨k, rfl, hk⟩ := inN_yes hi; obtain ⟨i0, hi0, hz0, hz1, hz2⟩ := info_parts infoNd
      have b0 : (0 : Int) ≤ (k : Int) := by omega
      have b1 : (k : Int) < (ns.length : Int) := by omega
      have hl5 := flatNd_len ns; clear hw hi hv h; go_enter Tryz.func77, Tryz.ntmps77; go_wp2_with fail; refine VN.mono ?_; rintro e w1 ⟨rfl, C⟩; go_wp2_with fail; refine (CI _).mono ?_; rintro e w' ⟨rfl, rfl⟩; go_wp2_with fail; refine (CW _).mono ?_; rintro e w' ⟨rfl, rfl⟩; clear VN CI CW; have hrd := (nd_reads (nd_below HH.out C)).alloc (Nat.le_refl _) (.cells #[] 100); have hsz := C.size
      have HB : Hid (∀ W, (w1.alloc (.cells #[] 100)).grownBy W (some w1.heap.size) → Below w.heap.size w W) := fun W hg => (C.alloc hsz _).grown hg (by simp; omega) (fun q hq => by have e : w1.heap.size = q := Option.some.inj hq; omega)
      clear C
      go_wp2_with (first | (at_builtin; refine wpList_append_any _ rfl (.tmp 22) (.tmp 23) _ rfl w.heap.size 100 i0 _ 5 40 Tryz.underlying41 hi0 hz0 hz1 hz2 rfl (by omega) _ 0 [] rfl ⟨rfl, .inr ⟨w1.heap.size, 0, #[], rfl, hsz, Blk.new _ _ _, Nat.le_refl _, by unfold maxLen; omega, rfl, rfl⟩⟩ w1.heap.size a ns.length cap (valsNd ns) rfl hrd (valsNd_one ns) (by unfold maxLen; omega) (by omega) (by simp; omega) ?_; intro v3 w3 hown3 hgrow3 hat3; obtain ⟨g3, cp, rfl, lg3, F3, hcc⟩ := flat_newNd hown3 (by omega); have kc := F3.cell (j := k * 5 + 1) (by omega); have kf := F3.frozen (k * 5 + 1); have hB3 := HB.out w3 hgrow3; replace F3 := Lib.hid F3; replace hB3 := Lib.hid hB3; clear hown3 hgrow3 hat3 hrd))
      go_ret; exact outNd_yes rfl (by unfold sgL; rw [List.length_set]) lg3 (gate_flat F3.out hk) (by unfold sgL; rw [List.length_set]; exact hcc) (hB3.out.setCell (p := ⟨g3, k * 5 + 1, none⟩) lg3 _)
theorem sSetGate (a : Option Addr) (cap : Nat) (ns : List Nd) (at_ wt : Int) (w : World) (h : IsNd w a ns) (hn : ns.length ≤ 1048576) (hcap : ns.length ≤ cap) :
    Calls Tryz.prog 58 #[.slice a ns.length cap, .int .i64 at_, .int .i64 wt] w (OutNd w (sgB ns at_ wt) (sgL ns at_ wt)) := by
  have VN := svn a cap ns _ h hn
  have CI := fun W => sinRange at_ 0 ((ns.length : Int) - 1) W
  rw [inN_range] at CI
  have wn : IntKind.i64.wrap ((ns.length : Int) - 1) = (ns.length : Int) - 1 := by rw [IntKind.wrap_i64]; omega
  have CW := fun W => sinRange wt 0 1000 W
  cases hv : vnB ns with
  | false =>
    rw [gate_no (.inl hv)]; rw [hv] at VN; clear hv h; go_enter Tryz.func58, Tryz.ntmps58; go_wp2_with fail; refine VN.mono ?_; rintro e w1 ⟨rfl, C⟩; go_wp2_with fail; go_ret; exact outNd_no rfl C
  | true =>
  rw [hv] at VN
  cases hi : inN ns.length at_ with
  | false =>
    rw [gate_no (.inr (.inl hi))]; rw [hi] at CI; clear hv hi h; go_enter Tryz.func58, Tryz.ntmps58; go_wp2_with fail; refine VN.mono ?_; rintro e w1 ⟨rfl, C⟩; go_wp2_with fail; refine (CI _).mono ?_; rintro e w' ⟨rfl, rfl⟩; go_wp2_with fail; go_ret; exact outNd_no rfl C
  | true =>
    rw [hi] at CI; have HH := Lib.hid h
    cases hw : (decide (0 ≤ wt) && decide (wt ≤ 1000)) with
    | false =>
      rw [gate_no (.inr (.inr hw))]; rw [hw] at CW; clear hw hi hv h; go_enter Tryz.func58, Tryz.ntmps58; go_wp2_with fail; refine VN.mono ?_; rintro e w1 ⟨rfl, C⟩; go_wp2_with fail; refine (CI _).mono ?_; rintro e w' ⟨rfl, rfl⟩; go_wp2_with fail; refine (CW _).mono ?_; rintro e w' ⟨rfl, rfl⟩; clear VN CI CW; go_wp2_with fail; go_ret; exact outNd_no rfl C
    | true =>
      rw [show sgB ns at_ wt = true from by unfold sgB; rw [hv, hi, hw]; rfl]; rw [hw] at CW; obtain ⟨k, rfl, hk⟩ := inN_yes hi; obtain ⟨i0, hi0, hz0, hz1, hz2⟩ := info_parts infoNd
      have b0 : (0 : Int) ≤ (k : Int) := by omega
      have b1 : (k : Int) < (ns.length : Int) := by omega
      have hl5 := flatNd_len ns; clear hw hi hv h; go_enter Tryz.func58, Tryz.ntmps58; go_wp2_with fail; refine VN.mono ?_; rintro e w1 ⟨rfl, C⟩; go_wp2_with fail; refine (CI _).mono ?_; rintro e w' ⟨rfl, rfl⟩; go_wp2_with fail; refine (CW _).mono ?_; rintro e w' ⟨rfl, rfl⟩; clear VN CI CW; have hrd := (nd_reads (nd_below HH.out C)).alloc (Nat.le_refl _) (.cells #[] 100); have hsz := C.size
      have HB : Hid (∀ W, (w1.alloc (.cells #[] 100)).grownBy W (some w1.heap.size) → Below w.heap.size w W) := fun W hg => (C.alloc hsz _).grown hg (by simp; omega) (fun q hq => by have e : w1.heap.size = q := Option.some.inj hq; omega)
      clear C
      go_wp2_with (first | (at_builtin; refine wpList_append_any _ rfl (.tmp 24) (.tmp 25) _ rfl w.heap.size 100 i0 _ 5 40 Tryz.underlying41 hi0 hz0 hz1 hz2 rfl (by omega) _ 0 [] rfl ⟨rfl, .inr ⟨w1.heap.size, 0, #[], rfl, hsz, Blk.new _ _ _, Nat.le_refl _, by unfold maxLen; omega, rfl, rfl⟩⟩ w1.heap.size a ns.length cap (valsNd ns) rfl hrd (valsNd_one ns) (by unfold maxLen; omega) (by omega) (by simp; omega) ?_; intro v3 w3 hown3 hgrow3 hat3; obtain ⟨g3, cp, rfl, lg3, F3, hcc⟩ := flat_newNd hown3 (by omega); have kc := F3.cell (j := k * 5 + 1) (by omega); have kf := F3.frozen (k * 5 + 1); have hB3 := HB.out w3 hgrow3; replace F3 := Lib.hid F3; replace hB3 := Lib.hid hB3; clear hown3 hgrow3 hat3 hrd))
      go_ret; exact outNd_yes rfl (by unfold sgL; rw [List.length_set]) lg3 (gate_flat F3.out hk) (by unfold sgL; rw [List.length_set]; exact hcc) (hB3.out.setCell (p := ⟨g3, k * 5 + 1, none⟩) lg3 _)
theorem set_self {zs : List Int} {i : Nat} {z : Int} (h : zs.getD i 0 = z) (hi : i < zs.length) : zs.set i z = zs := by
 apply List.ext_getElem?
 intro j; rw [List.getElem?_set]
 by_cases e : i = j
 ·subst e
  rw [if_pos rfl, if_pos hi, List.getElem?_eq_getElem hi]; rw [List.getD_eq_getElem?_getD, List.getElem?_eq_getElem hi] at h; rw [← h]; rfl
 ·rw [if_neg e]
def passV (x : Nd) (c : Int) : Int := if c ≤ x.2.2.1 then 0 else if x.2.2.2.1 < c - x.2.2.1 then x.2.2.2.1 else c - x.2.2.1
theorem pass_bd {x : Nd} {c : Int} (hr : 0 ≤ x.2.2.2.1) (hc : 0 ≤ c) (hl : 0 ≤ x.2.2.1) : 0 ≤ passV x c ∧ passV x c ≤ c ∧ passV x c ≤ x.2.2.2.1 := by
 unfold passV; split
 ·exact ⟨Int.le_refl _, hc, hr⟩
 ·split <;> constructor <;> omega
theorem pass_min {x : Nd} {c : Int} (hr : 0 ≤ x.2.2.2.1) (hc : 0 ≤ c) (hl : 0 ≤ x.2.2.1) : passV x c = min x.2.2.2.1 (c - min x.2.2.1 c) := by
 unfold passV; split
 ·omega
 ·split <;> omega
def wk (ns : List Nd) (ks : List Int) : List Int := ks.map fun z => (ns.getD z.toNat nd0).2.1
theorem wk_len (ns : List Nd) (ks : List Int) : (wk ns ks).length = ks.length := by unfold wk; rw [List.length_map]
theorem wk_get (ns : List Nd) (ks : List Int) {i : Nat} (h : i < ks.length) : (wk ns ks).getD i 0 = (ns.getD (ks.getD i 0).toNat nd0).2.1 := by
 unfold wk
 have e : ks.getD i 0 = ks[i] := by rw [List.getD_eq_getElem?_getD, List.getElem?_eq_getElem h]; rfl
 rw [e, List.getD_eq_getElem?_getD, List.getElem?_map, List.getElem?_eq_getElem h]; rfl
def wts (ns : List Nd) (k : Int) : List Int := wk ns (kidsF ns k)
theorem wts_bd {ns : List Nd} (h : vnB ns = true) (k : Int) : ∀ z ∈ wts ns k, 0 ≤ z ∧ z ≤ 1000 := by
 intro z hz; unfold wts wk at hz; obtain ⟨y, hy, rfl⟩ := List.mem_map.1 hz; obtain ⟨j, rfl, hj, _⟩ := kids_bd hy; have := (vn_at h hj).1
 show 0 ≤ (ns.getD ((j : Int)).toNat nd0).2.1 ∧ _
 rw [show ((j : Int)).toNat = j from by omega]; exact this
theorem kids_len2 (ns : List Nd) (at_ : Int) : (kidsF ns at_).length ≤ ns.length := kidsTo_len ns at_ _
theorem wts_len {ns : List Nd} (h : vnB ns = true) (k : Int) : (wts ns k).length ≤ 12 := by
 unfold wts; rw [wk_len]; have := kids_len2 ns k; have := (vn_is h).2.1; omega
theorem wts_vw {ns : List Nd} (h : vnB ns = true) (k : Int) : vwB (wts ns k) = decide (0 < (wts ns k).sum) :=
 vw_sum ((allB_iff _ _).2 (wts_bd h k)) (wts_len h k)
theorem wts_pos {ns : List Nd} (h : vnB ns = true) (k : Int) : 0 ≤ (wts ns k).sum := list_nonneg (fun i hi => (wts_bd h k _ (getD_mem hi)).1)
theorem wts_zero {ns : List Nd} (h : vnB ns = true) (k : Int) : ((wts ns k).sum == 0) = !(vwB (wts ns k)) := by
 have := wts_pos h k; rw [wts_vw h k]
 by_cases e : (wts ns k).sum = 0
 ·rw [e]; rfl
 ·rw [decide_eq_true (by omega), beq_eq_false_iff_ne.2 e]; rfl
def giveV (ns : List Nd) (k : Int) (p : Int) : List Int := if vwB (wts ns k) = true then sa 2 p (wts ns k) else []
theorem give_len (ns : List Nd) (k : Int) (p : Int) : (giveV ns k p).length ≤ (kidsF ns k).length := by
 unfold giveV; split
 ·rw [sa_len]; unfold wts; rw [wk_len]; exact Nat.le_refl _
 ·simp
def putTo (cs ks vs : List Int) : Nat → List Int
 | 0 => cs
 | m + 1 => (putTo cs ks vs m).set (ks.getD m 0).toNat (vs.getD m 0)
theorem putTo_succ (cs ks vs : List Int) (m : Nat) : putTo cs ks vs (m + 1) = (putTo cs ks vs m).set (ks.getD m 0).toNat (vs.getD m 0) := rfl
theorem putTo_len (cs ks vs : List Int) : ∀ m, (putTo cs ks vs m).length = cs.length := by
 intro m
 induction m with
 | zero => rfl
 | succ m ih => rw [putTo_succ, List.length_set]; exact ih
theorem putTo_other {cs ks vs : List Int} {j : Nat} : ∀ m, (∀ i, i < m → (ks.getD i 0).toNat ≠ j) → (putTo cs ks vs m).getD j 0 = cs.getD j 0 := by
  intro m
  induction m with
  | zero => intro _; rfl
  | succ m ih =>
    intro h; rw [putTo_succ]
    by_cases hl : (ks.getD m 0).toNat < (putTo cs ks vs m).length
    · rw [getD_setZ j _ hl, if_neg (fun c => h m (by omega) c.symm)]
      exact ih (fun i hi => h i (by omega))
    · rw [List.set_eq_of_length_le (by omega)]
      exact ih (fun i hi => h i (by omega))
theorem putTo_at {cs ks vs : List Int} (hd : ∀ i j, i < j → j < ks.length → (ks.getD i 0).toNat ≠ (ks.getD j 0).toNat) (hb : ∀ i, i < ks.length → (ks.getD i 0).toNat < cs.length) {i : Nat} : ∀ m, i < m → m ≤ ks.length → (putTo cs ks vs m).getD (ks.getD i 0).toNat 0 = vs.getD i 0 := by
  intro m
  induction m with
  | zero => intro h; omega
  | succ m ih =>
    intro him hm; rw [putTo_succ, getD_setZ _ _ (by rw [putTo_len]; exact hb m (by omega))]
    by_cases e : i = m
    · subst e; rw [if_pos rfl]
    · rw [if_neg (hd i m (by omega) (by omega)), ih (by omega) (by omega)]
theorem putTo_zero {cs ks : List Int} : ∀ (m : Nat) (vs : List Int), (∀ i, vs.getD i 0 = 0) → (∀ i, i < m → (ks.getD i 0).toNat < cs.length ∧ cs.getD (ks.getD i 0).toNat 0 = 0) → putTo cs ks vs m = cs := by
  intro m
  induction m with
  | zero => intro _ _ _; rfl
  | succ m ih =>
    intro vs hv h; rw [putTo_succ, ih vs hv (fun i hi => h i (by omega)), hv m]; exact set_self (h m (by omega)).2 (h m (by omega)).1
theorem app_l {a b : List Int} {i : Nat} (h : i < a.length) : (a ++ b).getD i 0 = a.getD i 0 := by
 rw [List.getD_eq_getElem?_getD, List.getD_eq_getElem?_getD, List.getElem?_append_left h]
theorem app_r {a : List Int} {z : Int} : (a ++ [z]).getD a.length 0 = z := by
 rw [List.getD_eq_getElem?_getD, List.getElem?_append_right (Nat.le_refl _), Nat.sub_self]; rfl
theorem kidsTo_asc (ns : List Nd) (at_ : Int) : ∀ k i j, i < j → j < (kidsTo ns at_ k).length → (kidsTo ns at_ k).getD i 0 < (kidsTo ns at_ k).getD j 0 := by
  intro k
  induction k with
  | zero => intro i j _ h; exact absurd h (Nat.not_lt_zero _)
  | succ k ih =>
    intro i j hij hj
    by_cases h : (ns.getD k nd0).1 = at_
    · rw [kidsTo_yes h] at hj ⊢
      rw [List.length_append] at hj; have hj' : j < (kidsTo ns at_ k).length + 1 := hj
      by_cases e : j < (kidsTo ns at_ k).length
      · rw [app_l e, app_l (by omega)]
        exact ih i j hij e
      · have e2 : j = (kidsTo ns at_ k).length := by omega
        rw [app_l (by omega), e2, app_r]; obtain ⟨m, hm, hmk, _⟩ := kidsTo_mem ns at_ k _ (getD_mem (zs := kidsTo ns at_ k) (k := i) (by omega)); rw [hm]
        show (m : Int) < (k : Int)
        omega
    · rw [kidsTo_no h] at hj ⊢
      exact ih i j hij hj
theorem kid_at {ns : List Nd} {at_ : Int} {i : Nat} (h : i < (kidsF ns at_).length) : ∃ j : Nat, (kidsF ns at_).getD i 0 = (j : Int) ∧ j < ns.length ∧ (ns.getD j nd0).1 = at_ := kids_bd (getD_mem h)
theorem kid_ne {ns : List Nd} {at_ : Int} : ∀ i j, i < j → j < (kidsF ns at_).length → ((kidsF ns at_).getD i 0).toNat ≠ ((kidsF ns at_).getD j 0).toNat := fun i j hij hj => by
 have := kidsTo_asc ns at_ ns.length i j hij hj
 obtain ⟨a, ha, _⟩ := kid_at (ns := ns) (at_ := at_) (i := i) (by omega)
 obtain ⟨b, hb, _⟩ := kid_at hj; unfold kidsF at *
 omega
theorem kid_pos {ns : List Nd} {at_ : Int} {j : Nat} (h : (ns.getD j nd0).1 = at_) (hj : j < ns.length) : ∃ i, i < (kidsF ns at_).length ∧ (kidsF ns at_).getD i 0 = (j : Int) := by
 obtain ⟨i, hi, e⟩ := List.getElem_of_mem (kidsTo_in h ns.length hj); exact ⟨i, hi, by unfold kidsF; rw [List.getD_eq_getElem?_getD, List.getElem?_eq_getElem hi, e]; rfl⟩
def stepC (ns : List Nd) (cs : List Int) (k : Nat) : List Int := putTo cs (kidsF ns (k : Int)) (giveV ns (k : Int) (passV (ns.getD k nd0) (cs.getD k 0))) (giveV ns (k : Int) (passV (ns.getD k nd0) (cs.getD k 0))).length
def comeTo (ns : List Nd) (fl : Int) : Nat → List Int
 | 0 => (List.replicate ns.length 0).set 0 fl
 | k + 1 => stepC ns (comeTo ns fl k) k
theorem comeTo_succ (ns : List Nd) (fl : Int) (k : Nat) : comeTo ns fl (k + 1) = stepC ns (comeTo ns fl k) k := rfl
def comeF (ns : List Nd) (fl : Int) : List Int := comeTo ns fl ns.length
theorem comeTo_len (ns : List Nd) (fl : Int) : ∀ k, (comeTo ns fl k).length = ns.length := by
 intro k
 induction k with
 | zero => show ((List.replicate ns.length 0).set 0 fl).length = _; rw [List.length_set, List.length_replicate]
 | succ k ih => rw [comeTo_succ]; unfold stepC; rw [putTo_len]; exact ih
theorem comeTo_zero (ns : List Nd) (fl : Int) (j : Nat) (hn : 0 < ns.length) : (comeTo ns fl 0).getD j 0 = if j = 0 then fl else 0 := by
 show ((List.replicate ns.length 0).set 0 fl).getD j 0 = _
 rw [getD_setZ j fl (by rw [List.length_replicate]; exact hn)]
 by_cases e : j = 0
 ·rw [if_pos e, if_pos e]
 ·rw [if_neg e, if_neg e, List.getD_eq_getElem?_getD, List.getElem?_replicate]; split <;> rfl
theorem comeTo_stay {ns : List Nd} {fl : Int} {k j : Nat} (h : (ns.getD j nd0).1 ≠ (k : Int)) : (comeTo ns fl (k + 1)).getD j 0 = (comeTo ns fl k).getD j 0 := by
 rw [comeTo_succ]; unfold stepC; refine putTo_other _ (fun i hi c => ?_); have hl := give_len ns (k : Int) (passV (ns.getD k nd0) ((comeTo ns fl k).getD k 0))
 obtain ⟨q, hq, _, hp⟩ := kid_at (ns := ns) (at_ := (k : Int)) (i := i) (by omega)
 rw [hq] at c
 have : q = j := by omega
 rw [this] at hp; exact h hp
theorem comeTo_late {ns : List Nd} {fl : Int} {j : Nat} : ∀ d k, (∀ m : Nat, k ≤ m → (ns.getD j nd0).1 ≠ (m : Int)) → (comeTo ns fl (k + d)).getD j 0 = (comeTo ns fl k).getD j 0 := by
  intro d
  induction d with
  | zero => intro k _; rfl
  | succ d ih =>
    intro k h
    show (comeTo ns fl ((k + d) + 1)).getD j 0 = _
    rw [comeTo_stay (h (k + d) (by omega)), ih k h]
theorem comeTo_early {ns : List Nd} {fl : Int} {j : Nat} : ∀ k, (∀ m : Nat, m < k → (ns.getD j nd0).1 ≠ (m : Int)) → (comeTo ns fl k).getD j 0 = (comeTo ns fl 0).getD j 0 := by
 intro k
 induction k with
 | zero => intro _; rfl
 | succ k ih => intro h; rw [comeTo_stay (h k (by omega)), ih (fun m hm => h m (by omega))]
theorem come_own {ns : List Nd} (hv : vnB ns = true) {fl : Int} {j : Nat} (hj : j < ns.length) : (comeF ns fl).getD j 0 = (comeTo ns fl j).getD j 0 := by
 have b := vn_parI hv hj; unfold comeF; rw [show ns.length = j + (ns.length - j) from by omega]; exact comeTo_late _ _ (fun m hm c => by omega)
theorem come_spring {ns : List Nd} (hv : vnB ns = true) {fl : Int} : (comeF ns fl).getD 0 0 = fl := by
 rw [come_own hv (vn_is hv).1, comeTo_zero ns fl 0 (vn_is hv).1]; rfl
theorem csB_pass {ns : List Nd} (hv : vnB ns = true) {k : Nat} (hk : k < ns.length) {c : Int} (hc : 0 ≤ c) (hw : vwB (wts ns (k : Int)) = true) : csB (passV (ns.getD k nd0) c) (wts ns (k : Int)) = true := by
 obtain ⟨_, b, d, _⟩ := vn_at hv hk; have := pass_bd d.1 hc b.1; rw [cs_is (by omega)]; exact hw
theorem comeTo_bd {ns : List Nd} (hv : vnB ns = true) {fl : Int} (hf : 0 ≤ fl ∧ fl ≤ 500) : ∀ k, k ≤ ns.length → ∀ j, 0 ≤ (comeTo ns fl k).getD j 0 ∧ (comeTo ns fl k).getD j 0 ≤ 500 := by
  intro k
  induction k with
  | zero =>
    intro _ j; rw [comeTo_zero ns fl j (vn_is hv).1]
    split
    · exact hf
    · omega
  | succ k ih =>
    intro hk j; have ih := ih (by omega)
    by_cases hp : j < ns.length ∧ (ns.getD j nd0).1 = (k : Int)
    · obtain ⟨i, hi, he⟩ := kid_pos hp.2 hp.1
      rw [comeTo_succ]; unfold stepC
      by_cases hw : vwB (wts ns (k : Int)) = true
      · have hcs := csB_pass hv (k := k) (by omega) (ih k).1 hw
        have hg : giveV ns (k : Int) (passV (ns.getD k nd0) ((comeTo ns fl k).getD k 0)) = sa 2 (passV (ns.getD k nd0) ((comeTo ns fl k).getD k 0)) (wts ns (k : Int)) := if_pos hw
        have hlen : (sa 2 (passV (ns.getD k nd0) ((comeTo ns fl k).getD k 0)) (wts ns (k : Int))).length = (kidsF ns (k : Int)).length := by rw [sa_len]; unfold wts; rw [wk_len]
        rw [hg, hlen]; have := putTo_at (cs := comeTo ns fl k) (vs := sa 2 (passV (ns.getD k nd0) ((comeTo ns fl k).getD k 0)) (wts ns (k : Int))) (kid_ne (ns := ns) (at_ := (k : Int))) (fun i hi => by obtain ⟨q, hq, hql, _⟩ := kid_at hi; rw [hq, comeTo_len]; omega) (i := i) _ hi (Nat.le_refl _); rw [he] at this; rw [show ((j : Int)).toNat = j from by omega] at this; rw [this]; obtain ⟨_, _, hb⟩ := sa_facts hcs (step := 2) (by omega); have := hb i (by unfold wts; rw [wk_len]; exact hi); have := (cs_yes hcs).1
        omega
      · have hg : giveV ns (k : Int) (passV (ns.getD k nd0) ((comeTo ns fl k).getD k 0)) = [] := if_neg hw
        rw [hg]; exact ih j
    · by_cases hj : j < ns.length
      · rw [comeTo_stay (fun c => hp ⟨hj, c⟩)]; exact ih j
      · rw [List.getD_eq_getElem?_getD, List.getElem?_eq_none (by rw [comeTo_len]; omega)]
        exact ⟨Int.le_refl _, by show (0 : Int) ≤ 500; omega⟩
theorem come_bd {ns : List Nd} (hv : vnB ns = true) {fl : Int} (hf : 0 ≤ fl ∧ fl ≤ 500) (j : Nat) : 0 ≤ (comeF ns fl).getD j 0 ∧ (comeF ns fl).getD j 0 ≤ 500 := comeTo_bd hv hf ns.length (Nat.le_refl _) j
theorem come_kid {ns : List Nd} (hv : vnB ns = true) {fl : Int} (hf : 0 ≤ fl ∧ fl ≤ 500) {k : Nat} (hk : k < ns.length) {i : Nat} (hi : i < (kidsF ns (k : Int)).length) :
  (comeF ns fl).getD ((kidsF ns (k : Int)).getD i 0).toNat 0 = if vwB (wts ns (k : Int)) = true then (sa 2 (passV (ns.getD k nd0) ((comeF ns fl).getD k 0)) (wts ns (k : Int))).getD i 0 else 0 := by
 obtain ⟨j, hj, hjl, hp⟩ := kid_at hi; rw [hj, show ((j : Int)).toNat = j from by omega]; have b := vn_parI hv hjl
 have h1 : (comeF ns fl).getD j 0 = (comeTo ns fl (k + 1)).getD j 0 := by
  unfold comeF; rw [show ns.length = (k + 1) + (ns.length - (k + 1)) from by omega]; exact comeTo_late _ _ (fun m hm c => by omega)
 rw [h1, come_own hv hk, comeTo_succ]; unfold stepC
 by_cases hw : vwB (wts ns (k : Int)) = true
 ·have hg : giveV ns (k : Int) (passV (ns.getD k nd0) ((comeTo ns fl k).getD k 0)) = sa 2 (passV (ns.getD k nd0) ((comeTo ns fl k).getD k 0)) (wts ns (k : Int)) := if_pos hw
  have hlen : (sa 2 (passV (ns.getD k nd0) ((comeTo ns fl k).getD k 0)) (wts ns (k : Int))).length = (kidsF ns (k : Int)).length := by rw [sa_len]; unfold wts; rw [wk_len]
  rw [if_pos hw, hg, hlen]; have := putTo_at (cs := comeTo ns fl k) (vs := sa 2 (passV (ns.getD k nd0) ((comeTo ns fl k).getD k 0)) (wts ns (k : Int))) (kid_ne (ns := ns) (at_ := (k : Int))) (fun i hi => by obtain ⟨q, hq, hql, _⟩ := kid_at hi; rw [hq, comeTo_len]; omega) (i := i) _ hi (Nat.le_refl _); rw [hj] at this; rw [show ((j : Int)).toNat = j from by omega] at this; exact this
 ·have hg : giveV ns (k : Int) (passV (ns.getD k nd0) ((comeTo ns fl k).getD k 0)) = [] := if_neg hw
  rw [if_neg hw, hg]
  show (comeTo ns fl k).getD j 0 = 0
  rw [comeTo_early k (fun m hm c => by omega), comeTo_zero ns fl j (by omega), if_neg (by omega)]
theorem step_zero {ns : List Nd} (hv : vnB ns = true) {fl : Int} {k : Nat} (hk : k < ns.length) (hw : ¬ vwB (wts ns (k : Int)) = true) : putTo (comeTo ns fl k) (kidsF ns (k : Int)) (List.replicate (kidsF ns (k : Int)).length 0) (kidsF ns (k : Int)).length = comeTo ns fl (k + 1) := by
 rw [comeTo_succ]; unfold stepC; have hg : giveV ns (k : Int) (passV (ns.getD k nd0) ((comeTo ns fl k).getD k 0)) = [] := if_neg hw; rw [hg]
 show _ = comeTo ns fl k
 refine putTo_zero _ _ (fun i => ?_) (fun i hi => ?_)
 ·rw [List.getD_eq_getElem?_getD, List.getElem?_replicate]; split <;> rfl
 ·obtain ⟨j, hj, hjl, hp⟩ := kid_at hi
  have b := vn_parI hv hjl; rw [hj, show ((j : Int)).toNat = j from by omega, comeTo_len]; refine ⟨hjl, ?_⟩; rw [comeTo_early k (fun m hm c => by omega), comeTo_zero ns fl j (by omega), if_neg (by omega)]
theorem step_give {ns : List Nd} {fl : Int} {k : Nat} (hw : vwB (wts ns (k : Int)) = true) : putTo (comeTo ns fl k) (kidsF ns (k : Int)) (sa 2 (passV (ns.getD k nd0) ((comeTo ns fl k).getD k 0)) (wts ns (k : Int))) (kidsF ns (k : Int)).length = comeTo ns fl (k + 1) := by
 rw [comeTo_succ]; unfold stepC; have hg : giveV ns (k : Int) (passV (ns.getD k nd0) ((comeTo ns fl k).getD k 0)) = sa 2 (passV (ns.getD k nd0) ((comeTo ns fl k).getD k 0)) (wts ns (k : Int)) := if_pos hw; rw [hg, sa_len]; unfold wts; rw [wk_len]
def flB (ns : List Nd) (fl : Int) : Bool := vnB ns && (decide (0 ≤ fl) && decide (fl ≤ 500))
def flowV (ns : List Nd) (fl : Int) : List Int := if flB ns fl = true then comeF ns fl else []
theorem flow_no {ns : List Nd} {fl : Int} (h : flB ns fl = false) : flowV ns fl = [] := by unfold flowV; rw [h]; rfl
theorem flow_yes {ns : List Nd} {fl : Int} (h : flB ns fl = true) : flowV ns fl = comeF ns fl := by unfold flowV; rw [h]; rfl
theorem flB_is {ns : List Nd} {fl : Int} (h : flB ns fl = true) : vnB ns = true ∧ 0 ≤ fl ∧ fl ≤ 500 := by
 unfold flB at h; simp only [Bool.and_eq_true, decide_eq_true_eq] at h; exact h
theorem flB_no {ns : List Nd} {fl : Int} (h : vnB ns = false ∨ (decide (0 ≤ fl) && decide (fl ≤ 500)) = false) : flB ns fl = false := by
 unfold flB; rcases h with h | h <;> rw [h] <;> simp
def passF (ns : List Nd) (fl : Int) : List Int := (List.range ns.length).map fun i => passV (ns.getD i nd0) ((comeF ns fl).getD i 0)
theorem passF_len (ns : List Nd) (fl : Int) : (passF ns fl).length = ns.length := by unfold passF; simp
theorem passF_get (ns : List Nd) (fl : Int) {i : Nat} (h : i < ns.length) : (passF ns fl).getD i 0 = passV (ns.getD i nd0) ((comeF ns fl).getD i 0) := by
 unfold passF; rw [List.getD_eq_getElem?_getD, List.getElem?_map, List.getElem?_range h]; rfl
def passedV (ns : List Nd) (fl : Int) : List Int := if flB ns fl = true then passF ns fl else []
theorem passed_no {ns : List Nd} {fl : Int} (h : flB ns fl = false) : passedV ns fl = [] := by unfold passedV; rw [h]; rfl
theorem passed_yes {ns : List Nd} {fl : Int} (h : flB ns fl = true) : passedV ns fl = passF ns fl := by unfold passedV; rw [h]; rfl
theorem passF_bd {ns : List Nd} (hv : vnB ns = true) {fl : Int} (hf : 0 ≤ fl ∧ fl ≤ 500) {i : Nat} (h : i < ns.length) : 0 ≤ (passF ns fl).getD i 0 ∧ (passF ns fl).getD i 0 ≤ (comeF ns fl).getD i 0 ∧ (passF ns fl).getD i 0 ≤ 500 ∧ (passF ns fl).getD i 0 ≤ (ns.getD i nd0).2.2.2.1 := by
 rw [passF_get ns fl h]; obtain ⟨_, b, d, _⟩ := vn_at hv h; have a := come_bd hv hf i; have := pass_bd d.1 a.1 b.1
 omega
def gotL (ns : List Nd) (fl : Int) (k : Int) : List Int := (kidsF ns k).map fun z => (comeF ns fl).getD z.toNat 0
theorem gotL_len (ns : List Nd) (fl : Int) (k : Int) : (gotL ns fl k).length = (kidsF ns k).length := by unfold gotL; rw [List.length_map]
theorem gotL_get (ns : List Nd) (fl : Int) (k : Int) {i : Nat} (h : i < (kidsF ns k).length) : (gotL ns fl k).getD i 0 = (comeF ns fl).getD ((kidsF ns k).getD i 0).toNat 0 := by
 have e : (kidsF ns k).getD i 0 = (kidsF ns k)[i] := by rw [List.getD_eq_getElem?_getD, List.getElem?_eq_getElem h]; rfl
 unfold gotL; rw [e, List.getD_eq_getElem?_getD, List.getElem?_map, List.getElem?_eq_getElem h]; rfl
theorem sum_zeros : ∀ n : Nat, (List.replicate n (0 : Int)).sum = 0 := by
 intro n
 induction n with
 | zero => rfl
 | succ n ih => rw [List.replicate_succ, List.sum_cons, ih]; rfl
theorem got_sum {ns : List Nd} (hv : vnB ns = true) {fl : Int} (hf : 0 ≤ fl ∧ fl ≤ 500) {k : Nat} (hk : k < ns.length) : (gotL ns fl (k : Int)).sum = if vwB (wts ns (k : Int)) = true then (passF ns fl).getD k 0 else 0 := by
 by_cases hw : vwB (wts ns (k : Int)) = true
 ·rw [if_pos hw]
  have hcs := csB_pass hv hk (come_bd hv hf k).1 hw
  have e : gotL ns fl (k : Int) = sa 2 (passV (ns.getD k nd0) ((comeF ns fl).getD k 0)) (wts ns (k : Int)) := by
   refine ext_z (by rw [gotL_len, sa_len]; unfold wts; rw [wk_len]) (fun i hi => ?_); rw [gotL_len] at hi; rw [gotL_get ns fl _ hi, come_kid hv hf hk hi, if_pos hw]
  rw [e, (sa_facts hcs (step := 2) (by omega)).1, passF_get ns fl hk]
 ·rw [if_neg hw]
  have e : gotL ns fl (k : Int) = List.replicate (kidsF ns (k : Int)).length 0 := by
   refine ext_z (by rw [gotL_len, List.length_replicate]) (fun i hi => ?_); rw [gotL_len] at hi; rw [gotL_get ns fl _ hi, come_kid hv hf hk hi, if_neg hw, List.getD_eq_getElem?_getD, List.getElem?_replicate, if_pos hi]; rfl
  rw [e, sum_zeros]
def shB (ns : List Nd) (k : Int) : Bool := decide (0 < (kidsF ns k).length) && ((wts ns k).sum == 0)
def lossAt (ns : List Nd) (fl : Int) (i : Nat) : Int := (comeF ns fl).getD i 0 - (passF ns fl).getD i 0 + if shB ns (i : Int) = true then (passF ns fl).getD i 0 else 0
def lostTo (ns : List Nd) (fl : Int) : Nat → Int
 | 0 => 0
 | k + 1 => lostTo ns fl k + lossAt ns fl k
theorem lostTo_succ (ns : List Nd) (fl : Int) (k : Nat) : lostTo ns fl (k + 1) = lostTo ns fl k + lossAt ns fl k := rfl
theorem loss_bd {ns : List Nd} (hv : vnB ns = true) {fl : Int} (hf : 0 ≤ fl ∧ fl ≤ 500) {i : Nat} (hi : i < ns.length) : 0 ≤ lossAt ns fl i ∧ lossAt ns fl i ≤ 500 := by
 have a := come_bd hv hf i; have b := passF_bd hv hf hi; unfold lossAt; split <;> omega
theorem lost_bd {ns : List Nd} (hv : vnB ns = true) {fl : Int} (hf : 0 ≤ fl ∧ fl ≤ 500) : ∀ k, k ≤ ns.length → 0 ≤ lostTo ns fl k ∧ lostTo ns fl k ≤ 500 * (k : Int) := by
  intro k
  induction k with
  | zero => intro _; exact ⟨Int.le_refl _, by show (0 : Int) ≤ 500 * ((0 : Nat) : Int); omega⟩
  | succ k ih =>
    intro hk; have a := ih (by omega); have b := loss_bd hv hf (i := k) (by omega); rw [lostTo_succ]; omega
theorem loss_got {ns : List Nd} (hv : vnB ns = true) {fl : Int} (hf : 0 ≤ fl ∧ fl ≤ 500) {k : Nat} (hk : k < ns.length) : lossAt ns fl k = (comeF ns fl).getD k 0 - (if (kidsF ns (k : Int)).length = 0 then (passF ns fl).getD k 0 else (gotL ns fl (k : Int)).sum) := by
 unfold lossAt shB; rw [wts_zero hv]
 by_cases hz : (kidsF ns (k : Int)).length = 0
 ·rw [if_pos hz, decide_eq_false (by omega)]
  show _ + (if (false && _) = true then _ else _) = _
  rw [Bool.false_and, if_neg (by simp)]; omega
 ·rw [if_neg hz, decide_eq_true (by omega), got_sum hv hf hk]
  by_cases hw : vwB (wts ns (k : Int)) = true
  ·rw [if_pos hw, hw]; show _ + (if (true && false) = true then _ else _) = _; rw [if_neg (by simp)]; omega
  ·have : vwB (wts ns (k : Int)) = false := by simpa using hw
   rw [if_neg hw, this]; show _ + (if (true && true) = true then _ else _) = _; rw [if_pos (by simp)]; omega
def lostV (ns : List Nd) (fl : Int) : Int := if flB ns fl = true then lostTo ns fl ns.length else -1
theorem lost_no {ns : List Nd} {fl : Int} (h : flB ns fl = false) : lostV ns fl = -1 := by unfold lostV; rw [h]; rfl
theorem lost_yes {ns : List Nd} {fl : Int} (h : flB ns fl = true) : lostV ns fl = lostTo ns fl ns.length := by unfold lostV; rw [h]; rfl
theorem row_set {w : World} {g : Nat} {zs : List Int} (h : Row w g zs) (k : Nat) (z : Int) (hk : k < zs.length) : Row (w.setCell ⟨g, k, none⟩ (.int .i64 z)) g (zs.set k z) := by
 unfold Row at *; rw [List.length_set]
 exact (World.rowIs.set h k (.int .i64 z)).congr (fun j hj => by
  show (if j = k then Value.int .i64 z else .int .i64 (zs.getD j 0)) = _
  rw [getD_set _ _ _ hk]; split <;> rfl)
theorem row_skip {w : World} {g g' : Nat} {zs : List Int} (h : Row w g zs) (k : Nat) (v : Value) (hne : g' ≠ g) : Row (w.setCell ⟨g', k, none⟩ v) g zs :=
 World.rowIs.of_block h (Below.heap_setCell w ⟨g', k, none⟩ v g (fun e => by first | exact hne e | exact hne e.symm))
theorem pickB_at (R : Nat → Nat → Bool) {k n : Nat} (h : k < n) : pickB R k < n := by
 by_cases h0 : k = 0
 ·subst h0; exact h
 ·exact Nat.lt_trans (pickB_lt' (by omega)) h
theorem igreat (a : Option Addr) (cap : Nat) (zs : List Int) (w : World) (h : IsInts w a zs) (hn : zs.length ≤ 1048576) :
  Calls Tryz.prog 139 #[.slice a zs.length cap] w fun e w' => e = .returned (.int .i64 (pickB (moreB zs) zs.length : Nat)) ∧ Below w.heap.size w w' := by
 rcases h with rfl | ⟨g, o, rfl, hc⟩
 ·go_enter Tryz.func139, Tryz.ntmps139
  go_wp2_with fail; refine wp_loop_rounds 1 ?_; rw [rounds_succ]; go_wp2_with fail; go_ret; exact ⟨rfl, Below.refl _ _⟩
 ·have HC := Lib.hid hc
  clear hc; go_enter Tryz.func139, Tryz.ntmps139; go_wp2_with fail
  go_loopw [3, 7] (fun b i wr => ∃ k : Nat, k ≤ zs.length ∧ i = .int .i64 k ∧ b = .int .i64 (pickB (moreB zs) k : Nat) ∧ Below w.heap.size w wr) (fun _ i _ => zs.length - (intOf i).toNat)
  case atStart => exact ⟨0, Nat.zero_le _, rfl, rfl, Below.refl _ _⟩
  case round =>
   obtain ⟨k, hk, rfl, rfl, hB⟩ := hrel
   by_cases hlt : k < zs.length
   ·have hb := pickB_at (moreB zs) hlt
    have hc := (hB.cell (p := ⟨g, o + k, none⟩) (World.block_lt_of_cell? w _ (HC.out k hlt))).trans (HC.out k hlt); have hd := (hB.cell (p := ⟨g, o + pickB (moreB zs) k, none⟩) (World.block_lt_of_cell? w _ (HC.out _ hb))).trans (HC.out _ hb); have hs := pickB_succ (moreB zs) k; have hm : moreB zs k (pickB (moreB zs) k) = decide (zs.getD k 0 > zs.getD (pickB (moreB zs) k) 0) := rfl; rw [hm] at hs; clear hm; generalize pickB (moreB zs) k = b at hb hd hs; generalize zs.getD k 0 = x at hc hs; generalize zs.getD b 0 = y at hd hs
    have i0 : (0 : Int) ≤ (k : Int) := by omega
    have i1 : (k : Int) < (zs.length : Int) := by omega
    have i2 : (0 : Int) ≤ (b : Int) := by omega
    have i3 : (b : Int) < (zs.length : Int) := by omega
    by_cases hxy : y < x
    ·have hs' : pickB (moreB zs) (k + 1) = k := by rw [hs]; simp [hxy]
     have HS := Lib.hid hs'; clear hs hs'; go_wp2_with fail
     go_quiet (fail)
     go_wp2
     go_roundw
     case rel => exact ⟨k + 1, by omega, by go_num, by rw [HS.out], below_drewN hB _⟩
     case measure => simp [intOf]; omega
    ·have hs' : pickB (moreB zs) (k + 1) = b := by rw [hs]; simp; omega
     have HS := Lib.hid hs'; clear hs hs'; go_wp2_with fail
     go_quiet (fail)
     go_wp2
     go_roundw
     case rel => exact ⟨k + 1, by omega, by go_num, by rw [HS.out], below_drewN hB _⟩
     case measure => simp [intOf]; omega
   ·have e : k = zs.length := by omega
    subst e; go_wp2_with fail; go_ret; exact ⟨rfl, hB⟩
def Divd (m : Nat) (R : List Int) (w : World) (e : Ending) (w' : World) : Prop := ∃ g : Nat, e = .returned (.slice (some ⟨g, 0, none⟩) m m) ∧ w.heap.size ≤ g ∧ Row w' g R ∧ Below w.heap.size w w'
theorem isumN (m : Nat) (a : Option Addr) (cap : Nat) (zs : List Int) (w : World) (hl : zs.length = m) (h : IsInts w a zs) (hn : m ≤ 1048576) (hz : ∀ z ∈ zs, -1000000 ≤ z ∧ z ≤ 1000000) :
  Calls Tryz.prog 136 #[.slice a m cap] w fun e w' => e = .returned (.int .i64 zs.sum) ∧ w = w' := by
 subst hl; exact isum a cap zs w h hn hz
theorem igreatN (m : Nat) (a : Option Addr) (cap : Nat) (zs : List Int) (w : World) (hl : zs.length = m) (h : IsInts w a zs) (hn : m ≤ 1048576) :
  Calls Tryz.prog 139 #[.slice a m cap] w fun e w' => e = .returned (.int .i64 (pickB (moreB zs) m : Nat)) ∧ Below w.heap.size w w' := by
 subst hl; exact igreat a cap zs w h hn
theorem irest (n : Int) (a : Option Addr) (cap : Nat) (ws : List Int) (w : World) (h : IsInts w a ws) (hn : ws.length ≤ 1048576) (hcs : csB n ws = true) :
  Calls Tryz.prog 109 #[.int .i64 n, .slice a ws.length cap] w (Divd ws.length (sr n ws) w) := by
 obtain ⟨⟨n0, n1⟩, hv⟩ := cs_yes hcs; have h0 := h
 rcases h with rfl | ⟨g, o, rfl, hc⟩
 ·exact absurd (vw_is hv).2.2 (by simp)
 ·have hmk := run_make_row' (P := Tryz.prog) 32 3 (.int .i64 0) 8 Tryz.underlying32 infoInt rfl .i64 .i64 ws.length (by omega) (by omega)
  obtain ⟨s0, s1⟩ := ws_bd hv; have l12 := (vw_is hv).2.1; have HZ := Lib.hid (all_bd (vw_is hv).1 (by omega)); have HC := Lib.hid hc; have HK := Lib.hid hcs; have H0 := Lib.hid h0; clear hc hv; go_enter Tryz.func109, Tryz.ntmps109; go_wp2_with fail; refine (icanSplit n _ cap ws _ h0 hn).mono ?_; rintro e w' ⟨rfl, rfl⟩; go_wp2_with fail; refine (isum _ cap ws _ h0 hn HZ.out).mono ?_; rintro e w' ⟨rfl, rfl⟩; go_wp2_with fail; clear hmk hcs h0
  go_loopw [23] (fun i wr => ∃ k : Nat, k ≤ ws.length ∧ i = .int .i64 k ∧ wr.rowIs w.heap.size 3 ws.length (fun j => if j < k then .int .i64 ((rsts n ws).getD j 0) else .int .i64 0) ∧ Below w.heap.size w wr) (fun i _ => ws.length - (intOf i).toNat)
  case atStart => exact ⟨0, Nat.zero_le _, rfl, (World.rowIs_made w (.int .i64 0) ws.length _).congr (fun i hi => by simp), by go_grown⟩
  case round =>
   obtain ⟨k, hk, rfl, hrow, hB⟩ := hrel
   by_cases hlt : k < ws.length
   ·have hc0 := HC.out k hlt
    have hc := (hB.cell (p := ⟨g, o + k, none⟩) (World.block_lt_of_cell? w _ hc0)).trans hc0
    have hd : wr.cell? ⟨w.heap.size, k, none⟩ = some (.int .i64 0) := by rw [hrow.cell hlt, if_neg (Nat.lt_irrefl k)]
    have hf := hrow.frozen k
    have hcon : ∀ z : Int, (rsts n ws).getD k 0 = z → (wr.setCell ⟨w.heap.size, k, none⟩ (.int .i64 z)).rowIs w.heap.size 3 ws.length (fun j => if j < k + 1 then .int .i64 ((rsts n ws).getD j 0) else .int .i64 0) := fun z hz =>
     (hrow.set k (.int .i64 z)).congr (fun j hj => by
      show (if j = k then Value.int .i64 z else if j < k then .int .i64 ((rsts n ws).getD j 0) else .int .i64 0) = _
      by_cases hjk : j = k
      ·subst hjk; rw [if_pos rfl, if_pos (by omega), hz]
      ·rw [if_neg hjk]
       by_cases hl : j < k
       ·rw [if_pos hl, if_pos (by omega)]
       ·rw [if_neg hl, if_neg (by omega)])
    have hcon2 := hcon _ (rsts_get n ws hlt); obtain ⟨z0, z1, z2, z3⟩ := q_bd HK.out hlt; clear hcon hc0; generalize ws.getD k 0 = z at hc hcon2 z0 z1 z2 z3; have HR := Lib.hid hcon2; have HB := Lib.hid hB; clear hcon2 hrow hB
    go_wp2
    go_roundw
    case rel => exact ⟨k + 1, by omega, by go_num, HR.out, HB.out.setCell (Nat.le_refl _) _⟩
    case measure => simp [intOf]; omega
   ·have R0 : Row wr w.heap.size (rsts n ws) := by
     unfold Row; rw [rsts_len]; exact hrow.congr (fun i hi => by rw [if_pos (by omega)])
    have hi := ints_below H0.out hB; clear hrow; obtain ⟨q0, q1⟩ := q_sum HK.out; have hql := qs_len n ws
    have hqb : ∀ z ∈ qs n ws, -1000000 ≤ z ∧ z ≤ 1000000 := fun z hz => by
     obtain ⟨i, hi, rfl⟩ := List.getElem_of_mem hz; have := q_le HK.out (i := i) (by omega); rw [List.getD_eq_getElem?_getD, List.getElem?_eq_getElem hi] at this
     simp at this; omega
    have HQ := Lib.hid hqb; have HI := Lib.hid hi; have HR0 := Lib.hid R0; have HB := Lib.hid hB; clear hqb hi R0 hB hk; go_wp2_with fail; refine (iquot n _ cap ws _ HI.out hn HK.out).mono ?_; rintro e w2 ⟨g2, rfl, lg, Rg, Bg⟩
    have hne : g2 ≠ w.heap.size := by have := World.rowIs.lt HR0.out; omega
    have B2 := bel_tr HB.out Bg; have lg2 : w.heap.size ≤ g2 := Nat.le_trans HB.out.size lg; have R2 := row_keep HR0.out Bg; clear Bg HR0 HB HI; go_wp2_with fail; refine (isumN ws.length _ _ (qs n ws) _ hql (row_ints Rg) hn HQ.out).mono ?_; rintro e w' ⟨rfl, rfl⟩; have hl := left_is HK.out; have HRg := Lib.hid Rg; have HR2 := Lib.hid R2; have HB2 := Lib.hid B2; clear Rg R2 B2; go_wp2_with fail
    go_loopw [10] (fun l wr => ∃ j : Nat, j ≤ leftOf n ws ∧ l = .int .i64 ((leftOf n ws : Int) - j) ∧ Row wr g2 (restTo n ws j).1 ∧ Row wr w.heap.size (restTo n ws j).2 ∧ Below w.heap.size w wr) (fun l _ => (intOf l).toNat)
    case atStart => exact ⟨0, Nat.zero_le _, by rw [hl]; go_num, HRg.out, HR2.out, HB2.out⟩
    case round =>
     obtain ⟨j, hj, rfl, RG, RD, hB⟩ := hrel
     by_cases hjl : j < leftOf n ws
     ·have RJ := rest_is HK.out j hj
      obtain ⟨hb, hpos⟩ := rest_best HK.out RJ hjl
      have hy : 0 ≤ (restTo n ws j).1.getD (pickB (moreB (restTo n ws j).2) ws.length) 0 ∧ (restTo n ws j).1.getD (pickB (moreB (restTo n ws j).2) ws.length) 0 ≤ 500001 := by
       have := q_le HK.out hb
       rcases RJ.each _ hb with h | h <;> omega
      obtain ⟨lG, lD⟩ := restTo_len n ws j; have e1 := restTo_succ1 n ws j; have e2 := restTo_succ2 n ws j
      obtain ⟨G', hG'⟩ : ∃ G', (restTo n ws (j + 1)).1 = G' := ⟨_, rfl⟩
      obtain ⟨D', hD'⟩ : ∃ D', (restTo n ws (j + 1)).2 = D' := ⟨_, rfl⟩
      rw [hG'] at e1; rw [hD'] at e2; have HGD := Lib.hid (And.intro hG' hD'); clear hG' hD'; generalize (restTo n ws j).1 = G at *; generalize (restTo n ws j).2 = D at *; clear RJ hpos; have HRG := Lib.hid RG; have HRD := Lib.hid RD; have HB := Lib.hid hB; have HE := Lib.hid (And.intro e1 e2); clear RG RD hB e1 e2; go_wp2_with fail; refine (igreatN ws.length _ _ D _ lD (row_ints HRD.out) hn).mono ?_; rintro e w3 ⟨rfl, B3⟩; have RG := row_keep HRG.out B3; have RD := row_keep HRD.out B3; have B4 := bel_tr HB.out B3; obtain ⟨E1, E2⟩ := HE.out; generalize pickB (moreB D) ws.length = b at *; have hx := World.rowIs.cell RG (i := b) (by omega); have hf := World.rowIs.frozen RG b; have hf2 := World.rowIs.frozen RD b; have hz := so (v := .int .i64 (G.getD b 0 + 1)) (show (⟨g2, b, none⟩ : Addr) ≠ ⟨w.heap.size, b, none⟩ from fun e => hne (by injection e)) (World.rowIs.cell RD (i := b) (by omega)); have lt2 := World.rowIs.lt RD
      have i0 : (0 : Int) ≤ (b : Int) := by omega
      have i1 : (b : Int) < (ws.length : Int) := by omega
      have sG := row_skip (row_set RG b (G.getD b 0 + 1) (by omega)) b (.int .i64 (-1)) (fun e => hne e.symm); have sD := row_set (row_skip RD b (.int .i64 (G.getD b 0 + 1)) hne) b (-1) (by omega); rw [← E1] at sG; rw [← E2] at sD; have sB : Below w.heap.size w ((w3.setCell ⟨g2, b, none⟩ (.int .i64 (G.getD b 0 + 1))).setCell ⟨w.heap.size, b, none⟩ (.int .i64 (-1))) := (B4.setCell (by show w.heap.size ≤ g2; exact lg2) _).setCell (Nat.le_refl _) _; have HS := Lib.hid (And.intro sG (And.intro sD sB)); clear sG sD sB RG RD B3 B4 E1 E2 HE HRG HRD HB; generalize G.getD b 0 = y at *
      go_wp2
      go_roundw
      case rel => exact ⟨j + 1, by omega, by go_num, by rw [HGD.out.1]; exact HS.out.1, by rw [HGD.out.2]; exact HS.out.2.1, HS.out.2.2⟩
      case measure => simp [intOf]; omega
     ·have e : j = leftOf n ws := by omega
      subst e
      go_wp2
      go_ret; exact ⟨g2, rfl, lg2, RG, hB⟩

def atSum (c : List Int) : List Int → Int
 | [] => 0
 | z :: t => c.getD z.toNat 0 + atSum c t
theorem atSum_append (c a b : List Int) : atSum c (a ++ b) = atSum c a + atSum c b := by
 induction a with
 | nil => show atSum c b = 0 + atSum c b; omega
 | cons h t ih => show c.getD h.toNat 0 + atSum c (t ++ b) = c.getD h.toNat 0 + atSum c t + _; rw [ih]; omega
theorem atSum_got (ns : List Nd) (fl : Int) (k : Int) : atSum (comeF ns fl) (kidsF ns k) = (gotL ns fl k).sum := by
 unfold gotL
 induction kidsF ns k with
 | nil => rfl
 | cons h t ih => rw [List.map_cons, List.sum_cons, ← ih]; rfl
def gotT (ns : List Nd) (c : List Int) (m : Nat) : Nat → Int
 | 0 => 0
 | k + 1 => gotT ns c m k + atSum c (kidsTo ns (k : Int) m)
theorem gotT_succ (ns : List Nd) (c : List Int) (m k : Nat) : gotT ns c m (k + 1) = gotT ns c m k + atSum c (kidsTo ns (k : Int) m) := rfl
theorem gotT_more (ns : List Nd) (c : List Int) (m : Nat) : ∀ k : Nat, gotT ns c (m + 1) k = gotT ns c m k + if 0 ≤ (ns.getD m nd0).1 ∧ (ns.getD m nd0).1 < (k : Int) then c.getD m 0 else 0 := by
  intro k
  induction k with
  | zero => show (0 : Int) = 0 + _; rw [if_neg (by omega)]; rfl
  | succ k ih =>
    rw [gotT_succ, gotT_succ, ih]
    by_cases e : (ns.getD m nd0).1 = (k : Int)
    · rw [kidsTo_yes e, atSum_append, if_neg (by omega), if_pos (by omega)]
      show _ + (_ + (c.getD ((m : Int)).toNat 0 + 0)) = _
      rw [show ((m : Int)).toNat = m from by omega]; omega
    · rw [kidsTo_no e]
      by_cases h : 0 ≤ (ns.getD m nd0).1 ∧ (ns.getD m nd0).1 < (k : Int)
      · rw [if_pos h, if_pos (by omega)]; omega
      · rw [if_neg h, if_neg (by omega)]; omega
theorem gotT_zero (ns : List Nd) (c : List Int) : ∀ k : Nat, gotT ns c 0 k = 0 := by
 intro k
 induction k with
 | zero => rfl
 | succ k ih => rw [gotT_succ, ih]; rfl
def sumTo (c : List Int) : Nat → Int
 | 0 => 0
 | k + 1 => sumTo c k + c.getD k 0
theorem sumTo_succ (c : List Int) (k : Nat) : sumTo c (k + 1) = sumTo c k + c.getD k 0 := rfl
theorem got_all {ns : List Nd} (hv : vnB ns = true) (c : List Int) : ∀ m : Nat, m < ns.length → gotT ns c (m + 1) ns.length = sumTo c (m + 1) - c.getD 0 0 := by
  intro m
  induction m with
  | zero =>
    intro h; rw [gotT_more, gotT_zero, vn_par0 hv, if_neg (by omega)]
    show (0 : Int) + 0 = 0 + c.getD 0 0 - c.getD 0 0; omega
  | succ m ih =>
    intro h; have p := vn_par hv h (by omega); rw [gotT_more, ih (by omega), if_pos (by omega), sumTo_succ c (m + 1)]; omega
theorem lost_leaves {ns : List Nd} (hv : vnB ns = true) {fl : Int} (hf : 0 ≤ fl ∧ fl ≤ 500) : ∀ k : Nat, k ≤ ns.length → lostTo ns fl k + atSum (passF ns fl) (leavesTo ns k) = sumTo (comeF ns fl) k - gotT ns (comeF ns fl) ns.length k := by
  intro k
  induction k with
  | zero => intro _; rfl
  | succ k ih =>
    intro hk; have a := ih (by omega); rw [lostTo_succ, loss_got hv hf (by omega), sumTo_succ, gotT_succ]; have hg : atSum (comeF ns fl) (kidsTo ns (k : Int) ns.length) = (gotL ns fl (k : Int)).sum := atSum_got ns fl (k : Int); rw [hg]
    by_cases hz : (kidsF ns (k : Int)).length = 0
    · have h0 : (gotL ns fl (k : Int)).sum = 0 := by
        have : gotL ns fl (k : Int) = [] := List.eq_nil_of_length_eq_zero (by rw [gotL_len]; exact hz); rw [this]; rfl
      rw [if_pos hz, leavesTo_yes hz, atSum_append, h0]
      show _ + (atSum (passF ns fl) (leavesTo ns k) + ((passF ns fl).getD ((k : Int)).toNat 0 + 0)) = _
      rw [show ((k : Int)).toNat = k from by omega]; omega
    · rw [if_neg hz, leavesTo_no hz]; omega
theorem lost_all {ns : List Nd} (hv : vnB ns = true) {fl : Int} (hf : 0 ≤ fl ∧ fl ≤ 500) : lostTo ns fl ns.length + atSum (passF ns fl) (leavesTo ns ns.length) = fl := by
 obtain ⟨l1, _, _⟩ := vn_is hv; have a := lost_leaves hv hf ns.length (Nat.le_refl _); have b := got_all hv (comeF ns fl) (ns.length - 1) (by omega); rw [show ns.length - 1 + 1 = ns.length from by omega, come_spring hv] at b
 omega
theorem atSum_bd {c : List Int} (hc : ∀ i, 0 ≤ c.getD i 0 ∧ c.getD i 0 ≤ 500) : ∀ ls : List Int, 0 ≤ atSum c ls ∧ atSum c ls ≤ 500 * (ls.length : Int) := by
  intro ls
  induction ls with
  | nil => exact ⟨Int.le_refl _, by show (0 : Int) ≤ 500 * ((0 : Nat) : Int); omega⟩
  | cons z t ih =>
    have a := hc z.toNat
    show 0 ≤ c.getD z.toNat 0 + atSum c t ∧ c.getD z.toNat 0 + atSum c t ≤ 500 * ((t.length + 1 : Nat) : Int)
    omega
theorem passF_all {ns : List Nd} (hv : vnB ns = true) {fl : Int} (hf : 0 ≤ fl ∧ fl ≤ 500) (i : Nat) : 0 ≤ (passF ns fl).getD i 0 ∧ (passF ns fl).getD i 0 ≤ 500 := by
 by_cases h : i < ns.length
 ·have := passF_bd hv hf h; omega
 ·rw [List.getD_eq_getElem?_getD, List.getElem?_eq_none (by rw [passF_len]; omega)]
  exact ⟨Int.le_refl _, by show (0 : Int) ≤ 500; omega⟩

theorem iVB (r h : Int) (w : World) :
  Calls Tryz.prog 69 #[.agg #[.int .i64 r, .int .i64 h]] w fun e w' => e = .returned (.bool (vbB r h)) ∧ Below w.heap.size w w' := by
 by_cases a : r < 0 ∨ 20000 < r
 ·rw [vb_no (by omega)]
  go_enter Tryz.func69, Tryz.ntmps69; go_wp2_with fail; refine (iwithin_no r 20000 _ a).mono ?_; rintro e w' ⟨rfl, rfl⟩; go_wp2_with fail; go_ret; exact ⟨rfl, by go_grown⟩
 ·have a1 : 0 ≤ r := by omega
  have a2 : r ≤ 20000 := by omega
  by_cases b : h < 0 ∨ r < h
  ·rw [vb_no (by omega)]
   clear a; go_enter Tryz.func69, Tryz.ntmps69; go_wp2_with fail; refine (iwithin_yes r 20000 _ a1 a2).mono ?_; rintro e w' ⟨rfl, rfl⟩; go_wp2_with fail; refine (iwithin_no h r _ b).mono ?_; rintro e w' ⟨rfl, rfl⟩; go_wp2_with fail; go_ret; exact ⟨rfl, by go_grown⟩
  ·have b1 : 0 ≤ h := by omega
   have b2 : h ≤ r := by omega
   rw [vb_iff.2 ⟨a1, a2, b1, b2⟩]; clear a b; go_enter Tryz.func69, Tryz.ntmps69; go_wp2_with fail; refine (iwithin_yes r 20000 _ a1 a2).mono ?_; rintro e w' ⟨rfl, rfl⟩; go_wp2_with fail; refine (iwithin_yes h r _ b1 b2).mono ?_; rintro e w' ⟨rfl, rfl⟩; go_wp2_with fail; go_ret; exact ⟨rfl, by go_grown⟩
theorem ilesser (a b : Int) (w : World) :
  Calls Tryz.prog 144 #[.int .i64 a, .int .i64 b] w fun e w' => e = .returned (.int .i64 (min a b)) ∧ w = w' := by
 by_cases h : a < b
 ·rw [show min a b = a from by omega]
  go_enter Tryz.func144, Tryz.ntmps144; go_wp2_with fail; go_ret; exact ⟨rfl, rfl⟩
 ·rw [show min a b = b from by omega]
  have e1 : decide (a < b) = false := decide_eq_false h; clear h; go_enter Tryz.func144, Tryz.ntmps144; go_wp2_with fail; go_ret; exact ⟨rfl, rfl⟩
def stB (r h c w : Int) : Bool := vbB r h && (decide (0 ≤ c) && decide (c ≤ 500)) && (decide (0 ≤ w) && decide (w ≤ 500))
def stV (r h c w : Int) : Value := if stB r h c w then .tuple #[.agg #[.int .i64 r, .int .i64 (stepH r h c w)], .int .i64 (giveH h c w), .int .i64 (spillH r h c w)] else .tuple #[.agg #[.int .i64 0, .int .i64 0], .int .i64 0, .int .i64 0]
theorem stV_no {r h c w : Int} (e : stB r h c w = false) : stV r h c w = .tuple #[.agg #[.int .i64 0, .int .i64 0], .int .i64 0, .int .i64 0] := by unfold stV; rw [e]; rfl
theorem stV_yes {r h c w : Int} (e : stB r h c w = true) : stV r h c w = .tuple #[.agg #[.int .i64 r, .int .i64 (stepH r h c w)], .int .i64 (giveH h c w), .int .i64 (spillH r h c w)] := by unfold stV; rw [e]; rfl
theorem stB_no {r h c w : Int} (e : vbB r h = false ∨ (c < 0 ∨ 500 < c) ∨ (w < 0 ∨ 500 < w)) : stB r h c w = false := by
 unfold stB
 rcases e with e | e | e
 ·rw [e]; rfl
 ·rw [show (decide (0 ≤ c) && decide (c ≤ 500)) = false from by simp; omega]; simp
 ·rw [show (decide (0 ≤ w) && decide (w ≤ 500)) = false from by simp; omega]; simp
theorem stB_yes {r h c w : Int} (e : vbB r h = true) (a : 0 ≤ c ∧ c ≤ 500) (b : 0 ≤ w ∧ w ≤ 500) : stB r h c w = true := by
 unfold stB; rw [e, decide_eq_true a.1, decide_eq_true a.2, decide_eq_true b.1, decide_eq_true b.2]; rfl
theorem iStep (r h c q : Int) (w : World) :
    Calls Tryz.prog 112 #[.agg #[.int .i64 r, .int .i64 h], .int .i64 c, .int .i64 q] w fun e w' => e = .returned (stV r h c q) ∧ Below w.heap.size w w' := by
  have CV := fun W => iVB r h W
  cases hv : vbB r h with
  | false =>
    rw [hv] at CV; rw [stV_no (stB_no (.inl hv))]; clear hv; go_enter Tryz.func112, Tryz.ntmps112; go_wp2_with fail; refine (CV _).mono ?_; rintro e w1 ⟨rfl, hB⟩; have K := (Blk.new (w.alloc (.cells #[.int .i64 r, .int .i64 h] 42)) 42 #[.int .i64 0, .int .i64 0]).next hB; have J := ((Blk.new w 42 #[.int .i64 r, .int .i64 h]).alloc (.cells #[.int .i64 0, .int .i64 0] 42)).next hB; have B : Below w.heap.size w w1 := bel_tr (by go_grown) hB; rw [World.size_alloc] at K; have hK := Lib.hid K; obtain ⟨s0, s1, s2, s3, s4⟩ := blk_two K; obtain ⟨j0, j1, _, _, _⟩ := blk_two J; clear K hB J; go_wp2_with fail; refine bodyPost_ret (v := .tuple #[.agg #[.int .i64 0, .int .i64 0], .int .i64 0, .int .i64 0]) (by simp [results, Tryz.results112, go_sem, s0, s1]) rfl ⟨rfl, by go_grown⟩
  | true =>
    rw [hv] at CV
    by_cases h1 : c < 0 ∨ 500 < c
    · rw [stV_no (stB_no (.inr (.inl h1)))]
      clear hv; go_enter Tryz.func112, Tryz.ntmps112; go_wp2_with fail; refine (CV _).mono ?_; rintro e w1 ⟨rfl, hB⟩; have K := (Blk.new (w.alloc (.cells #[.int .i64 r, .int .i64 h] 42)) 42 #[.int .i64 0, .int .i64 0]).next hB; have J := ((Blk.new w 42 #[.int .i64 r, .int .i64 h]).alloc (.cells #[.int .i64 0, .int .i64 0] 42)).next hB; have B : Below w.heap.size w w1 := bel_tr (by go_grown) hB; rw [World.size_alloc] at K; have hK := Lib.hid K; obtain ⟨s0, s1, s2, s3, s4⟩ := blk_two K; obtain ⟨j0, j1, _, _, _⟩ := blk_two J; clear K hB J; go_wp2_with fail; refine (iwithin_no c 500 _ h1).mono ?_; rintro e w' ⟨rfl, rfl⟩; go_wp2_with fail; refine bodyPost_ret (v := .tuple #[.agg #[.int .i64 0, .int .i64 0], .int .i64 0, .int .i64 0]) (by simp [results, Tryz.results112, go_sem, s0, s1]) rfl ⟨rfl, by go_grown⟩
    have h1 : 0 ≤ c ∧ c ≤ 500 := by omega
    by_cases h2 : q < 0 ∨ 500 < q
    · rw [stV_no (stB_no (.inr (.inr h2)))]
      clear hv; go_enter Tryz.func112, Tryz.ntmps112; go_wp2_with fail; refine (CV _).mono ?_; rintro e w1 ⟨rfl, hB⟩; have K := (Blk.new (w.alloc (.cells #[.int .i64 r, .int .i64 h] 42)) 42 #[.int .i64 0, .int .i64 0]).next hB; have J := ((Blk.new w 42 #[.int .i64 r, .int .i64 h]).alloc (.cells #[.int .i64 0, .int .i64 0] 42)).next hB; have B : Below w.heap.size w w1 := bel_tr (by go_grown) hB; rw [World.size_alloc] at K; have hK := Lib.hid K; obtain ⟨s0, s1, s2, s3, s4⟩ := blk_two K; obtain ⟨j0, j1, _, _, _⟩ := blk_two J; clear K hB J; go_wp2_with fail; refine (iwithin_yes c 500 _ h1.1 h1.2).mono ?_; rintro e w' ⟨rfl, rfl⟩; go_wp2_with fail; refine (iwithin_no q 500 _ h2).mono ?_; rintro e w' ⟨rfl, rfl⟩; go_wp2_with fail; refine bodyPost_ret (v := .tuple #[.agg #[.int .i64 0, .int .i64 0], .int .i64 0, .int .i64 0]) (by simp [results, Tryz.results112, go_sem, s0, s1]) rfl ⟨rfl, by go_grown⟩
    have h2 : 0 ≤ q ∧ q ≤ 500 := by omega
    obtain ⟨r0, r1, r2, r3⟩ := vb_iff.1 hv; have HV := Lib.hid (stV_yes (stB_yes hv h1 h2)); obtain ⟨c0, c1⟩ := h1; obtain ⟨q0, q1⟩ := h2; clear hv
    obtain ⟨g, hg⟩ : ∃ g, giveH h c q = g := ⟨_, rfl⟩
    obtain ⟨s, hs⟩ : ∃ s, stepH r h c q = s := ⟨_, rfl⟩
    have hgd : min q (h + c) = g := hg
    have hsd : min (h + c - g) r = s := by rw [← hs, ← hg]; unfold stepH; omega
    have HG := Lib.hid hg; have HS := Lib.hid hs
    have g0 : 0 ≤ g := by omega
    have g1 : g ≤ q := by omega
    have g2 : g ≤ h + c := by omega
    have C1 := fun W => ilesser q (h + c) W
    have C2 := fun W => ilesser (h + c - g) r W
    rw [hgd] at C1; rw [hsd] at C2
    have s0 : 0 ≤ s := by omega
    have s1 : s ≤ h + c - g := by omega
    clear hg hs hgd hsd; go_enter Tryz.func112, Tryz.ntmps112; go_wp2_with fail; refine (CV _).mono ?_; rintro e w1 ⟨rfl, hB⟩; have K := (Blk.new (w.alloc (.cells #[.int .i64 r, .int .i64 h] 42)) 42 #[.int .i64 0, .int .i64 0]).next hB; have J := ((Blk.new w 42 #[.int .i64 r, .int .i64 h]).alloc (.cells #[.int .i64 0, .int .i64 0] 42)).next hB; have B : Below w.heap.size w w1 := bel_tr (by go_grown) hB; rw [World.size_alloc] at K; have hK := Lib.hid K; obtain ⟨s0, s1, s2, s3, s4⟩ := blk_two K; obtain ⟨j0, j1, _, _, _⟩ := blk_two J; clear K hB J; go_wp2_with fail; refine (iwithin_yes c 500 _ c0 c1).mono ?_; rintro e w' ⟨rfl, rfl⟩; go_wp2_with fail; refine (iwithin_yes q 500 _ q0 q1).mono ?_; rintro e w' ⟨rfl, rfl⟩; go_wp2_with fail; refine (C1 _).mono ?_; rintro e w' ⟨rfl, rfl⟩; go_wp2_with fail; refine (C2 _).mono ?_; rintro e w' ⟨rfl, rfl⟩; go_wp2_with fail; obtain ⟨f0, f1, _, _, _⟩ := blk_two (hK.out.two (.int .i64 r) (.int .i64 s)); refine bodyPost_ret (v := .tuple #[.agg #[.int .i64 r, .int .i64 s], .int .i64 g, .int .i64 (h + c - g - s)]) (by simp [results, Tryz.results112, go_sem, f0, f1]) rfl ⟨?_, by go_grown⟩; rw [HV.out, HS.out]; unfold spillH; rw [HS.out, HG.out]

def marks (n : Nat) : List Int := (List.range n).map fun (i : Nat) => (1 : Int) + (i : Int)

theorem fac_all {step x v : Int} (h : 1 ≤ step ∧ step ≤ 2) (hx : 0 ≤ x ∧ x ≤ 1000) (hv : 0 ≤ v ∧ v ≤ 1000) :
  0 ≤ step * v ∧ step * v ≤ 2000 ∧ 0 ≤ x * (step * v + 1) ∧ x * (step * v + 1) ≤ 2001000 := by
 have a := Int.mul_nonneg (a := step) (by omega) hv.1; have b : step * v ≤ 2 * 1000 := Int.mul_le_mul h.2 hv.2 hv.1 (by omega); have c := Int.mul_nonneg (b := step * v + 1) hx.1 (by omega); have d : x * (step * v + 1) ≤ 1000 * 2001 := Int.mul_le_mul hx.2 (by omega) (by omega) (by omega)
 omega
theorem wrap_of {z : Int} (h : -2000000000 ≤ z ∧ z ≤ 2000000000) : IntKind.i64.wrap z = z := by rw [IntKind.wrap_i64]; omega
theorem ihigh (a b : Option Addr) (ca cb : Nat) (step : Int) (ws gs : List Int) (w : World) (ha : IsInts w a ws) (hb : IsInts w b gs) (hl : gs.length = ws.length) (hn : ws.length ≤ 1048576) (hs : 1 ≤ step ∧ step ≤ 2)
  (h1 : ∀ i, i < ws.length → 0 ≤ ws.getD i 0 ∧ ws.getD i 0 ≤ 1000) (h2 : ∀ i, i < ws.length → 0 ≤ gs.getD i 0 ∧ gs.getD i 0 ≤ 1000) (hz : 0 < ws.length) :
  Calls Tryz.prog 166 #[.slice a ws.length ca, .slice b ws.length cb, .int .i64 step] w fun e w' => e = .returned (.int .i64 (pickB (avgB step ws gs) ws.length : Nat)) ∧ Below w.heap.size w w' := by
 rcases ha with rfl | ⟨g, o, rfl, hc⟩
 ·exact absurd hz (by simp)
 ·rcases hb with rfl | ⟨g2, o2, rfl, hc2⟩
  ·exact absurd hl (by simp; omega)
  ·have HC := Lib.hid hc
   have HD := Lib.hid hc2; have H1 := Lib.hid h1; have H2 := Lib.hid h2; clear hc hc2 h1 h2; go_enter Tryz.func166, Tryz.ntmps166; go_wp2_with fail
   go_loopw [7, 11] (fun b i wr => ∃ k : Nat, k ≤ ws.length ∧ i = .int .i64 k ∧ b = .int .i64 (pickB (avgB step ws gs) k : Nat) ∧ Below w.heap.size w wr) (fun _ i _ => ws.length - (intOf i).toNat)
   case atStart => exact ⟨0, Nat.zero_le _, rfl, rfl, Below.refl _ _⟩
   case round =>
    obtain ⟨k, hk, rfl, rfl, hB⟩ := hrel
    by_cases hlt : k < ws.length
    ·have hb := pickB_at (avgB step ws gs) hlt
     have c1 := (hB.cell (p := ⟨g, o + k, none⟩) (World.block_lt_of_cell? w _ (HC.out k hlt))).trans (HC.out k hlt); have c2 := (hB.cell (p := ⟨g, o + pickB (avgB step ws gs) k, none⟩) (World.block_lt_of_cell? w _ (HC.out _ hb))).trans (HC.out _ hb); have c3 := (hB.cell (p := ⟨g2, o2 + k, none⟩) (World.block_lt_of_cell? w _ (HD.out k (by omega)))).trans (HD.out k (by omega)); have c4 := (hB.cell (p := ⟨g2, o2 + pickB (avgB step ws gs) k, none⟩) (World.block_lt_of_cell? w _ (HD.out _ (by omega)))).trans (HD.out _ (by omega)); have hsu := pickB_succ (avgB step ws gs) k; have hm : avgB step ws gs k (pickB (avgB step ws gs) k) = decide (ws.getD k 0 * (step * gs.getD (pickB (avgB step ws gs) k) 0 + 1) > ws.getD (pickB (avgB step ws gs) k) 0 * (step * gs.getD k 0 + 1)) := rfl; rw [hm] at hsu; obtain ⟨p1, p2, p3, p4⟩ := fac_all (x := ws.getD k 0) hs (H1.out k hlt) (H2.out _ hb); obtain ⟨q1, q2, q3, q4⟩ := fac_all (x := ws.getD (pickB (avgB step ws gs) k) 0) hs (H1.out _ hb) (H2.out k hlt); clear hm; generalize pickB (avgB step ws gs) k = b at *; generalize ws.getD k 0 = x at *; generalize ws.getD b 0 = y at *; generalize gs.getD k 0 = u at *; generalize gs.getD b 0 = v at *; have t1 : IntKind.i64.wrap (step * v) = step * v := wrap_of (by omega); have t2 : IntKind.i64.wrap (step * u) = step * u := wrap_of (by omega); have t3 : IntKind.i64.wrap (step * v + 1) = step * v + 1 := wrap_of (by omega); have t4 : IntKind.i64.wrap (step * u + 1) = step * u + 1 := wrap_of (by omega); have t5 : IntKind.i64.wrap (x * (step * v + 1)) = x * (step * v + 1) := wrap_of (by omega)
     have t6 : IntKind.i64.wrap (y * (step * u + 1)) = y * (step * u + 1) := wrap_of (by omega)
     have i0 : (0 : Int) ≤ (k : Int) := by omega
     have i1 : (k : Int) < (ws.length : Int) := by omega
     have i2 : (0 : Int) ≤ (b : Int) := by omega
     have i3 : (b : Int) < (ws.length : Int) := by omega
     clear hl hs
     by_cases hxy : y * (step * u + 1) < x * (step * v + 1)
     ·have hs' : pickB (avgB step ws gs) (k + 1) = k := by rw [hsu]; simp [hxy]
      have HS := Lib.hid hs'; clear hsu hs'; go_wp2_with fail
      go_quiet (fail)
      go_wp2
      go_roundw
      case rel => exact ⟨k + 1, by omega, by go_num, by rw [HS.out], below_drewN hB _⟩
      case measure => simp [intOf]; omega
     ·have hs' : pickB (avgB step ws gs) (k + 1) = b := by rw [hsu, decide_eq_false (by omega)]; rfl
      have HS := Lib.hid hs'; clear hsu hs'; go_wp2_with fail
      go_quiet (fail)
      go_wp2
      go_roundw
      case rel => exact ⟨k + 1, by omega, by go_num, by rw [HS.out], below_drewN hB _⟩
      case measure => simp [intOf]; omega
    ·have e : k = ws.length := by omega
     subst e; go_wp2_with fail; go_ret; exact ⟨rfl, hB⟩
theorem iavg_no (step n : Int) (a : Option Addr) (cap : Nat) (ws : List Int) (w : World) (h : IsInts w a ws) (hn : ws.length ≤ 1048576) (hcs : csB n ws = false) :
  Calls Tryz.prog 165 #[.int .i64 n, .slice a ws.length cap, .int .i64 step] w fun e w' => e = .returned (.slice none 0 0) ∧ w = w' := by
 go_enter Tryz.func165, Tryz.ntmps165; go_wp2_with fail; refine (icanSplit n a cap ws _ h hn).mono ?_; rintro e w' ⟨rfl, rfl⟩; go_wp2_with fail; go_ret; exact ⟨rfl, rfl⟩
theorem iavg (step n : Int) (a : Option Addr) (cap : Nat) (ws : List Int) (w : World) (h : IsInts w a ws) (hn : ws.length ≤ 1048576) (hs : 1 ≤ step ∧ step ≤ 2) (hcs : csB n ws = true) :
  Calls Tryz.prog 165 #[.int .i64 n, .slice a ws.length cap, .int .i64 step] w (Divd ws.length (sa step n ws) w) := by
 obtain ⟨⟨n0, n1⟩, hv⟩ := cs_yes hcs; have hmk := run_make_row' (P := Tryz.prog) 32 3 (.int .i64 0) 8 Tryz.underlying32 infoInt rfl .i64 .i64 ws.length (by omega) (by omega); have l1 := ws_ne hv; have HV := Lib.hid hv; have HK := Lib.hid hcs; have H0 := Lib.hid h; clear hv hcs h; go_enter Tryz.func165, Tryz.ntmps165; go_wp2_with fail; refine (icanSplit n _ cap ws _ H0.out hn).mono ?_; rintro e w' ⟨rfl, rfl⟩; rw [HK.out]; go_wp2_with fail; clear hmk
 go_loopw [8] (fun l wr => ∃ j : Nat, j ≤ n.toNat ∧ l = .int .i64 (n - j) ∧ Row wr w.heap.size (avgTo step ws j) ∧ Below w.heap.size w wr) (fun l _ => (intOf l).toNat)
 case atStart =>
  refine ⟨0, Nat.zero_le _, by go_num, ?_, by go_grown⟩; unfold Row; rw [avgTo_len]; refine (World.rowIs_made w (.int .i64 0) ws.length _).congr (fun i hi => ?_)
  show Value.int .i64 0 = .int .i64 ((List.replicate ws.length (0 : Int)).getD i 0)
  rw [List.getD_eq_getElem?_getD, List.getElem?_replicate]; split <;> rfl
 case round =>
  obtain ⟨j, hj, rfl, RG, hB⟩ := hrel
  by_cases hjn : (j : Int) < n
  ·have A := avg_is HV.out hs j (by omega)
   obtain ⟨hb, _⟩ := avg_pos HV.out hs (by omega) A; have hl := avgTo_len step ws j; have e1 := avgTo_succ step ws j
   have hbd : ∀ i, i < ws.length → 0 ≤ (avgTo step ws j).getD i 0 ∧ (avgTo step ws j).getD i 0 ≤ 1000 := fun i hi => by have := A.bd i hi; omega
   obtain ⟨G', hG'⟩ : ∃ G', avgTo step ws (j + 1) = G' := ⟨_, rfl⟩
   rw [hG'] at e1; have HG := Lib.hid hG'; clear hG' A; generalize avgTo step ws j = G at *; have HBD := Lib.hid hbd; have HRG := Lib.hid RG; have HB := Lib.hid hB; have HE := Lib.hid e1; clear hbd RG hB e1; go_wp2_with fail; refine (ihigh _ _ _ _ step ws G _ (ints_below H0.out HB.out) (row_ints HRG.out) hl hn hs (fun i hi => all_get HV.out hi) HBD.out l1).mono ?_; rintro e w3 ⟨rfl, B3⟩; have RG := row_keep HRG.out B3; have B4 := bel_tr HB.out B3; have E1 := HE.out; have hy := HBD.out _ hb; generalize pickB (avgB step ws G) ws.length = b at *; have hx := World.rowIs.cell RG (i := b) (by omega); have hf := World.rowIs.frozen RG b
   have i0 : (0 : Int) ≤ (b : Int) := by omega
   have i1 : (b : Int) < (ws.length : Int) := by omega
   have sG := row_set RG b (G.getD b 0 + 1) (by omega); rw [← E1] at sG; have sB : Below w.heap.size w (w3.setCell ⟨w.heap.size, b, none⟩ (.int .i64 (G.getD b 0 + 1))) := B4.setCell (Nat.le_refl _) _; have HS := Lib.hid (And.intro sG sB); clear sG sB RG B3 B4 E1 HE HRG HB; generalize G.getD b 0 = y at *
   go_wp2
   go_roundw
   case rel => exact ⟨j + 1, by omega, by go_num, by rw [HG.out]; exact HS.out.1, HS.out.2⟩
   case measure => simp [intOf]; omega
  ·have e : j = n.toNat := by omega
   subst e
   have e2 : ((n.toNat : Nat) : Int) = n := by omega
   have HR := Lib.hid RG; clear RG; rw [e2]
   go_wp2
   go_ret; exact ⟨w.heap.size, rfl, Nat.le_refl _, HR.out, hB⟩
theorem imiddle_no (n : Int) (a : Option Addr) (cap : Nat) (ws : List Int) (w : World) (h : IsInts w a ws) (hn : ws.length ≤ 1048576) (hcs : csB n ws = false) :
  Calls Tryz.prog 164 #[.int .i64 n, .slice a ws.length cap] w fun e w' => e = .returned (.slice none 0 0) ∧ w = w' := by
 go_enter Tryz.func164, Tryz.ntmps164; go_wp2_with fail; refine (iavg_no 2 n a cap ws _ h hn hcs).mono ?_; rintro e w' ⟨rfl, rfl⟩; go_wp2_with fail; go_ret; exact ⟨rfl, rfl⟩
theorem imiddle (n : Int) (a : Option Addr) (cap : Nat) (ws : List Int) (w : World) (h : IsInts w a ws) (hn : ws.length ≤ 1048576) (hcs : csB n ws = true) :
  Calls Tryz.prog 164 #[.int .i64 n, .slice a ws.length cap] w (Divd ws.length (sa 2 n ws) w) := by
 have HC := Lib.hid hcs; clear hcs; go_enter Tryz.func164, Tryz.ntmps164; go_wp2_with fail; refine (iavg 2 n a cap ws _ h hn (by omega) HC.out).mono ?_; rintro e w' ⟨g, rfl, hg, hr, hB⟩; go_wp2_with fail; go_ret; exact ⟨g, rfl, hg, hr, hB⟩
theorem kp6 {W wq v : World} {p0 p1 p2 p3 p4 p5 : Addr} {u0 u1 u2 u3 u4 u5 : Value} (hb : Below W.heap.size W wq) (h : (W.cell? p0 = some u0 ∧ W.cell? p1 = some u1 ∧ W.cell? p2 = some u2 ∧ W.cell? p3 = some u3 ∧ W.cell? p4 = some u4 ∧ W.cell? p5 = some u5) ∧ Below v.heap.size v W) :
  (wq.cell? p0 = some u0 ∧ wq.cell? p1 = some u1 ∧ wq.cell? p2 = some u2 ∧ wq.cell? p3 = some u3 ∧ wq.cell? p4 = some u4 ∧ wq.cell? p5 = some u5) ∧ Below v.heap.size v wq := by
 obtain ⟨⟨a, b, c, d, e, f⟩, g⟩ := h
 have k : ∀ {p : Addr} {u : Value}, W.cell? p = some u → wq.cell? p = some u := fun hp => (hb.cell (World.block_lt_of_cell? W _ hp)).trans hp
 exact ⟨⟨k a, k b, k c, k d, k e, k f⟩, bel_tr g hb⟩
theorem ipassing (x0 x1 x2 x3 x4 c : Int) (w : World) (hc : 0 ≤ c ∧ c ≤ 500) (h2 : 0 ≤ x2 ∧ x2 ≤ 500) (h3 : 0 ≤ x3 ∧ x3 ≤ 500) :
  Calls Tryz.prog 155 #[.agg #[.int .i64 x0, .int .i64 x1, .int .i64 x2, .int .i64 x3, .int .i64 x4], .int .i64 c] w fun e w' => e = .returned (.int .i64 (passV (x0, x1, x2, x3, x4) c)) ∧ Below w.heap.size w w' := by
 by_cases h : c ≤ x2
 ·have HV : Hid (passV (x0, x1, x2, x3, x4) c = 0) := by show passV _ c = 0; unfold passV; exact if_pos h
  have e1 : decide (c ≤ x2) = true := decide_eq_true h; go_enter Tryz.func155, Tryz.ntmps155; go_wp2_with fail; go_ret; exact ⟨ret_int HV.out.symm, by go_grown⟩
 ·have e1 : decide (c ≤ x2) = false := decide_eq_false h
  have wz : IntKind.i64.wrap (c - x2) = c - x2 := by rw [IntKind.wrap_i64]; omega
  by_cases h4 : x3 < c - x2
  ·have HV : Hid (passV (x0, x1, x2, x3, x4) c = x3) := by show passV _ c = x3; unfold passV; rw [if_neg h]; exact if_pos h4
   have e2 : decide (x3 < c - x2) = true := decide_eq_true h4; go_enter Tryz.func155, Tryz.ntmps155; go_wp2_with fail; go_ret; exact ⟨ret_int HV.out.symm, by go_grown⟩
  ·have HV : Hid (passV (x0, x1, x2, x3, x4) c = c - x2) := by show passV _ c = c - x2; unfold passV; rw [if_neg h]; exact if_neg h4
   have e2 : decide (x3 < c - x2) = false := decide_eq_false h4; go_enter Tryz.func155, Tryz.ntmps155; go_wp2_with fail; go_ret; exact ⟨ret_int HV.out.symm, by go_grown⟩
theorem iweights (a b : Option Addr) (cap cb : Nat) (ns : List Nd) (ks : List Int) (w : World) (h : IsNd w a ns) (hb : IsInts w b ks) (hk : ∀ z ∈ ks, ∃ j : Nat, z = (j : Int) ∧ j < ns.length) (hn : ks.length ≤ 1048576) (hnn : ns.length ≤ 1048576) :
  Calls Tryz.prog 158 #[.slice a ns.length cap, .slice b ks.length cb] w (OutI w (wk ns ks)) := by
 have hmk := run_make_row' (P := Tryz.prog) 32 3 (.int .i64 0) 8 Tryz.underlying32 infoInt rfl .i64 .i64 ks.length (by omega) (by omega)
 rcases hb with rfl | ⟨gb, ob, rfl, hcb⟩
 ·have hmk0 := run_make_row' (P := Tryz.prog) 32 3 (.int .i64 0) 8 Tryz.underlying32 infoInt rfl .i64 .i64 0 (by omega) (by omega)
  rw [show ((0 : Nat) : Int) = 0 from rfl] at hmk0; clear hmk; go_enter Tryz.func158, Tryz.ntmps158; go_wp2_with fail; refine wp_loop_rounds 1 ?_; rw [rounds_succ]; go_wp2_with fail; go_ret; exact ⟨_, rfl, OwnI.made (Below.refl _ w) 0 (by omega), by go_grown⟩
 ·have HC := Lib.hid h
  have HCB := Lib.hid hcb; have HK := Lib.hid hk; clear h hcb hk; go_enter Tryz.func158, Tryz.ntmps158; go_wp2_with fail; clear hmk
  go_loopw [13] (fun i wr => ∃ k : Nat, k ≤ ks.length ∧ i = .int .i64 k ∧ wr.rowIs w.heap.size 3 ks.length (fun j => if j < k then .int .i64 ((wk ns ks).getD j 0) else .int .i64 0) ∧ Below w.heap.size w wr) (fun i _ => ks.length - (intOf i).toNat)
  case atStart => exact ⟨0, Nat.zero_le _, rfl, (World.rowIs_made w (.int .i64 0) ks.length _).congr (fun i hi => by simp), by go_grown⟩
  case round =>
   obtain ⟨k, hk, rfl, hrow, hB⟩ := hrel
   by_cases hlt : k < ks.length
   ·have hc0 := HCB.out k hlt
    have hc := (hB.cell (p := ⟨gb, ob + k, none⟩) (World.block_lt_of_cell? w _ hc0)).trans hc0; obtain ⟨m, hm, hml⟩ := HK.out _ (getD_mem hlt)
    have hd : wr.cell? ⟨w.heap.size, k, none⟩ = some (.int .i64 0) := by rw [hrow.cell hlt, if_neg (Nat.lt_irrefl k)]
    have hf := hrow.frozen k
    have hcon : ∀ z : Int, (wk ns ks).getD k 0 = z → (wr.setCell ⟨w.heap.size, k, none⟩ (.int .i64 z)).rowIs w.heap.size 3 ks.length (fun j => if j < k + 1 then .int .i64 ((wk ns ks).getD j 0) else .int .i64 0) := fun z hz =>
     (hrow.set k (.int .i64 z)).congr (fun j hj => by
      show (if j = k then Value.int .i64 z else if j < k then .int .i64 ((wk ns ks).getD j 0) else .int .i64 0) = _
      by_cases hjk : j = k
      ·subst hjk; rw [if_pos rfl, if_pos (by omega), hz]
      ·rw [if_neg hjk]
       by_cases hl : j < k
       ·rw [if_pos hl, if_pos (by omega)]
       ·rw [if_neg hl, if_neg (by omega)])
    have hcon2 := hcon _ (wk_get ns ks hlt); rw [hm, show ((m : Int)).toNat = m from by omega] at hcon2; rw [hm] at hc; have hnd : IsNd w a ns := HC.out
    rcases hnd with rfl | ⟨g, o, rfl, hcn⟩
    ·simp at hml
    have c1 := (nd_at hcn hB hml).2.1; clear hcon hc0 hcn hm; generalize (ns.getD m nd0).2.1 = z at c1 hcon2; have HR := Lib.hid hcon2; have HB := Lib.hid hB
    have b0 : (0 : Int) ≤ (m : Int) := by omega
    have b1 : (m : Int) < (ns.length : Int) := by omega
    clear hcon2 hrow hB
    go_wp2
    go_roundw
    case rel => exact ⟨k + 1, by omega, by go_num, HR.out, HB.out.setCell (Nat.le_refl _) _⟩
    case measure => simp [intOf]; omega
   ·have HR := Lib.hid hrow
    have HB := Lib.hid hB; clear hrow hB
    go_wp2
    go_ret; refine ⟨_, rfl, ?_, HB.out⟩; exact OwnI.of_row HR.out (wk_len ns ks) (fun j hj => by rw [if_pos (by omega)]) (Nat.le_refl _) hn
theorem row_own {w : World} {base g : Nat} {zs : List Int} (h : Row w g zs) (hb : base ≤ g) (hn : zs.length ≤ 1048576) : OwnI w base (.slice (some ⟨g, 0, none⟩) zs.length zs.length) zs :=
 OwnI.of_row h rfl (fun j hj => rfl) hb hn
theorem imidV (n : Int) (a : Option Addr) (cap : Nat) (ws : List Int) (w : World) (h : IsInts w a ws) (hn : ws.length ≤ 1048576) :
  Calls Tryz.prog 164 #[.int .i64 n, .slice a ws.length cap] w (OutI w (if csB n ws = true then sa 2 n ws else [])) := by
 by_cases hc : csB n ws = true
 ·rw [if_pos hc]
  refine (imiddle n a cap ws w h hn hc).mono ?_; rintro e w' ⟨g, rfl, hg, hr, hB⟩; have := row_own hr hg (by rw [sa_len]; exact hn); rw [sa_len] at this; exact ⟨_, rfl, this, hB⟩
 ·rw [if_neg hc]
  refine (imiddle_no n a cap ws w h hn (by simpa using hc)).mono ?_; rintro e w' ⟨rfl, rfl⟩; exact outI_nil (Below.refl _ _)
theorem icanFlow (a : Option Addr) (cap : Nat) (ns : List Nd) (fl : Int) (w : World) (h : IsNd w a ns) (hn : ns.length ≤ 1048576) (hcap : ns.length ≤ cap) :
    Calls Tryz.prog 140 #[.slice a ns.length cap, .int .i64 fl] w fun e w' => e = .returned (.bool (flB ns fl)) ∧ Below w.heap.size w w' := by
  have VN := iVN a cap ns _ h hn hcap
  have CW := fun W => iwithin fl 500 W
  unfold flB
  cases hv : vnB ns with
  | false =>
    rw [hv] at VN; clear hv h; go_enter Tryz.func140, Tryz.ntmps140; go_wp2_with fail; refine VN.mono ?_; rintro e w1 ⟨rfl, C⟩; go_wp2_with fail; go_ret; exact ⟨rfl, C⟩
  | true =>
    rw [hv] at VN
    obtain ⟨t, ht⟩ : ∃ t, (decide (0 ≤ fl) && decide (fl ≤ 500)) = t := ⟨_, rfl⟩
    rw [ht] at CW ⊢; clear hv h ht; go_enter Tryz.func140, Tryz.ntmps140; go_wp2_with fail; refine VN.mono ?_; rintro e w1 ⟨rfl, C⟩; go_wp2_with fail; refine (CW _).mono ?_; rintro e w' ⟨rfl, rfl⟩; go_wp2_with fail; go_ret; exact ⟨by cases t <;> rfl, C⟩

end Go.Proofs.YthagafkjlecagabGreat
