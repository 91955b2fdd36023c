/- Contracts and facts of functions of this program, in build order. Conditions: those stated in each. -/
import Derived.Test.YtgmmdpdlekpmfaaGrC
import Derived.Test.YtgmmdpdlekpmfaaGrA
import Derived.Deep.RegionHeld3
import Derived.Deep.DeepCutAuto
namespace Go.Proofs.Ytgmmdpdlekpmfaa
open Go.RowKit

theorem own_snoc {w : World} {base : Nat} {v : Value} {A : List Hd} {o n d : Int} (h : w.ownsRow base 97 3 v (A.length + 1) (valsH A ++ [.int .i64 o, .int .i64 n, .int .i64 d])) : OwnH w base v (A ++ [(o, n, d)]) := by
  unfold OwnH
  rw [List.length_append, vals_append]; exact h
theorem setTo_not (L : Led) (o : Int) (q : Rat) : ∀ k, k ≤ L.length → (setTo L o q k).2 = false → q ≠ 0 := by
  intro k
  induction k with
  | zero => intro _ h; rw [setTo_zero] at h; simpa using h
  | succ k ih =>
    intro hk h
    rw [setTo_succ o q (by omega)] at h
    simp only [Bool.or_eq_false_iff] at h
    exact ih (by omega) h.1
theorem setTo_raw {L : Led} {hs : List Hd} (hh : hs = rawL L) {n d : Int} {q : Rat} (hq : shareIs n d q) (o : Int) {k : Nat} (hk : k < hs.length) {c : Bool} (hc : (setTo L o q k).2 = c) {x xn xd : Int} (hx : hs.getD k hd0 = (x, xn, xd)) :
    rawL (setTo L o q (k + 1)).1 = rawL (setTo L o q k).1 ++ ((if !c && decide (o ≤ x) then [(o, n, d)] else []) ++ (if x ≠ o then [(x, xn, xd)] else [])) ∧ (setTo L o q (k + 1)).2 = (c || decide (o ≤ x)) := by
  subst hh
  rw [raw_len] at hk
  rw [raw_get L hk] at hx
  have e1 : (L.getD k (0, 0)).1 = x := congrArg Prod.fst hx
  have e3 : rawL [L.getD k (0, 0)] = [(x, xn, xd)] := by show [rawH (L.getD k (0, 0))] = _; rw [hx]
  rw [setTo_succ o q hk, hc, e1]
  refine ⟨?_, rfl⟩
  dsimp only
  rw [raw_append, raw_append]
  congr 2
  · by_cases h : (!c && decide (o ≤ x)) = true
    · rw [if_pos h, if_pos h]
      have hcf : c = false := by cases c with | true => simp at h | false => rfl
      have := setTo_not L o q k (by omega) (by rw [hc, hcf])
      show [rawH (o, q)] = _
      rw [shareIs_raw hq this]
    · rw [if_neg h, if_neg h]; rfl
  · by_cases h : x ≠ o
    · rw [if_pos h, if_pos h, e3]
    · rw [if_neg h, if_neg h]; rfl

set_option linter.unusedSimpArgs false
set_option maxRecDepth 100000 in
set_option maxHeartbeats 4000000 in
theorem sset (a : Option Addr) (cap : Nat) (L : Led) (hs : List Hd) (o n d : Int) (q : Rat) (w : World) (h : IsHs w a hs) (hhs : hs = rawL L) (hn : hs.length ≤ 1000) (hq : shareIs n d q) :
    Calls Try.prog 134 #[.slice a hs.length cap, .int .i64 o, .agg #[.int .i64 n, .int .i64 d]] w (NewH w (rawL (setL L o q))) := by
  obtain ⟨i0, hi0, hz0, hz1, hz2⟩ := info_parts infoH
  have HQ := Lib.hid hq
  have HZ : Hid (decide (q = 0) = (n == 0)) := by show _ = _; rw [shareIs_zero hq]; by_cases e : n = 0 <;> simp [e]
  have HE : Hid (rawL (setL L o q) = rawL (setTo L o q hs.length).1 ++ (if (setTo L o q hs.length).2 then [] else [(o, n, d)])) := by
    show _ = _
    rw [setTo_end, raw_append, hhs, raw_len]
    congr 1
    cases hc : (setTo L o q L.length).2 with
    | true => rfl
    | false =>
      show [rawH (o, q)] = _
      rw [shareIs_raw hq (setTo_not L o q _ (Nat.le_refl _) hc)]; rfl
  have HLn : Hid (∀ k, k ≤ hs.length → (rawL (setTo L o q k).1).length ≤ 2 * k) := fun k hk => by rw [raw_len]; exact setTo_len L o q k (by rw [hhs, raw_len] at hk; exact hk)
  rcases h with he | ⟨g, off, rfl, hc⟩
  · have e0 : hs.length = 0 := by rw [he]; rfl
    rw [e0] at HE ⊢
    clear he hhs hq
    have hq0 := HE.out
    have hl0 : (rawL (setTo L o q 0).1) = [] := rfl
    have hs0 : (setTo L o q 0).2 = (n == 0) := by show decide (q = 0) = _; exact HZ.out
    rw [hl0, hs0] at hq0
    by_cases hz : n = 0
    · have hzb : (n == 0) = true := by simpa using hz
      have HW : Hid (rawL (setL L o q) = []) := by show _ = _; rw [hq0, hzb]; rfl
      clear hz hq0 hl0 hs0 HZ
      go_enter Try.func134, Try.ntmps134
      go_wp2_with fail
      refine wp_loop_rounds 1 ?_
      rw [rounds_succ]
      go_wp2_with fail
      go_ret
      refine ⟨_, rfl, ?_, by go_grown⟩
      rw [HW.out]
      exact ⟨rfl, .inr ⟨w.heap.size + 1, 0, #[], rfl, by omega, by have := Blk.new (w.alloc (.cells #[.int .i64 n, .int .i64 d] 53)) 97 #[]; rw [World.size_alloc] at this; exact this, Nat.le_refl _, by unfold maxLen; omega, rfl, rfl⟩⟩
    · have hzb : (n == 0) = false := by simpa using hz
      have HW : Hid (rawL (setL L o q) = [(o, n, d)]) := by show _ = _; rw [hq0, hzb]; rfl
      have hown : ((w.alloc (.cells #[.int .i64 n, .int .i64 d] 53)).alloc (.cells #[] 97)).ownsRow (w.heap.size + 1) 97 3 (.slice (some ⟨w.heap.size + 1, 0, none⟩) 0 0) 0 (valsH []) := ⟨rfl, .inr ⟨w.heap.size + 1, 0, #[], rfl, by omega, by have := Blk.new (w.alloc (.cells #[.int .i64 n, .int .i64 d] 53)) 97 #[]; rw [World.size_alloc] at this; exact this, Nat.le_refl _, by unfold maxLen; omega, rfl, rfl⟩⟩
      have HO := Lib.hid hown
      clear hz hq0 hl0 hs0 HZ hown
      go_enter Try.func134, Try.ntmps134
      go_wp2_with fail
      refine wp_loop_rounds 1 ?_
      rw [rounds_succ]
      go_wp2_with (first | (at_builtin; refine wpList_append_own _ rfl (.tmp 53) (.tmp 57) _ rfl (w.heap.size + 1) 97 i0 _ 3 24 Try.underlying32 hi0 hz0 hz1 hz2 rfl (by decide) _ _ (valsH []) rfl (HO.out.alloc _) ⟨w.heap.size + 2, 0, none⟩ 1 1 [.int .i64 o, .int .i64 n, .int .i64 d] rfl rfl (by have := new_cells ((w.alloc (.cells #[.int .i64 n, .int .i64 d] 53)).alloc (.cells #[] 97)) [.int .i64 o, .int .i64 n, .int .i64 d] 97; rw [World.size_alloc, World.size_alloc] at this; exact this) (vals_one [(o, n, d)]) (by unfold maxLen; omega) (by omega) (by simp <;> omega) ?_; intro v3 w3 h3 g3 n3))
      have O3 : OwnH w3 (w.heap.size + 1) v3 ([] ++ [(o, n, d)]) := own_snoc h3
      go_ret
      exact ⟨v3, rfl, by rw [HW.out]; exact own_base O3, ((((Below.refl _ _).alloc (Nat.le_refl _) _).alloc (by simp) _).alloc (by simp; omega) _).grown g3 (by simp; omega) (fun q hq => by have e : w.heap.size + 1 = q := Option.some.inj hq; omega)⟩
  · have HC := Lib.hid hc
    have HS := Lib.hid hhs
    clear hc hhs hq
    go_enter Try.func134, Try.ntmps134
    go_wp2_with fail
    go_loopw [7, 8, 9] (fun v b i wr => ∃ k : Nat, i = .int .i64 k ∧ b = .bool (setTo L o q k).2 ∧ k ≤ hs.length ∧ OwnH wr (w.heap.size + 1) v (rawL (setTo L o q k).1) ∧ Blk wr w.heap.size 53 #[.int .i64 n, .int .i64 d] ∧ Below w.heap.size w wr ∧ w.heap.size + 2 ≤ wr.heap.size) (fun _ _ i _ => hs.length - (intOf i).toNat)
    case atStart => exact ⟨0, rfl, by show _ = Value.bool (decide (q = 0)); rw [HZ.out], Nat.zero_le _, ⟨rfl, .inr ⟨w.heap.size + 1, 0, #[], rfl, Nat.le_refl _, by have := Blk.new (w.alloc (.cells #[.int .i64 n, .int .i64 d] 53)) 97 #[]; rw [World.size_alloc] at this; exact this, Nat.le_refl _, by unfold maxLen; omega, rfl, rfl⟩⟩, (Blk.new _ _ _).alloc _, by go_grown, by simp⟩
    case round =>
      obtain ⟨k, rfl, rfl, hk, hown, hS, hB, hsz⟩ := hrel
      unfold OwnH at hown
      obtain ⟨c, hcc⟩ : ∃ c, (setTo L o q k).2 = c := ⟨_, rfl⟩
      have hal := HLn.out k hk
      by_cases hlt : k < hs.length
      · obtain ⟨c0, c1, c2⟩ := cells_at HC.out hB hlt
        have ht := fun x xn xd => setTo_raw HS.out HQ.out o hlt hcc (x := x) (xn := xn) (xd := xd)
        obtain ⟨hh, hhe⟩ : ∃ hh, hs.getD k hd0 = hh := ⟨_, rfl⟩
        obtain ⟨x, xn, xd⟩ := hh
        rw [hhe] at c0 c1 c2
        dsimp only at c0 c1 c2
        have ht := ht x xn xd hhe
        rw [hcc]
        generalize rawL (setTo L o q k).1 = A at hown hal ht
        obtain ⟨t0, t1, t2, t3, t4⟩ := blk_two hS
        have HH := Lib.hid hhe
        clear hcc hhe
        by_cases hp : (!c && decide (o ≤ x)) = true
        · rw [if_pos hp] at ht
          simp only [Bool.and_eq_true, Bool.not_eq_true', decide_eq_true_eq] at hp
          obtain ⟨rfl, hox⟩ := hp
          by_cases hx : x = o
          · rw [if_neg (fun e => e hx)] at ht
            have HT := Lib.hid ht
            have hxb : (x == o) = true := by simpa using hx
            have hxn : (x != o) = false := by simp [hx]
            clear ht hx
            go_wp2_with (first | (at_builtin; refine wpList_append_own _ rfl (.tmp 31) (.tmp 35) _ rfl (w.heap.size + 1) 97 i0 _ 3 24 Try.underlying32 hi0 hz0 hz1 hz2 rfl (by decide) _ _ (valsH A) rfl (hown.alloc _) ⟨wr.heap.size, 0, none⟩ 1 1 [.int .i64 o, .int .i64 n, .int .i64 d] rfl rfl (new_cells wr _ _) (vals_one [(o, n, d)]) (by unfold maxLen; omega) (by omega) (by simp; omega) ?_; intro v2 w2 h2 g2 n2; have O2 : OwnH w2 (w.heap.size + 1) v2 (A ++ [(o, n, d)]) := own_snoc h2; have B2 : Below w.heap.size w w2 := (hB.alloc hB.size _).grown g2 (by simp; omega) (fun q hq => by have := (hown.lt q hq).1; omega); have S2 : Blk w2 w.heap.size 53 #[.int .i64 n, .int .i64 d] := (hS.alloc _).grown g2 (fun e => by have := (hown.lt _ e.symm).1; omega); have Z2 : (A ++ [(o, n, d)]).length ≤ 2 * k + 1 := (by rw [List.length_append]; simp; omega); have z2 : w.heap.size + 2 ≤ w2.heap.size := (by have := g2.size; simp at this; omega); obtain ⟨c0, c1, c2⟩ := cells_at HC.out B2 hlt; rw [HH.out] at c0 c1 c2; dsimp only at c0 c1 c2; clear h2 g2 n2; unfold OwnH at O2))
            go_roundw
            case rel => exact ⟨k + 1, by go_num, by rw [HT.out.2]; first | rfl | (simp; omega) | simp [hox], by omega, by rw [HT.out.1]; simp only [List.append_nil, List.nil_append, ← List.append_assoc]; exact O2, S2, B2, z2⟩
            case measure => simp [intOf]; omega
          · rw [if_pos hx] at ht
            have HT := Lib.hid ht
            have hxb : (x == o) = false := by simpa using hx
            have hxn : (x != o) = true := by simp [hx]
            clear ht hx
            go_wp2_with (first | (at_builtin; refine wpList_append_own _ rfl (.tmp 31) (.tmp 35) _ rfl (w.heap.size + 1) 97 i0 _ 3 24 Try.underlying32 hi0 hz0 hz1 hz2 rfl (by decide) _ _ (valsH A) rfl (hown.alloc _) ⟨wr.heap.size, 0, none⟩ 1 1 [.int .i64 o, .int .i64 n, .int .i64 d] rfl rfl (new_cells wr _ _) (vals_one [(o, n, d)]) (by unfold maxLen; omega) (by omega) (by simp; omega) ?_; intro v2 w2 h2 g2 n2; have O2 : OwnH w2 (w.heap.size + 1) v2 (A ++ [(o, n, d)]) := own_snoc h2; have B2 : Below w.heap.size w w2 := (hB.alloc hB.size _).grown g2 (by simp; omega) (fun q hq => by have := (hown.lt q hq).1; omega); have S2 : Blk w2 w.heap.size 53 #[.int .i64 n, .int .i64 d] := (hS.alloc _).grown g2 (fun e => by have := (hown.lt _ e.symm).1; omega); have Z2 : (A ++ [(o, n, d)]).length ≤ 2 * k + 1 := (by rw [List.length_append]; simp; omega); have z2 : w.heap.size + 2 ≤ w2.heap.size := (by have := g2.size; simp at this; omega); obtain ⟨c0, c1, c2⟩ := cells_at HC.out B2 hlt; rw [HH.out] at c0 c1 c2; dsimp only at c0 c1 c2; clear h2 g2 n2; unfold OwnH at O2) | (at_builtin; refine wpList_append_own _ rfl (.tmp 44) (.tmp 49) _ rfl (w.heap.size + 1) 97 i0 _ 3 24 Try.underlying32 hi0 hz0 hz1 hz2 rfl (by decide) v2 _ (valsH (A ++ [(o, n, d)])) rfl (O2.alloc _) ⟨w2.heap.size, 0, none⟩ 1 1 [.int .i64 x, .int .i64 xn, .int .i64 xd] rfl rfl (new_cells w2 _ _) (vals_one [(x, xn, xd)]) (by unfold maxLen; omega) (by omega) (by simp; omega) ?_; intro v3 w3 h3 g3 n3))
            have O3 : OwnH w3 (w.heap.size + 1) v3 ((A ++ [(o, n, d)]) ++ [(x, xn, xd)]) := own_snoc h3
            have B3 : Below w.heap.size w w3 := (B2.alloc B2.size _).grown g3 (by simp; omega) (fun q hq => by have := (O2.lt q hq).1; omega)
            have S3 : Blk w3 w.heap.size 53 #[.int .i64 n, .int .i64 d] := (S2.alloc _).grown g3 (fun e => by have := (O2.lt _ e.symm).1; omega)
            have z3 : w.heap.size + 2 ≤ w3.heap.size := (by have := g3.size; simp at this; omega)
            go_roundw
            case rel => exact ⟨k + 1, by go_num, by rw [HT.out.2]; first | rfl | (simp; omega) | simp [hox], by omega, by rw [HT.out.1]; simp only [List.append_nil, List.nil_append, ← List.append_assoc]; exact O3, S3, B3, z3⟩
            case measure => simp [intOf]; omega
        · rw [if_neg hp] at ht
          have hp2 : c = true ∨ ¬ o ≤ x := by
            cases c with
            | true => exact .inl rfl
            | false => right; simpa using hp
          clear hp
          by_cases hx : x = o
          · rw [if_neg (fun e => e hx)] at ht
            have HT := Lib.hid ht
            have hxb : (x == o) = true := by simpa using hx
            have hxn : (x != o) = false := by simp [hx]
            have hc1 : c = true := by rcases hp2 with h | h; exact h; exact absurd (by omega) h
            subst hc1
            clear ht hx hp2
            go_wp2_with fail
            go_roundw
            case rel => exact ⟨k + 1, by go_num, by rw [HT.out.2]; first | rfl | (simp; omega) | simp [hox], by omega, by rw [HT.out.1]; simp only [List.append_nil, List.nil_append, ← List.append_assoc]; exact hown, hS, hB, hsz⟩
            case measure => simp [intOf]; omega
          · rw [if_pos hx] at ht
            have HT := Lib.hid ht
            have hxb : (x == o) = false := by simpa using hx
            have hxn : (x != o) = true := by simp [hx]
            clear ht hx
            rcases hp2 with hp2 | hp2
            · subst hp2
              go_wp2_with (first | (at_builtin; refine wpList_append_own _ rfl (.tmp 44) (.tmp 49) _ rfl (w.heap.size + 1) 97 i0 _ 3 24 Try.underlying32 hi0 hz0 hz1 hz2 rfl (by decide) _ _ (valsH A) rfl (hown.alloc _) ⟨wr.heap.size, 0, none⟩ 1 1 [.int .i64 x, .int .i64 xn, .int .i64 xd] rfl rfl (new_cells wr _ _) (vals_one [(x, xn, xd)]) (by unfold maxLen; omega) (by omega) (by simp; omega) ?_; intro v3 w3 h3 g3 n3))
              have O3 : OwnH w3 (w.heap.size + 1) v3 (A ++ [(x, xn, xd)]) := own_snoc h3
              have B3 : Below w.heap.size w w3 := (hB.alloc hB.size _).grown g3 (by simp; omega) (fun q hq => by have := (hown.lt q hq).1; omega)
              have S3 : Blk w3 w.heap.size 53 #[.int .i64 n, .int .i64 d] := (hS.alloc _).grown g3 (fun e => by have := (hown.lt _ e.symm).1; omega)
              have z3 : w.heap.size + 2 ≤ w3.heap.size := (by have := g3.size; simp at this; omega)
              go_roundw
              case rel => exact ⟨k + 1, by go_num, by rw [HT.out.2]; first | rfl | (simp; omega) | simp [hox], by omega, by rw [HT.out.1]; simp only [List.append_nil, List.nil_append, ← List.append_assoc]; exact O3, S3, B3, z3⟩
              case measure => simp [intOf]; omega
            · have hox : decide (o ≤ x) = false := by simpa using hp2
              cases c with
              | false =>
                go_wp2_with (first | (at_builtin; refine wpList_append_own _ rfl (.tmp 44) (.tmp 49) _ rfl (w.heap.size + 1) 97 i0 _ 3 24 Try.underlying32 hi0 hz0 hz1 hz2 rfl (by decide) _ _ (valsH A) rfl (hown.alloc _) ⟨wr.heap.size, 0, none⟩ 1 1 [.int .i64 x, .int .i64 xn, .int .i64 xd] rfl rfl (new_cells wr _ _) (vals_one [(x, xn, xd)]) (by unfold maxLen; omega) (by omega) (by simp; omega) ?_; intro v3 w3 h3 g3 n3))
                have O3 : OwnH w3 (w.heap.size + 1) v3 (A ++ [(x, xn, xd)]) := own_snoc h3
                have B3 : Below w.heap.size w w3 := (hB.alloc hB.size _).grown g3 (by simp; omega) (fun q hq => by have := (hown.lt q hq).1; omega)
                have S3 : Blk w3 w.heap.size 53 #[.int .i64 n, .int .i64 d] := (hS.alloc _).grown g3 (fun e => by have := (hown.lt _ e.symm).1; omega)
                have z3 : w.heap.size + 2 ≤ w3.heap.size := (by have := g3.size; simp at this; omega)
                go_roundw
                case rel => exact ⟨k + 1, by go_num, by rw [HT.out.2]; first | rfl | (simp; omega) | simp [hox], by omega, by rw [HT.out.1]; simp only [List.append_nil, List.nil_append, ← List.append_assoc]; exact O3, S3, B3, z3⟩
                case measure => simp [intOf]; omega
              | true =>
                go_wp2_with (first | (at_builtin; refine wpList_append_own _ rfl (.tmp 44) (.tmp 49) _ rfl (w.heap.size + 1) 97 i0 _ 3 24 Try.underlying32 hi0 hz0 hz1 hz2 rfl (by decide) _ _ (valsH A) rfl (hown.alloc _) ⟨wr.heap.size, 0, none⟩ 1 1 [.int .i64 x, .int .i64 xn, .int .i64 xd] rfl rfl (new_cells wr _ _) (vals_one [(x, xn, xd)]) (by unfold maxLen; omega) (by omega) (by simp; omega) ?_; intro v3 w3 h3 g3 n3))
                have O3 : OwnH w3 (w.heap.size + 1) v3 (A ++ [(x, xn, xd)]) := own_snoc h3
                have B3 : Below w.heap.size w w3 := (hB.alloc hB.size _).grown g3 (by simp; omega) (fun q hq => by have := (hown.lt q hq).1; omega)
                have S3 : Blk w3 w.heap.size 53 #[.int .i64 n, .int .i64 d] := (hS.alloc _).grown g3 (fun e => by have := (hown.lt _ e.symm).1; omega)
                have z3 : w.heap.size + 2 ≤ w3.heap.size := (by have := g3.size; simp at this; omega)
                go_roundw
                case rel => exact ⟨k + 1, by go_num, by rw [HT.out.2]; first | rfl | (simp; omega) | simp [hox], by omega, by rw [HT.out.1]; simp only [List.append_nil, List.nil_append, ← List.append_assoc]; exact O3, S3, B3, z3⟩
                case measure => simp [intOf]; omega
      · obtain rfl : hs.length = k := by omega
        have he := HE.out
        rw [hcc] at he ⊢
        generalize rawL (setTo L o q hs.length).1 = A at hown hal he
        obtain ⟨t0, t1, t2, t3, t4⟩ := blk_two hS
        clear hcc
        cases c with
        | true =>
          have HW : Hid (rawL (setL L o q) = A) := by show _ = _; rw [he]; simp
          clear he
          go_wp2_with fail
          go_ret
          refine ⟨_, rfl, ?_, hB⟩
          rw [HW.out]
          exact own_base hown
        | false =>
          have HW : Hid (rawL (setL L o q) = A ++ [(o, n, d)]) := he
          clear he
          go_wp2_with (first | (at_builtin; refine wpList_append_own _ rfl (.tmp 53) (.tmp 57) _ rfl (w.heap.size + 1) 97 i0 _ 3 24 Try.underlying32 hi0 hz0 hz1 hz2 rfl (by decide) _ _ (valsH A) rfl (hown.alloc _) ⟨wr.heap.size, 0, none⟩ 1 1 [.int .i64 o, .int .i64 n, .int .i64 d] rfl rfl (new_cells wr _ _) (vals_one [(o, n, d)]) (by unfold maxLen; omega) (by omega) (by simp; omega) ?_; intro v3 w3 h3 g3 n3))
          have O3 : OwnH w3 (w.heap.size + 1) v3 (A ++ [(o, n, d)]) := own_snoc h3
          go_ret
          exact ⟨v3, rfl, by rw [HW.out]; exact own_base O3, (hB.alloc hB.size _).grown g3 (by simp; omega) (fun q hq => by have := (hown.lt q hq).1; omega)⟩
end Go.Proofs.Ytgmmdpdlekpmfaa
namespace Go.Proofs.Ytgmmdpdlekpmfaa
open Go.RowKit

theorem keepQ {W wq v : World} {x y : Value} {k : Nat} (hb : Below W.heap.size W wq) (h : W.cell? ⟨k, 0, none⟩ = some x ∧ W.cell? ⟨k, 1, none⟩ = some y ∧ Below v.heap.size v W) : wq.cell? ⟨k, 0, none⟩ = some x ∧ wq.cell? ⟨k, 1, none⟩ = some y ∧ Below v.heap.size v wq :=
  ⟨(hb.cell (World.block_lt_of_cell? W _ h.1)).trans h.1, (hb.cell (World.block_lt_of_cell? W _ h.2.1)).trans h.2.1, bel_tr h.2.2 hb⟩
theorem keepQset {W v : World} {x y u z : Value} {b k : Nat} (h : W.cell? ⟨k, 0, none⟩ = some x ∧ W.cell? ⟨k, 1, none⟩ = some y ∧ Below v.heap.size v W) (hlt : k < b) (hv : v.heap.size ≤ b) : ((W.setCell ⟨b, 0, none⟩ u).setCell ⟨b, 1, none⟩ z).cell? ⟨k, 0, none⟩ = some x ∧ ((W.setCell ⟨b, 0, none⟩ u).setCell ⟨b, 1, none⟩ z).cell? ⟨k, 1, none⟩ = some y ∧ Below v.heap.size v ((W.setCell ⟨b, 0, none⟩ u).setCell ⟨b, 1, none⟩ z) := by
  have hq : ∀ (V : World) (i l : Nat) (z : Value), (V.setCell ⟨b, i, none⟩ z).cell? ⟨k, l, none⟩ = V.cell? ⟨k, l, none⟩ := fun V i l z => World.cell?_setCell_other V _ _ z (fun e => by injection e with e; omega)
  exact ⟨by rw [hq, hq]; exact h.1, by rw [hq, hq]; exact h.2.1, (h.2.2.setCell hv _).setCell hv _⟩
theorem keepQR {W v : World} {x y : Value} {o o' : Obj} {k : Nat} (h : (W.alloc o).cell? ⟨k, 0, none⟩ = some x ∧ (W.alloc o).cell? ⟨k, 1, none⟩ = some y ∧ Below v.heap.size v (W.alloc o)) (hB : Below v.heap.size v W) (hk : k < v.heap.size) (hlt : v.heap.size ≤ W.heap.size) : (W.alloc o').cell? ⟨k, 0, none⟩ = some x ∧ (W.alloc o').cell? ⟨k, 1, none⟩ = some y ∧ Below v.heap.size v (W.alloc o') := by
  have e : ∀ (l : Nat) (o : Obj), (W.alloc o).cell? ⟨k, l, none⟩ = W.cell? ⟨k, l, none⟩ := fun l o => World.cell?_alloc_lt W o ⟨k, l, none⟩ (by show k < W.heap.size; omega)
  rw [e, e] at h
  exact ⟨by rw [e]; exact h.1, by rw [e]; exact h.2.1, hB.alloc hlt _⟩
theorem keepQR0 {v : World} {x y : Value} {o o' : Obj} {k : Nat} (hk : k < v.heap.size) (h : (v.alloc o).cell? ⟨k, 0, none⟩ = some x ∧ (v.alloc o).cell? ⟨k, 1, none⟩ = some y ∧ Below v.heap.size v (v.alloc o)) : (v.alloc o').cell? ⟨k, 0, none⟩ = some x ∧ (v.alloc o').cell? ⟨k, 1, none⟩ = some y ∧ Below v.heap.size v (v.alloc o') := keepQR h (Below.refl _ _) hk (Nat.le_refl _)
theorem own_next {w w' : World} {base : Nat} {v : Value} {hs : List Hd} (h : OwnH w base v hs) (hb : Below w.heap.size w w') : OwnH w' base v hs := by
  refine ⟨h.1, ?_⟩
  rcases h.2 with h | ⟨g, cap, cur, a, b, c, d⟩
  · exact .inl h
  · exact .inr ⟨g, cap, cur, a, b, (hb.block g (Blk.lt c)).trans c, d⟩
theorem keepV {w W wq : World} {p q r s : Addr} {x y u v : Value} (hb : Below W.heap.size W wq) (h : W.cell? p = some x ∧ W.cell? q = some y ∧ W.cell? r = some u ∧ W.cell? s = some v ∧ Below w.heap.size w W) : wq.cell? p = some x ∧ wq.cell? q = some y ∧ wq.cell? r = some u ∧ wq.cell? s = some v ∧ Below w.heap.size w wq := by
  have n : ∀ {p : Addr} {v : Value}, W.cell? p = some v → wq.cell? p = some v := fun h => (hb.cell (World.block_lt_of_cell? W _ h)).trans h
  exact ⟨n h.1, n h.2.1, n h.2.2.1, n h.2.2.2.1, bel_tr h.2.2.2.2 hb⟩
theorem keepVb {w W : World} {p q r s : Addr} {x y u v : Value} (h : W.cell? p = some x ∧ W.cell? q = some y ∧ W.cell? r = some u ∧ W.cell? s = some v ∧ Below w.heap.size w W) : Below w.heap.size w W := h.2.2.2.2
theorem ssubQ {an ad bn bd x y : Int} {b : Bool} (w : World) (ha : Wsh.vfB an ad = true) (hb : Wsh.vfB bn bd = true) (hr : Wsh.redB (an * bd - bn * ad) (ad * bd) = b) (hx : Wsh.rn (an * bd - bn * ad) (ad * bd) = x) (hy : Wsh.rd (an * bd - bn * ad) (ad * bd) = y) :
    Calls Try.prog 133 #[.agg #[.int .i64 an, .int .i64 ad], .agg #[.int .i64 bn, .int .i64 bd]] w fun e w' => e = .returned (.tuple #[.agg #[.int .i64 (Wsh.qn b x), .int .i64 (Wsh.qn b y)], .bool b]) ∧ Below w.heap.size w w' := by
  have := ssub an ad bn bd w ha hb
  rw [hr, hx, hy] at this; exact this
theorem sshareL (a : Option Addr) (cap : Nat) (L : Led) (hs : List Hd) (o : Int) (w : World) (h : IsHs w a hs) (hh : hs = rawL L) (hn : hs.length ≤ 1048576) :
    Calls Try.prog 113 #[.slice a hs.length cap, .int .i64 o] w fun e w' => e = .returned (.agg #[.int .i64 (shareL L o).num, .int .i64 ((shareL L o).den : Int)]) ∧ Below w.heap.size w w' := by
  have := sshare a cap hs o w h hn
  unfold ShareV at this
  rw [hh, shR_raw] at this
  rw [hh]
  exact this
/-- shares of L, as spec's fractions -/
theorem sub_led2 {L : Led} (hf : ∀ x ∈ L, frB x.2 = true) (o : Int) {p : Rat} (hp : frB p = true) :
    Wsh.vfB (shareL L o).num ((shareL L o).den : Int) = true ∧ Wsh.vfB p.num (p.den : Int) = true ∧ Wsh.redB ((shareL L o).num * (p.den : Int) - p.num * ((shareL L o).den : Int)) (((shareL L o).den : Int) * (p.den : Int)) = frB (shareL L o - p) ∧ Wsh.redB ((shareL L o).num * (p.den : Int) + p.num * ((shareL L o).den : Int)) (((shareL L o).den : Int) * (p.den : Int)) = frB (shareL L o + p) :=
  ⟨q_vf (share_frA hf o), q_vf hp, (sub_red (shareL L o) p).1, (add_red (shareL L o) p).1⟩

set_option maxHeartbeats 4000000 in
/-- spec.sell, of a valid ledger and a fraction -/
theorem ssell (a : Option Addr) (cap : Nat) (L : Led) (hs : List Hd) (fr tt pn pd : Int) (p : Rat) (w : World) (hcc : IsHs w a hs) (hh : hs = rawL L) (hn : hs.length ≤ 900) (hf : ∀ x ∈ L, frB x.2 = true) (hp : frB p = true) (hpn : pn = p.num) (hpd : pd = (p.den : Int)) :
    Calls Try.prog 111 #[.slice a hs.length cap, .int .i64 fr, .int .i64 tt, .agg #[.int .i64 pn, .int .i64 pd]] w (MoveV w (sellB L fr tt p) (soldL L fr tt p)) := by
  obtain ⟨q4, q5, q1, r1⟩ := sub_led2 hf fr hp
  obtain ⟨_, q2, q3⟩ := sub_led hf fr hp
  obtain ⟨s4, _, _, s1⟩ := sub_led2 hf tt hp
  obtain ⟨_, s2, s3⟩ := add_led hf tt hp
  have A1 := Lib.hid q1
  have A2 := Lib.hid q2
  have A3 := Lib.hid q3
  have A4 := Lib.hid q4
  have A5 := Lib.hid q5
  have C1 := Lib.hid s1
  have C2 := Lib.hid s2
  have C3 := Lib.hid s3
  have C4 := Lib.hid s4
  have HI := Lib.hid hcc
  have HH := Lib.hid hh
  have HF := Lib.hid hf
  have HP := Lib.hid hp
  have HPn := Lib.hid hpn
  have HPd := Lib.hid hpd
  rw [← hpn, ← hpd] at A1 A2 A3 A5 C1 C2 C3
  clear q1 q2 q3 q4 q5 r1 s1 s2 s3 s4 hcc hh hf hp hpn hpd
  obtain ⟨b, hb⟩ : ∃ b, frB (shareL L fr - p) = b := ⟨_, rfl⟩
  obtain ⟨c, hc⟩ : ∃ c, frB (shareL L tt + p) = c := ⟨_, rfl⟩
  rw [hb] at A1
  rw [hc] at C1
  have HB := Lib.hid hb
  have HC := Lib.hid hc
  clear hb hc
  go_enter Try.func111, Try.ntmps111
  go_upto_region 1 with fail
  go_cut [10, 11] (fun sx sy wx => ∃ k : Nat, sx = .pointer (some ⟨k, 0, none⟩) ∧ sy = .bool b ∧ Blk wx k 53 #[.int .i64 (Wsh.qn b (shareL L fr - p).num), .int .i64 (Wsh.qn b ((shareL L fr - p).den : Int))] ∧ w.heap.size < k ∧ wx.cell? ⟨w.heap.size, 0, none⟩ = some (.int .i64 pn) ∧ wx.cell? ⟨w.heap.size, 1, none⟩ = some (.int .i64 pd) ∧ Below w.heap.size w wx)
  case first =>
    go_region_held3 (fun w' => w'.cell? ⟨w.heap.size, 0, none⟩ = some (.int .i64 pn) ∧ w'.cell? ⟨w.heap.size, 1, none⟩ = some (.int .i64 pd) ∧ Below w.heap.size w w') (first | (exact keepM hb (by assumption)) | (exact keepM ((Below.refl _ _).alloc (Nat.le_refl _) _) (by assumption)) | (exact keepMR (by assumption) hBq (by omega)) | (exact keepMset (by assumption) (by first | omega | (simp; omega))) | (refine ⟨?_, ?_, ?_⟩ <;> first | (go_keep; done) | (go_grown; done)))
      (first | (go_at_call 113; refine (sshareL _ _ L hs fr _ (hs_below HI.out (And.right (And.right (by assumption)))) HH.out (by omega)).mono ?_; rintro e wq ⟨rfl, hb⟩; have hBq := (keepM hb (by assumption)).2.2; obtain ⟨hc, hf⟩ := bcell hb; have hzz := hb.size; (try simp only [World.size_alloc] at hzz); (try simp only [World.size_drew] at hzz); (try simp only [World.size_alloc] at hzz); (try simp only [Nat.add_one_le_iff] at hzz); (try have hq : w.heap.size + 1 < wq.heap.size := by omega); (try have hq3 : w.heap.size < wq.heap.size := by omega)) | (go_at_call 133; refine (ssubQ _ A4.out A5.out A1.out A2.out A3.out).mono ?_; rintro e wq ⟨rfl, hb⟩; have hBq := (keepM hb (by assumption)).2.2; obtain ⟨hc, hf⟩ := bcell hb; have hzz := hb.size; (try simp only [World.size_alloc] at hzz); (try simp only [World.size_drew] at hzz); (try simp only [World.size_alloc] at hzz); (try simp only [Nat.add_one_le_iff] at hzz); (try have hq : w.heap.size + 1 < wq.heap.size := by omega); (try have hq3 : w.heap.size < wq.heap.size := by omega)))
    all_goals
      have hS := ‹_ ∧ _›
      go_wp2_with fail
      go_meet
      first
      | exact ⟨_, rfl, rfl, Blk.new _ _ _, by omega, hS.1, hS.2.1, hS.2.2⟩
      | exact ⟨_, rfl, rfl, ((Blk.new _ _ _).next hb).two _ _, by omega, hS.1, hS.2.1, hS.2.2⟩
      | exact ⟨_, rfl, rfl, (((blk_second w _ _ _).next (by assumption)).next hb).two _ _, by omega, hS.1, hS.2.1, hS.2.2⟩
      | exact ⟨_, rfl, rfl, (((blk_second w _ _ _).drew.next (by assumption)).next hb).two _ _, by omega, hS.1, hS.2.1, hS.2.2⟩
  case rest =>
    obtain ⟨k, rfl, rfl, hblk, hk, c0, c1, hB⟩ := hcut
    have hbx : w.heap.size < wc.heap.size := World.block_lt_of_cell? wc _ c0
    have HK := Lib.hid hblk
    clear hblk
    go_upto_region 2 with fail
    go_cut [12, 13] (fun sx sy wx => ∃ k : Nat, sx = .pointer (some ⟨k, 0, none⟩) ∧ sy = .bool c ∧ Blk wx k 53 #[.int .i64 (Wsh.qn c (shareL L tt + p).num), .int .i64 (Wsh.qn c ((shareL L tt + p).den : Int))] ∧ wc.heap.size ≤ k ∧ wx.cell? ⟨w.heap.size, 0, none⟩ = some (.int .i64 pn) ∧ wx.cell? ⟨w.heap.size, 1, none⟩ = some (.int .i64 pd) ∧ Below wc.heap.size wc wx)
    case first =>
      go_region_held3 (fun w' => w'.cell? ⟨w.heap.size, 0, none⟩ = some (.int .i64 pn) ∧ w'.cell? ⟨w.heap.size, 1, none⟩ = some (.int .i64 pd) ∧ Below wc.heap.size wc w') (first | (exact keepQ hb (by assumption)) | (exact keepQ ((Below.refl _ _).alloc (Nat.le_refl _) _) (by assumption)) | (exact keepQR (by assumption) hBq hbx (by omega)) | (exact keepQR0 hbx (by assumption)) | (exact keepQset (by assumption) (by first | omega | (simp; omega)) (by first | omega | (simp; omega))) | (refine ⟨?_, ?_, ?_⟩ <;> first | (go_keep; done) | (exact (Below.refl _ _).drew) | (go_grown; done)))
        (first | (go_at_call 113; refine (sshareL _ _ L hs tt _ (hs_below (hs_below HI.out hB) (And.right (And.right (by assumption)))) HH.out (by omega)).mono ?_; rintro e wq ⟨rfl, hb⟩; have hBq := (keepQ hb (by assumption)).2.2; obtain ⟨hc, hf⟩ := bcell hb; have hzz := hb.size; (try simp only [World.size_alloc] at hzz); (try simp only [World.size_drew] at hzz); (try simp only [World.size_alloc] at hzz); (try simp only [Nat.add_one_le_iff] at hzz); (try have hq : wc.heap.size + 1 < wq.heap.size := by omega); (try have hq3 : wc.heap.size < wq.heap.size := by omega); (try have hq4 : wc.heap.size ≤ wq.heap.size := by omega)) | (go_at_call 132; refine (saddQ _ C4.out A5.out C1.out C2.out C3.out).mono ?_; rintro e wq ⟨rfl, hb⟩; have hBq := (keepQ hb (by assumption)).2.2; obtain ⟨hc, hf⟩ := bcell hb; have hzz := hb.size; (try simp only [World.size_alloc] at hzz); (try simp only [World.size_drew] at hzz); (try simp only [World.size_alloc] at hzz); (try simp only [Nat.add_one_le_iff] at hzz); (try have hq : wc.heap.size + 1 < wq.heap.size := by omega); (try have hq3 : wc.heap.size < wq.heap.size := by omega); (try have hq4 : wc.heap.size ≤ wq.heap.size := by omega)))
      all_goals
        have hS := ‹_ ∧ _›
        go_wp2_with fail
        go_meet
        first
        | exact ⟨_, rfl, rfl, Blk.new _ _ _, by omega, hS.1, hS.2.1, hS.2.2⟩
        | exact ⟨_, rfl, rfl, ((Blk.new _ _ _).next hb).two _ _, by omega, hS.1, hS.2.1, hS.2.2⟩
        | exact ⟨_, rfl, rfl, (((Blk.new wc _ _).next (by assumption)).next hb).two _ _, by omega, hS.1, hS.2.1, hS.2.2⟩
        | exact ⟨_, rfl, rfl, (((Blk.new wc _ _).drew.next (by assumption)).next hb).two _ _, by omega, hS.1, hS.2.1, hS.2.2⟩
    case rest =>
      obtain ⟨k2, rfl, rfl, hblk2, hk2, d0, d1, hB2⟩ := hcut
      obtain ⟨t0, t1, t2, t3, t4⟩ := blk_two (HK.out.next hB2)
      obtain ⟨r0, r1, r2, r3, r4⟩ := blk_two hblk2
      have hBB := bel_tr hB hB2
      clear hblk2 c0 c1 HK hB2 hB
      have HE : Hid (sellB L fr tt p = (b && c && decide (p ≠ 0) && decide (fr ≠ tt) && decide (1 ≤ tt) && decide (tt ≤ 999) && vlB (soldL L fr tt p))) := by show _ = _; unfold sellB; rw [HB.out, HC.out]
      have HZ : Hid ((pn = 0) ↔ p = 0) := by show _ ↔ _; rw [HPn.out]; exact num_zero p
      cases b with
      | false =>
        have HN : Hid (sellB L fr tt p = false) := HE.out
        go_wp2_with fail
        go_returns
        exact ⟨_, by rw [HN.out]; rfl, (fun _ => rfl), (fun c => by rw [HN.out] at c; cases c), hBB⟩
      | true =>
        cases c with
        | false =>
          have HN : Hid (sellB L fr tt p = false) := HE.out
          go_wp2_with fail
          go_returns
          exact ⟨_, by rw [HN.out]; rfl, (fun _ => rfl), (fun c => by rw [HN.out] at c; cases c), hBB⟩
        | true =>
          rw [Wsh.qn_true] at t0 t1 r0 r1
          by_cases hp0 : pn = 0
          · have HN : Hid (sellB L fr tt p = false) := by show _ = _; rw [HE.out]; simp [HZ.out.1 hp0]
            have e : (pn == 0) = true := by simpa using hp0
            clear hp0
            go_wp2_with fail
            go_returns
            exact ⟨_, by rw [HN.out]; rfl, (fun _ => rfl), (fun c => by rw [HN.out] at c; cases c), hBB⟩
          · have e : (pn == 0) = false := by simpa using hp0
            have HPz : Hid (p ≠ 0) := fun c => hp0 (HZ.out.2 c)
            clear hp0
            by_cases hft : fr = tt
            · have HN : Hid (sellB L fr tt p = false) := by show _ = _; rw [HE.out]; simp [hft]
              have e2 : (fr == tt) = true := by simpa using hft
              clear hft
              go_wp2_with fail
              go_returns
              exact ⟨_, by rw [HN.out]; rfl, (fun _ => rfl), (fun c => by rw [HN.out] at c; cases c), hBB⟩
            · have e2 : (fr == tt) = false := by simpa using hft
              have HFT := Lib.hid hft
              clear hft
              by_cases hr : tt < 1 ∨ 999 < tt
              · have HN : Hid (sellB L fr tt p = false) := by show _ = _; rw [HE.out]; simp; omega
                go_wp2_with fail
                refine (inRange_no tt 1 999 _ hr).mono ?_
                rintro e w' ⟨rfl, rfl⟩
                go_wp2_with fail
                go_returns
                exact ⟨_, by rw [HN.out]; rfl, (fun _ => rfl), (fun c => by rw [HN.out] at c; cases c), hBB⟩
              · have hE : sellB L fr tt p = vlB (soldL L fr tt p) := by
                  have h1 : 1 ≤ tt := by omega
                  have h2 : tt ≤ 999 := by omega
                  rw [HE.out]; simp [HPz.out, HFT.out, h1, h2]
                have HEE := Lib.hid hE
                clear hE
                have hl1 : (rawL (setL L fr (shareL L fr - p))).length ≤ 1000 := by
                  rw [raw_len]
                  have := set_len (L := L) fr (shareL L fr - p)
                  have e := congrArg List.length HH.out
                  rw [raw_len] at e
                  omega
                have hl2 : (rawL (soldL L fr tt p)).length ≤ 1048576 := by
                  rw [raw_len]
                  have := set_len (L := setL L fr (shareL L fr - p)) tt (shareL L tt + p)
                  rw [raw_len] at hl1
                  unfold soldL
                  omega
                go_wp2_with fail
                refine (inRange_yes tt 1 999 _ (by omega) (by omega)).mono ?_
                rintro e w' ⟨rfl, rfl⟩
                go_wp2_with fail
                go_region_held3 (fun w' => w'.cell? ⟨k, 0, none⟩ = some (.int .i64 (shareL L fr - p).num) ∧ w'.cell? ⟨k, 1, none⟩ = some (.int .i64 ((shareL L fr - p).den : Int)) ∧ w'.cell? ⟨k2, 0, none⟩ = some (.int .i64 (shareL L tt + p).num) ∧ w'.cell? ⟨k2, 1, none⟩ = some (.int .i64 ((shareL L tt + p).den : Int)) ∧ Below w.heap.size w w') (first | (exact keepV hb (by assumption)) | (refine ⟨?_, ?_, ?_, ?_, ?_⟩ <;> first | (go_keep; done) | exact hBB.drew))
                  (first | (go_at_call_of 134 (Value.slice a hs.length cap); refine (sset a cap L hs fr _ _ (shareL L fr - p) _ (hs_below HI.out (keepVb (by assumption))) HH.out (by omega) (.inl ⟨rfl, rfl⟩)).mono ?_; rintro e wq ⟨v1, rfl, hO, hb⟩; have hsz1 := hb.size; obtain ⟨b1, cp1, rfl, hI1, hc1⟩ := own_hs2 hO) | (go_at_call 134; refine (sset _ _ (setL L fr (shareL L fr - p)) _ tt _ _ (shareL L tt + p) _ hI1 rfl hl1 (.inl ⟨rfl, rfl⟩)).mono ?_; rintro e wq2 ⟨v2, rfl, hO2, hb⟩))
                have hBF : Below w.heap.size w wq2 := keepVb (by assumption)
                have hO3 : OwnH wq2 w.heap.size v2 (rawL (soldL L fr tt p)) := own_le hO2 (Nat.le_trans hBB.size hsz1)
                obtain ⟨b2, cp2, rfl, hI2, hc2⟩ := own_hs2 hO3
                have hv := svl b2 cp2 _ wq2 hI2 hl2
                rw [vlR_vl] at hv
                have HO3 := Lib.hid hO3
                clear hO3 hO2 hO
                cases hvl : vlB (soldL L fr tt p) with
                | false =>
                  rw [hvl] at hv
                  have HN : Hid (sellB L fr tt p = false) := by show _ = _; rw [HEE.out]; exact hvl
                  clear hvl
                  go_wp2_with fail
                  refine hv.mono ?_
                  rintro e w4 ⟨rfl, hb4⟩
                  go_wp2_with fail
                  go_returns
                  exact ⟨_, by rw [HN.out]; rfl, (fun _ => rfl), (fun c => by rw [HN.out] at c; cases c), bel_tr hBF hb4⟩
                | true =>
                  rw [hvl] at hv
                  have HN : Hid (sellB L fr tt p = true) := by show _ = _; rw [HEE.out]; exact hvl
                  clear hvl
                  go_wp2_with fail
                  refine hv.mono ?_
                  rintro e w4 ⟨rfl, hb4⟩
                  go_wp2_with fail
                  go_returns
                  exact ⟨_, by rw [HN.out]; rfl, (fun c => by rw [HN.out] at c; cases c), (fun _ => own_next HO3.out hb4), bel_tr hBF hb4⟩

/-- whether a part can be sold, as raw numbers tell -/
def selB (hs : List Hd) (fr tt pn pd : Int) : Bool := vlR hs && Wsh.vfB pn pd && sellB (ledOf hs) fr tt (Rat.divInt pn pd)
def selL (hs : List Hd) (fr tt pn pd : Int) : Led := soldL (ledOf hs) fr tt (Rat.divInt pn pd)
theorem led_eq {hs : List Hd} (h : vlR hs = true) : hs = rawL (ledOf hs) := (vlR_is h).1.symm
theorem led_le {hs : List Hd} (h : vlR hs = true) : hs.length ≤ 12 := by have := (vlR_is h).2.len; rwa [led_len] at this
end Go.Proofs.Ytgmmdpdlekpmfaa
namespace Go.Proofs.Ytgmmdpdlekpmfaa

structure Lz where
  owner : Int
  tenant : Int
  part : Rat
  fr : Int
  til : Int
/-- m runs when l begins, for the same owner -/
def runsB (l m : Lz) : Bool := decide (m.owner = l.owner) && decide (m.fr ≤ l.fr) && decide (l.fr < m.til)
/-- the parts of leases that run when l begins -/
def usedL (l : Lz) : List Lz → Rat
  | [] => 0
  | m :: t => (if runsB l m then m.part else 0) + usedL l t
theorem used_append (l : Lz) (A B : List Lz) : usedL l (A ++ B) = usedL l A + usedL l B := by
  induction A with
  | nil => show usedL l B = 0 + usedL l B; grind
  | cons h t ih => show _ + usedL l (t ++ B) = _ + usedL l t + usedL l B; rw [ih]; grind
theorem used_nonneg (l : Lz) {A : List Lz} (h : ∀ m ∈ A, 0 ≤ m.part) : 0 ≤ usedL l A := by
  induction A with
  | nil => exact Rat.le_refl
  | cons m t ih =>
    have a := h m (by simp)
    have b := ih (fun x hx => h x (by simp [hx]))
    show 0 ≤ (if runsB l m then m.part else 0) + usedL l t
    split <;> grind
/-- sums of the first leases that run when l begins are fractions -/
def sumsOk (Z : List Lz) (l : Lz) : Prop := ∀ k, k ≤ Z.length → frB (usedL l (Z.take k)) = true
structure VZ (L : Led) (Z : List Lz) : Prop where
  len : Z.length ≤ 10
  each : ∀ l ∈ Z, 1 ≤ l.tenant ∧ l.tenant ≤ 999 ∧ l.tenant ≠ l.owner ∧ frB l.part = true ∧ l.part ≠ 0 ∧ 0 ≤ l.fr ∧ l.fr ≤ 5000 ∧ l.fr + 1 ≤ l.til ∧ l.til ≤ 5000
  sums : ∀ l ∈ Z, sumsOk Z l
  share : ∀ l ∈ Z, usedL l Z ≤ shareL L l.owner
/-- P26: without one of them -/
theorem vz_less {L : Led} {A B : List Lz} {x : Lz} (h : VZ L (A ++ x :: B)) (hs : ∀ l ∈ A ++ B, sumsOk (A ++ B) l) : VZ L (A ++ B) := by
  have hm : ∀ l ∈ A ++ B, l ∈ A ++ x :: B := fun l hl => by
    rcases List.mem_append.1 hl with h | h
    · simp [h]
    · simp [h]
  refine ⟨?_, fun l hl => h.each l (hm l hl), hs, fun l hl => ?_⟩
  · have := h.len; rw [List.length_append, List.length_cons] at this; rw [List.length_append]; omega
  · have h1 := h.share l (hm l hl)
    have h2 : usedL l (A ++ x :: B) = usedL l A + ((if runsB l x then x.part else 0) + usedL l B) := by rw [used_append]; rfl
    have h3 : 0 ≤ x.part := frB_nonneg (h.each x (by simp)).2.2.2.1
    rw [used_append]
    rw [h2] at h1
    split at h1 <;> grind
theorem vz_nil (L : Led) : VZ L [] := ⟨by simp, fun l hl => by simp at hl, fun l hl => by simp at hl, fun l hl => by simp at hl⟩
/-- the ledger of users after the leases that run at t -/
def useL (t : Int) : Led → List Lz → Led
  | L, [] => L
  | L, l :: r => useL t (if l.fr ≤ t ∧ t < l.til then soldL L l.owner l.tenant l.part else L) r
/-- whether each part can go over -/
def useOk (t : Int) : Led → List Lz → Prop
  | _, [] => True
  | L, l :: r => (l.fr ≤ t ∧ t < l.til → frB (shareL L l.owner - l.part) = true ∧ frB (shareL L l.tenant + l.part) = true) ∧ useOk t (if l.fr ≤ t ∧ t < l.til then soldL L l.owner l.tenant l.part else L) r
theorem use_append (t : Int) : ∀ (A B : List Lz) (L : Led), useL t L (A ++ B) = useL t (useL t L A) B := by
  intro A
  induction A with
  | nil => intro B L; rfl
  | cons x r ih => intro B L; exact ih B _
theorem useOk_append (t : Int) : ∀ (A B : List Lz) (L : Led), useOk t L (A ++ B) ↔ useOk t L A ∧ useOk t (useL t L A) B := by
  intro A
  induction A with
  | nil => intro B L; show useOk t L B ↔ True ∧ useOk t L B; simp
  | cons x r ih =>
    intro B L
    show _ ∧ useOk t _ (r ++ B) ↔ (_ ∧ useOk t _ r) ∧ useOk t (useL t _ r) B
    rw [ih]; exact and_assoc.symm
/-- P27: no lease runs -/
theorem use_none (t : Int) : ∀ (Z : List Lz) (L : Led), (∀ l ∈ Z, ¬ (l.fr ≤ t ∧ t < l.til)) → useL t L Z = L := by
  intro Z
  induction Z with
  | nil => intro L _; rfl
  | cons x r ih =>
    intro L h
    show useL t (if _ then _ else _) r = L
    rw [if_neg (h x (by simp))]
    exact ih L (fun l hl => h l (by simp [hl]))
theorem use_asc (t : Int) : ∀ (Z : List Lz) (L : Led), Asc L → Asc (useL t L Z) := by
  intro Z
  induction Z with
  | nil => intro L h; exact h
  | cons x r ih =>
    intro L h
    refine ih _ ?_
    split
    · exact asc_set (asc_set h _ _) _ _
    · exact h
/-- one lease, as the model makes it: first the owner has less, then the tenant more -/
theorem sold_two {L : Led} (ha : Asc L) {f t : Int} (hft : t ≠ f) (p : Rat) : setL (setL L f (shareL L f - p)) t (shareL (setL L f (shareL L f - p)) t + p) = soldL L f t p := by
  unfold soldL
  rw [share_set ha, if_neg hft]
end Go.Proofs.Ytgmmdpdlekpmfaa
namespace Go.Proofs.Ytgmmdpdlekpmfaa
open Go.RowKit

theorem ipart_yes (n d : Int) (w : World) (h : Wsh.vfB n d = true) (h0 : 0 < n) :
    Calls Try.prog 136 #[.agg #[.int .i64 n, .int .i64 d]] w fun e w' => e = .returned (.bool true) ∧ Below w.heap.size w w' := by
  have IV := iValid n d (w.alloc (.cells #[.int .i64 n, .int .i64 d] 53))
  rw [h] at IV
  clear h
  go_enter Try.func136, Try.ntmps136
  go_wp2_with fail
  refine IV.mono ?_
  rintro e w1 ⟨rfl, hb⟩
  obtain ⟨t0, t1, t2, t3, t4⟩ := blk_two ((Blk.new w 53 #[.int .i64 n, .int .i64 d]).next hb)
  have hB1 : Below w.heap.size w w1 := bel_tr (by go_grown) hb
  clear hb
  go_wp2_with fail
  go_ret
  exact ⟨ret_bool (by simp), hB1⟩
theorem ipart_no (n d : Int) (w : World) (h : Wsh.vfB n d = false ∨ n ≤ 0) :
    Calls Try.prog 136 #[.agg #[.int .i64 n, .int .i64 d]] w fun e w' => e = .returned (.bool false) ∧ Below w.heap.size w w' := by
  have IV := iValid n d (w.alloc (.cells #[.int .i64 n, .int .i64 d] 53))
  cases hv : Wsh.vfB n d with
  | false =>
    rw [hv] at IV
    clear h hv
    go_enter Try.func136, Try.ntmps136
    go_wp2_with fail
    refine IV.mono ?_
    rintro e w1 ⟨rfl, hb⟩
    have hB1 : Below w.heap.size w w1 := bel_tr (by go_grown) hb
    go_wp2_with fail
    go_ret
    exact ⟨rfl, hB1⟩
  | true =>
    rw [hv] at IV
    have h0 : n ≤ 0 := by
      rcases h with h | h
      · rw [hv] at h; cases h
      · exact h
    clear h hv
    go_enter Try.func136, Try.ntmps136
    go_wp2_with fail
    refine IV.mono ?_
    rintro e w1 ⟨rfl, hb⟩
    obtain ⟨t0, t1, t2, t3, t4⟩ := blk_two ((Blk.new w 53 #[.int .i64 n, .int .i64 d]).next hb)
    have hB1 : Below w.heap.size w w1 := bel_tr (by go_grown) hb
    clear hb
    go_wp2_with fail
    go_ret
    exact ⟨ret_bool (by simp; omega), hB1⟩

set_option maxHeartbeats 2000000 in
theorem iSell (a : Option Addr) (cap : Nat) (hs : List Hd) (fr tt pn pd : Int) (w : World) (h : IsHs w a hs) (hn : hs.length ≤ 1048576) (hc : hs.length ≤ cap) :
    Calls Try.prog 116 #[.slice a hs.length cap, .int .i64 fr, .int .i64 tt, .agg #[.int .i64 pn, .int .i64 pd]] w (MoveV w (selB hs fr tt pn pd) (selL hs fr tt pn pd)) := by
  have hB0 : Below w.heap.size w (w.alloc (.cells #[.int .i64 pn, .int .i64 pd] 53)) := by go_grown
  have CV := iVL a cap hs (w.alloc (.cells #[.int .i64 pn, .int .i64 pd] 53)) (hs_below h hB0) hn
  have HI := Lib.hid h
  have HB0 := Lib.hid hB0
  have HC := Lib.hid hc
  clear h hB0 hc
  cases hv : vlR hs with
  | false =>
    rw [hv] at CV
    have HN : Hid (selB hs fr tt pn pd = false) := by show _ = _; unfold selB; rw [hv]; rfl
    clear hv
    go_enter Try.func116, Try.ntmps116
    go_wp2_with fail
    refine CV.mono ?_
    rintro e w1 ⟨rfl, hb⟩
    go_wp2_with fail
    go_returns
    exact ⟨_, by rw [HN.out]; rfl, (fun _ => rfl), (fun c => by rw [HN.out] at c; cases c), bel_tr HB0.out hb⟩
  | true =>
    rw [hv] at CV
    have HV := Lib.hid hv
    clear hv
    by_cases hr : tt < 1 ∨ 999 < tt
    · have HN : Hid (selB hs fr tt pn pd = false) := by
        show _ = _
        cases hx : selB hs fr tt pn pd with
        | false => rfl
        | true =>
          unfold selB at hx
          simp only [Bool.and_eq_true] at hx
          have := (sell_iff _ _ _ _).1 hx.2
          omega
      go_enter Try.func116, Try.ntmps116
      go_wp2_with fail
      refine CV.mono ?_
      rintro e w1 ⟨rfl, hb⟩
      have hB1 := bel_tr HB0.out hb
      go_wp2_with fail
      refine (iowner_no tt _ hr).mono ?_
      rintro e w' ⟨rfl, rfl⟩
      go_wp2_with fail
      go_returns
      exact ⟨_, by rw [HN.out]; rfl, (fun _ => rfl), (fun c => by rw [HN.out] at c; cases c), hB1⟩
    · have h1 : 1 ≤ tt := by omega
      have h2 : tt ≤ 999 := by omega
      clear hr
      by_cases hft : fr = tt
      · have HN : Hid (selB hs fr tt pn pd = false) := by
          show _ = _
          cases hx : selB hs fr tt pn pd with
          | false => rfl
          | true =>
            unfold selB at hx
            simp only [Bool.and_eq_true] at hx
            exact absurd hft ((sell_iff _ _ _ _).1 hx.2).2.2.2.1
        have e2 : (fr == tt) = true := by simpa using hft
        clear hft
        go_enter Try.func116, Try.ntmps116
        go_wp2_with fail
        refine CV.mono ?_
        rintro e w1 ⟨rfl, hb⟩
        have hB1 := bel_tr HB0.out hb
        go_wp2_with fail
        refine (iowner_yes tt _ h1 h2).mono ?_
        rintro e w' ⟨rfl, rfl⟩
        go_wp2_with fail
        go_returns
        exact ⟨_, by rw [HN.out]; rfl, (fun _ => rfl), (fun c => by rw [HN.out] at c; cases c), hB1⟩
      · have e2 : (fr == tt) = false := by simpa using hft
        have HFT := Lib.hid hft
        clear hft
        by_cases hp : Wsh.vfB pn pd = false ∨ pn ≤ 0
        · have HN : Hid (selB hs fr tt pn pd = false) := by
            show _ = _
            cases hx : selB hs fr tt pn pd with
            | false => rfl
            | true =>
              unfold selB at hx
              simp only [Bool.and_eq_true] at hx
              have hp0 := ((sell_iff _ _ _ _).1 hx.2).2.2.1
              have hvf := hx.1.2
              rcases hp with hp | hp
              · rw [hp] at hvf; cases hvf
              · have hk := (Wsh.vfB_iff _ _).1 hvf
                have : pn = 0 := by omega
                obtain ⟨e1, _, _⟩ := vf_q hvf
                exact absurd ((num_zero _).1 (e1.trans this)) hp0
          have HP : Hid (Wsh.vfB pn pd = false ∨ pn ≤ 0) := hp
          clear hp
          go_enter Try.func116, Try.ntmps116
          go_wp2_with fail
          refine CV.mono ?_
          rintro e w1 ⟨rfl, hb⟩
          obtain ⟨t0, t1, t2, t3, t4⟩ := blk_two ((Blk.new w 53 #[.int .i64 pn, .int .i64 pd]).next hb)
          have hB1 := bel_tr HB0.out hb
          clear hb CV
          go_wp2_with fail
          refine (iowner_yes tt _ h1 h2).mono ?_
          rintro e w' ⟨rfl, rfl⟩
          go_wp2_with fail
          refine (ipart_no pn pd _ HP.out).mono ?_
          rintro e w2 ⟨rfl, hb⟩
          go_wp2_with fail
          go_returns
          exact ⟨_, by rw [HN.out]; rfl, (fun _ => rfl), (fun c => by rw [HN.out] at c; cases c), bel_tr hB1 hb⟩
        · have hvf : Wsh.vfB pn pd = true := by
            cases hx : Wsh.vfB pn pd with
            | true => rfl
            | false => exact absurd (.inl hx) hp
          have hpos : 0 < pn := by
            rcases Int.lt_or_le 0 pn with h | h
            · exact h
            · exact absurd (.inr (by omega)) hp
          clear hp
          obtain ⟨e1, e2', e3⟩ := vf_q hvf
          have hL := (vlR_is HV.out).2
          have hle := led_le HV.out
          have HVL := Lib.hid hL
          have HEq := Lib.hid (led_eq HV.out)
          obtain ⟨p, hpe⟩ : ∃ p, p = Rat.divInt pn pd := ⟨_, rfl⟩
          rw [← hpe] at e1 e2' e3
          have HE : Hid (selB hs fr tt pn pd = (frB (shareL (ledOf hs) fr - p) && frB (shareL (ledOf hs) tt + p) && vlB (soldL (ledOf hs) fr tt p))) := by
            show _ = _
            have hp0 : p ≠ 0 := fun c => by rw [(num_zero p).2 c] at e1; omega
            unfold selB sellB
            rw [HV.out, hvf, ← hpe, decide_eq_true hp0, decide_eq_true HFT.out, decide_eq_true h1, decide_eq_true h2]
            simp
          have HSl : Hid (selL hs fr tt pn pd = soldL (ledOf hs) fr tt p) := by show _ = _; unfold selL; rw [hpe]
          have HT2 : Hid (setL (setL (ledOf hs) fr (shareL (ledOf hs) fr - p)) tt (shareL (setL (ledOf hs) fr (shareL (ledOf hs) fr - p)) tt + p) = soldL (ledOf hs) fr tt p) := sold_two hL.asc (fun e => HFT.out e.symm) p
          have HT3 : Hid (shareL (setL (ledOf hs) fr (shareL (ledOf hs) fr - p)) tt = shareL (ledOf hs) tt) := by show _ = _; rw [share_set hL.asc, if_neg (fun e => HFT.out e.symm)]
          have HVf := Lib.hid hvf
          have E1 := Lib.hid e1
          have E2 := Lib.hid e2'
          have E3 := Lib.hid e3
          have hl2 : (rawL (soldL (ledOf hs) fr tt p)).length ≤ 1048576 := by
            rw [raw_len]
            have b1 := set_len (L := setL (ledOf hs) fr (shareL (ledOf hs) fr - p)) tt (shareL (ledOf hs) tt + p)
            have b2 := set_len (L := ledOf hs) fr (shareL (ledOf hs) fr - p)
            rw [led_len] at b2
            unfold soldL
            omega
          clear e1 e2' e3 hvf hL hpe
          go_enter Try.func116, Try.ntmps116
          go_wp2_with fail
          refine CV.mono ?_
          rintro e w1 ⟨rfl, hb⟩
          have hblk := (Blk.new w 53 #[.int .i64 pn, .int .i64 pd]).next hb
          obtain ⟨t0, t1, t2, t3, t4⟩ := blk_two hblk
          have HK := Lib.hid hblk
          have hB1 := bel_tr HB0.out hb
          clear hb CV hblk
          go_wp2_with fail
          refine (iowner_yes tt _ h1 h2).mono ?_
          rintro e w' ⟨rfl, rfl⟩
          go_wp2_with fail
          refine (ipart_yes pn pd _ HVf.out hpos).mono ?_
          rintro e w2 ⟨rfl, hb⟩
          obtain ⟨t0, t1, t2, t3, t4⟩ := blk_two (HK.out.next hb)
          have hB2 := bel_tr hB1 hb
          clear hb HK
          go_wp2_with fail
          have MV := imove a cap (ledOf hs) hs fr tt pn pd p w2 (hs_below HI.out hB2) HEq.out (by omega) HVL.out.asc HVL.out.fr E3.out E1.out.symm E2.out.symm HC.out
          rw [HT2.out, HT3.out] at MV
          refine MV.mono ?_
          rintro e w3 ⟨v, rfl, m1, m2, hb⟩
          have hB3 := bel_tr hB2 hb
          have hO0 := fun c => own_le (m2 c) hB2.size
          have HE' := HE.out
          generalize (frB (shareL (ledOf hs) fr - p) && frB (shareL (ledOf hs) tt + p)) = bb at m1 m2 hO0 HE' ⊢
          have HM := Lib.hid m1
          have HO := Lib.hid hO0
          have HEE := Lib.hid HE'
          clear m1 m2 hO0 HE' hb MV
          cases bb with
          | false =>
            have HN : Hid (selB hs fr tt pn pd = false) := by show _ = _; rw [HEE.out]; rfl
            go_wp2_with fail
            go_returns
            exact ⟨_, by rw [HN.out]; rfl, (fun _ => rfl), (fun c => by rw [HN.out] at c; cases c), hB3⟩
          | true =>
            have hO := HO.out rfl
            obtain ⟨b2, cp2, rfl, hI2, hc2⟩ := own_hs2 hO
            have hv := iVL b2 cp2 _ w3 hI2 hl2
            rw [vlR_vl] at hv
            have HO3 := Lib.hid hO
            clear hO HO HM
            cases hvl : vlB (soldL (ledOf hs) fr tt p) with
            | false =>
              rw [hvl] at hv
              have HN : Hid (selB hs fr tt pn pd = false) := by show _ = _; rw [HEE.out, hvl]; rfl
              clear hvl
              go_wp2_with fail
              refine hv.mono ?_
              rintro e w4 ⟨rfl, hb4⟩
              go_wp2_with fail
              go_returns
              exact ⟨_, by rw [HN.out]; rfl, (fun _ => rfl), (fun c => by rw [HN.out] at c; cases c), bel_tr hB3 hb4⟩
            | true =>
              rw [hvl] at hv
              have HN : Hid (selB hs fr tt pn pd = true) := by show _ = _; rw [HEE.out, hvl]; rfl
              clear hvl
              go_wp2_with fail
              refine hv.mono ?_
              rintro e w4 ⟨rfl, hb4⟩
              go_wp2_with fail
              go_returns
              exact ⟨_, by rw [HN.out]; rfl, (fun c => by rw [HN.out] at c; cases c), (fun _ => by rw [HSl.out]; exact own_next HO3.out hb4), bel_tr hB3 hb4⟩
end Go.Proofs.Ytgmmdpdlekpmfaa
namespace Go.Proofs.Ytgmmdpdlekpmfaa
open Go.RowKit

def joinB (hs : List Hd) (fr tt : Int) : Bool := selB hs fr tt (shV hs fr).1 (shV hs fr).2
def joinL' (hs : List Hd) (fr tt : Int) : Led := selL hs fr tt (shV hs fr).1 (shV hs fr).2
theorem iJoin (a : Option Addr) (cap : Nat) (hs : List Hd) (fr tt : Int) (w : World) (h : IsHs w a hs) (hn : hs.length ≤ 1048576) (hc : hs.length ≤ cap) :
    Calls Try.prog 118 #[.slice a hs.length cap, .int .i64 fr, .int .i64 tt] w (MoveV w (joinB hs fr tt) (joinL' hs fr tt)) := by
  have HI := Lib.hid h
  clear h
  go_enter Try.func118, Try.ntmps118
  go_wp2_with fail
  refine (iShareOf a cap hs fr _ HI.out hn).mono ?_
  rintro e w1 ⟨rfl, hb⟩
  go_wp2_with fail
  refine (iSell a cap hs fr tt _ _ _ (hs_below HI.out hb) hn hc).mono ?_
  rintro e w2 ⟨v, rfl, m1, m2, hb2⟩
  go_wp2_with fail
  go_returns
  exact ⟨v, rfl, m1, (fun c => own_le (m2 c) hb.size), bel_tr hb hb2⟩

theorem vl_small {L : Led} (h : VL L) : 0 < (rawL L).length ∧ (rawL L).length ≤ 1048576 := by
  rw [raw_len]
  refine ⟨?_, by have := h.len; omega⟩
  cases L with
  | nil => have := h.one; exact absurd this (by decide)
  | cons x t => simp
theorem sel_small {hs : List Hd} {fr tt pn pd : Int} (h : selB hs fr tt pn pd = true) : 0 < (rawL (selL hs fr tt pn pd)).length ∧ (rawL (selL hs fr tt pn pd)).length ≤ 1048576 := by
  unfold selB at h
  simp only [Bool.and_eq_true] at h
  exact vl_small ((sell_iff _ _ _ _).1 h.2).2.2.2.2.2.2
theorem join_small {hs : List Hd} {fr tt : Int} (h : joinB hs fr tt = true) : 0 < (rawL (joinL' hs fr tt)).length ∧ (rawL (joinL' hs fr tt)).length ≤ 1048576 := sel_small h
end Go.Proofs.Ytgmmdpdlekpmfaa
namespace Go.Proofs.Ytgmmdpdlekpmfaa
open Go.RowKit

/-- after the first k heirs -/
def gvTo (p : Rat) (L : Led) (zs : List Int) (k : Nat) : Led := giveL p L (zs.take k)
def gvOk (p : Rat) (L : Led) (zs : List Int) (k : Nat) : Bool := frB (shareL (gvTo p L zs k) (zs.getD k 0) + p)
def gvAll (p : Rat) (L : Led) (zs : List Int) : Bool := (List.range zs.length).all (gvOk p L zs)
theorem gv_zero (p : Rat) (L : Led) (zs : List Int) : gvTo p L zs 0 = L := rfl
theorem gv_succ (p : Rat) (L : Led) {zs : List Int} {k : Nat} (h : k < zs.length) : gvTo p L zs (k + 1) = setL (gvTo p L zs k) (zs.getD k 0) (shareL (gvTo p L zs k) (zs.getD k 0) + p) := by
  unfold gvTo
  rw [take_snocD zs h 0, give_snoc]
theorem gv_end (p : Rat) (L : Led) (zs : List Int) : gvTo p L zs zs.length = giveL p L zs := by unfold gvTo; rw [List.take_of_length_le (Nat.le_refl _)]
theorem gv_asc {p : Rat} {L : Led} (h : Asc L) (zs : List Int) (k : Nat) : Asc (gvTo p L zs k) := give_asc p _ _ h
theorem gv_fr {p : Rat} {L : Led} (h : ∀ x ∈ L, frB x.2 = true) {zs : List Int} : ∀ k, k ≤ zs.length → (∀ j, j < k → gvOk p L zs j = true) → ∀ x ∈ gvTo p L zs k, frB x.2 = true := by
  intro k
  induction k with
  | zero => intro _ _; exact h
  | succ k ih =>
    intro hk hj
    rw [gv_succ p L (by omega)]
    exact fr_set (ih (by omega) (fun j hj' => hj j (by omega))) _ (hj k (by omega))
theorem gv_len {p : Rat} {L : Led} {zs : List Int} : ∀ k, k ≤ zs.length → (gvTo p L zs k).length ≤ L.length + k := by
  intro k
  induction k with
  | zero => intro _; exact Nat.le_refl _
  | succ k ih =>
    intro hk
    rw [gv_succ p L (by omega)]
    have a := ih (by omega)
    have b := set_len (L := gvTo p L zs k) (zs.getD k 0) (shareL (gvTo p L zs k) (zs.getD k 0) + p)
    omega

set_option maxHeartbeats 2000000 in
theorem igainEach (a : Option Addr) (cap : Nat) (L : Led) (hs : List Hd) (A : Option Addr) (capz : Nat) (zs : List Int) (pn pd : Int) (p : Rat) (w : World) (hcc : IsHs w a hs) (hh : hs = rawL L) (hn : hs.length ≤ 100) (hz : IsInts w A zs) (hzn : zs.length ≤ 12) (ha : Asc L) (hf : ∀ x ∈ L, frB x.2 = true) (hp : frB p = true) (hpn : pn = p.num) (hpd : pd = (p.den : Int)) :
    Calls Try.prog 139 #[.slice a hs.length cap, .slice A zs.length capz, .agg #[.int .i64 pn, .int .i64 pd]] w (MoveV w (gvAll p L zs) (giveL p L zs)) := by
  have hll : hs.length = L.length := by rw [hh, raw_len]
  have HI := Lib.hid hcc
  have HH := Lib.hid hh
  have HZ := Lib.hid hz
  have HA := Lib.hid ha
  have HF := Lib.hid hf
  have HP := Lib.hid hp
  have HPn := Lib.hid hpn
  have HPd := Lib.hid hpd
  have HL0 := Lib.hid hll
  have hln : L.length ≤ 100 := by omega
  clear hcc hh hz ha hf hp hpn hpd hll
  go_enter Try.func139, Try.ntmps139
  go_wp2_with fail
  have hB0 : Below w.heap.size w (w.alloc (.cells #[.int .i64 pn, .int .i64 pd] 53)) := by go_grown
  refine (icopyN hs.length a cap hs _ (hs_below HI.out hB0) rfl (by omega)).mono ?_
  rintro e w1 ⟨v, rfl, hO, hb⟩
  have hB1 := bel_tr hB0 hb
  have hK1 := (Blk.new w 53 #[.int .i64 pn, .int .i64 pd]).next hb
  have hO1 : OwnH w1 w.heap.size v (rawL (gvTo p L zs 0)) := by rw [gv_zero, ← HH.out]; exact own_le hO hB0.size
  clear hO hb hB0
  go_wp2_with fail
  go_loopw [8, 17] (fun v i wr => ∃ k : Nat, k ≤ zs.length ∧ i = .int .i64 k ∧ Hid (∀ j, j < k → gvOk p L zs j = true) ∧ OwnH wr w.heap.size v (rawL (gvTo p L zs k)) ∧ Blk wr w.heap.size 53 #[.int .i64 pn, .int .i64 pd] ∧ Below w.heap.size w wr) (fun _ i _ => zs.length - (intOf i).toNat)
  case atStart => exact ⟨0, Nat.zero_le _, rfl, (fun j hj => by omega), hO1, hK1, hB1⟩
  case round =>
    clear hO1 hK1 hB1
    obtain ⟨k, hk, rfl, HK, hO, hS, hB⟩ := hrel
    obtain ⟨b1, c1, hv1, hI1, hc1⟩ := own_hs2 hO
    subst hv1
    by_cases hlt : k < zs.length
    · have hcz : ∃ g o, A = some ⟨g, o, none⟩ ∧ wr.cell? ⟨g, o + k, none⟩ = some (.int .i64 (zs.getD k 0)) := by
        rcases HZ.out with he | ⟨g, o, hA, hc⟩
        · rw [he] at hlt; simp at hlt
        · exact ⟨g, o, hA, (hB.cell (p := ⟨g, o + k, none⟩) (World.block_lt_of_cell? w _ (hc k hlt))).trans (hc k hlt)⟩
      obtain ⟨gz, oz, rfl, hcz⟩ := hcz
      have hlen : (rawL (gvTo p L zs k)).length ≤ 1000 := by
        rw [raw_len]; have := gv_len (p := p) (L := L) (zs := zs) k hk; omega
      have hgain := fun W hW => igain b1 c1 (gvTo p L zs k) (rawL (gvTo p L zs k)) (zs.getD k 0) pn pd p W hW rfl hlen (gv_asc HA.out zs k) (gv_fr HF.out k hk HK.out) HP.out HPn.out HPd.out hc1
      rw [← gv_succ p L hlt] at hgain
      have hgo : frB (shareL (gvTo p L zs k) (zs.getD k 0) + p) = gvOk p L zs k := rfl
      rw [hgo] at hgain
      obtain ⟨b, hb⟩ : ∃ b, gvOk p L zs k = b := ⟨_, rfl⟩
      rw [hb] at hgain
      have hno : b = false → gvAll p L zs = false := fun e => rng_no hlt (hb.trans e)
      have hyes : b = true → ∀ j, j < k + 1 → gvOk p L zs j = true := fun e => rng_more HK.out (hb.trans e)
      generalize zs.getD k 0 = z at hcz hgain
      have HG := Lib.hid hgain
      have HNO := Lib.hid hno
      have HYES := Lib.hid hyes
      have HI1 := Lib.hid hI1
      have HB := Lib.hid hB
      have HS := Lib.hid hS
      obtain ⟨t0, t1, t2, t3, t4⟩ := blk_two hS
      clear hgain hgo hb hno hyes hI1 hO hB hS
      cases b with
      | false =>
        have HN := Lib.hid (HNO.out rfl)
        go_wp2_with fail
        refine (HG.out _ HI1.out).mono ?_
        rintro e w2 ⟨v, rfl, m1, m2, hb2⟩
        clear m1 m2
        go_wp2_with fail
        go_returns
        exact ⟨_, by rw [HN.out]; rfl, (fun _ => rfl), (fun c => by rw [HN.out] at c; cases c), bel_tr HB.out hb2⟩
      | true =>
        have HY := Lib.hid (HYES.out rfl)
        go_wp2_with fail
        refine (HG.out _ HI1.out).mono ?_
        rintro e w2 ⟨v, rfl, m1, m2, hb2⟩
        have hO2 := own_le (m2 rfl) HB.out.size
        have HO2 := Lib.hid hO2
        clear m1 m2 hO2
        go_wp2_with fail
        go_roundw
        case rel => exact ⟨k + 1, by omega, by go_num, HY.out, HO2.out, HS.out.next hb2, bel_tr HB.out hb2⟩
        case measure => simp [intOf]; omega
    · obtain rfl : zs.length = k := by omega
      have HN : Hid (gvAll p L zs = true) := rng_yes HK.out
      rw [gv_end] at hO hI1 hc1 ⊢
      have HO := Lib.hid hO
      clear hO hI1 hS
      go_wp2_with fail
      go_returns
      exact ⟨_, by rw [HN.out]; rfl, (fun c => by rw [HN.out] at c; cases c), (fun _ => HO.out), hB⟩

def inhQ (hs : List Hd) (owner : Int) (zs : List Int) : Rat := Rat.divInt (shareL (ledOf hs) owner).num ((shareL (ledOf hs) owner).den * (zs.length : Int))
/-- the ledger after a share was inherited -/
def inhL (hs : List Hd) (owner : Int) (zs : List Int) : Led := giveL (inhQ hs owner zs) (setL (ledOf hs) owner 0) zs
def inhB (hs : List Hd) (owner : Int) (zs : List Int) : Bool :=
  vlR hs && decide (shareL (ledOf hs) owner ≠ 0) && heirsB zs owner && frB (inhQ hs owner zs) && gvAll (inhQ hs owner zs) (setL (ledOf hs) owner 0) zs && vlB (inhL hs owner zs)
theorem inh_no {hs : List Hd} {owner : Int} {zs : List Int} (h : vlR hs = false ∨ shareL (ledOf hs) owner = 0 ∨ heirsB zs owner = false ∨ frB (inhQ hs owner zs) = false ∨ gvAll (inhQ hs owner zs) (setL (ledOf hs) owner 0) zs = false ∨ vlB (inhL hs owner zs) = false) : inhB hs owner zs = false := by
  unfold inhB
  rcases h with h | h | h | h | h | h
  · rw [h]; rfl
  · rw [h]; simp
  all_goals (rw [h]; simp)
theorem inh_yes {hs : List Hd} {owner : Int} {zs : List Int} (h1 : vlR hs = true) (h2 : shareL (ledOf hs) owner ≠ 0) (h3 : heirsB zs owner = true) (h4 : frB (inhQ hs owner zs) = true) (h5 : gvAll (inhQ hs owner zs) (setL (ledOf hs) owner 0) zs = true) (h6 : vlB (inhL hs owner zs) = true) : inhB hs owner zs = true := by
  unfold inhB; rw [h1, h3, h4, h5, h6, decide_eq_true h2]; rfl
theorem shV_yes {hs : List Hd} (h : vlR hs = true) (o : Int) : shV hs o = ((shareL (ledOf hs) o).num, ((shareL (ledOf hs) o).den : Int)) := by
  unfold shV
  rw [h]
  conv => lhs; rw [led_eq h]
  exact shR_raw _ _
/-- the equal part as the program makes it -/
theorem inh_red {hs : List Hd} (owner : Int) {zs : List Int} (h : 1 ≤ zs.length) :
    Wsh.redB (shareL (ledOf hs) owner).num (((shareL (ledOf hs) owner).den : Int) * (zs.length : Int)) = frB (inhQ hs owner zs) ∧ Wsh.rn (shareL (ledOf hs) owner).num (((shareL (ledOf hs) owner).den : Int) * (zs.length : Int)) = (inhQ hs owner zs).num ∧ Wsh.rd (shareL (ledOf hs) owner).num (((shareL (ledOf hs) owner).den : Int) * (zs.length : Int)) = ((inhQ hs owner zs).den : Int) := by
  have hd : 0 < ((shareL (ledOf hs) owner).den : Int) * (zs.length : Int) := Int.mul_pos (by have := den_pos (shareL (ledOf hs) owner); omega) (by omega)
  exact ⟨redB_q hd, rn_q hd, rd_q hd⟩

set_option maxRecDepth 100000 in
set_option maxHeartbeats 4000000 in
theorem iInherit (a : Option Addr) (cap : Nat) (hs : List Hd) (owner : Int) (A : Option Addr) (capz : Nat) (zs : List Int) (w : World) (h : IsHs w a hs) (hn : hs.length ≤ 1048576) (hc : hs.length ≤ cap) (hz : IsInts w A zs) (hzn : zs.length ≤ 1048576) (hzc : zs.length ≤ capz) :
    Calls Try.prog 117 #[.slice a hs.length cap, .int .i64 owner, .slice A zs.length capz] w (MoveV w (inhB hs owner zs) (inhL hs owner zs)) := by
  have CV := iShareOf a cap hs owner w h hn
  have HI := Lib.hid h
  have HZ := Lib.hid hz
  clear h hz
  cases hv : vlR hs with
  | false =>
    have HN : Hid (inhB hs owner zs = false) := inh_no (.inl hv)
    unfold ShareO shV at CV
    rw [hv] at CV
    clear hv
    go_enter Try.func117, Try.ntmps117
    go_wp2_with fail
    refine CV.mono ?_
    rintro e w1 ⟨rfl, hb⟩
    have hB1 := hb.alloc hb.size (.cells #[.int .i64 0, .int .i64 0] 53)
    go_wp2_with fail
    go_returns
    exact ⟨_, by rw [HN.out]; rfl, (fun _ => rfl), (fun c => by rw [HN.out] at c; cases c), hB1⟩
  | true =>
    unfold ShareO at CV
    rw [shV_yes hv] at CV
    have HV := Lib.hid hv
    have hVL := (vlR_is hv).2
    have hle := led_le hv
    have hbd := (frB_iff _).1 (share_frA hVL.fr owner)
    have hdp := den_pos (shareL (ledOf hs) owner)
    have hz0 := num_zero (shareL (ledOf hs) owner)
    have hred := fun h1 => inh_red (hs := hs) owner (zs := zs) h1
    have hfr0 := share_frA hVL.fr owner
    have HVL := Lib.hid hVL
    have HEq := Lib.hid (led_eq hv)
    clear hv hVL
    obtain ⟨n, hn'⟩ : ∃ n, n = (shareL (ledOf hs) owner).num := ⟨_, rfl⟩
    obtain ⟨d, hd'⟩ : ∃ d, d = ((shareL (ledOf hs) owner).den : Int) := ⟨_, rfl⟩
    rw [← hn', ← hd'] at CV hbd
    rw [← hd'] at hdp
    rw [← hn'] at hz0
    rw [← hn', ← hd'] at hred
    obtain ⟨hb0, hb1, hb2⟩ := hbd
    have HZ0 := Lib.hid hz0
    have HRED := Lib.hid hred
    clear hz0 hred hn' hd'
    by_cases hnz : n = 0
    · have HN : Hid (inhB hs owner zs = false) := inh_no (.inr (.inl (HZ0.out.1 hnz)))
      have e0 : (n == 0) = true := by simpa using hnz
      clear hnz
      go_enter Try.func117, Try.ntmps117
      go_wp2_with fail
      refine CV.mono ?_
      rintro e w1 ⟨rfl, hb⟩
      have hB1 := hb.alloc hb.size (.cells #[.int .i64 n, .int .i64 d] 53)
      go_wp2_with fail
      go_returns
      exact ⟨_, by rw [HN.out]; rfl, (fun _ => rfl), (fun c => by rw [HN.out] at c; cases c), hB1⟩
    · have e0 : (n == 0) = false := by simpa using hnz
      have HNZ : Hid (shareL (ledOf hs) owner ≠ 0) := fun c => hnz (HZ0.out.2 c)
      clear hnz
      cases hhe : heirsB zs owner with
      | false =>
        have HN : Hid (inhB hs owner zs = false) := inh_no (.inr (.inr (.inl hhe)))
        have HHe := Lib.hid hhe
        clear hhe
        go_enter Try.func117, Try.ntmps117
        go_wp2_with fail
        refine CV.mono ?_
        rintro e w1 ⟨rfl, hb⟩
        have hB1 := hb.alloc hb.size (.cells #[.int .i64 n, .int .i64 d] 53)
        go_wp2_with fail
        have AH := iheirs A capz zs owner _ (ints_below HZ.out hB1) hzn hzc
        rw [HHe.out] at AH
        refine AH.mono ?_
        rintro e w' ⟨rfl, rfl⟩
        go_wp2_with fail
        go_returns
        exact ⟨_, by rw [HN.out]; rfl, (fun _ => rfl), (fun c => by rw [HN.out] at c; cases c), hB1⟩
      | true =>
        have hzl : 1 ≤ zs.length ∧ zs.length ≤ 12 := by
          unfold heirsB at hhe
          simp only [Bool.and_eq_true, decide_eq_true_eq] at hhe
          exact hhe.1
        obtain ⟨z1, z2⟩ := hzl
        obtain ⟨r1, r2, r3⟩ := HRED.out z1
        have HHe := Lib.hid hhe
        have hdm : 1 ≤ d * (zs.length : Int) ∧ d * (zs.length : Int) ≤ 120000 := ⟨Int.mul_pos (by omega) (by omega), Int.le_trans (Int.mul_le_mul hb2 (by omega : (zs.length : Int) ≤ 12) (by omega) (by omega)) (by decide)⟩
        obtain ⟨dm0, dm1⟩ := hdm
        have IR := fun W => ired n (d * (zs.length : Int)) W dm0 (by omega)
        rw [r1, r2, r3] at IR
        have HIR := Lib.hid IR
        obtain ⟨p, hp⟩ : ∃ p, inhQ hs owner zs = p := ⟨_, rfl⟩
        rw [hp] at HIR
        have HPQ := Lib.hid hp
        clear hhe hp r1 r2 r3 IR
        obtain ⟨b, hb⟩ : ∃ b, frB p = b := ⟨_, rfl⟩
        rw [hb] at HIR
        have HBb := Lib.hid hb
        clear hb
        cases b with
        | false =>
          have HN : Hid (inhB hs owner zs = false) := inh_no (.inr (.inr (.inr (.inl (by rw [HPQ.out]; exact HBb.out)))))
          go_enter Try.func117, Try.ntmps117
          go_wp2_with fail
          refine CV.mono ?_
          rintro e w1 ⟨rfl, hb⟩
          have hB1 := hb.alloc hb.size (.cells #[.int .i64 n, .int .i64 d] 53)
          go_wp2_with fail
          have AH := iheirs A capz zs owner _ (ints_below HZ.out hB1) hzn hzc
          rw [HHe.out] at AH
          refine AH.mono ?_
          rintro e w' ⟨rfl, rfl⟩
          clear AH
          go_wp2_with fail
          refine (HIR.out _).mono ?_
          rintro e w2 ⟨rfl, hb⟩
          have hB2 := bel_tr hB1 hb
          clear hb CV
          have hB3 := hB2.alloc hB2.size (.cells #[.int .i64 (Wsh.qn false p.num), .int .i64 (Wsh.qn false (p.den : Int))] 53)
          go_wp2_with fail
          go_returns
          exact ⟨_, by rw [HN.out]; rfl, (fun _ => rfl), (fun c => by rw [HN.out] at c; cases c), hB3⟩
        | true =>
          have HIR2 : ∀ W : World, Calls Try.prog 128 #[.int .i64 n, .int .i64 (d * (zs.length : Int))] W fun e w' => e = .returned (.tuple #[.agg #[.int .i64 p.num, .int .i64 (p.den : Int)], .bool true]) ∧ Below W.heap.size W w' := HIR.out
          go_enter Try.func117, Try.ntmps117
          go_wp2_with fail
          refine CV.mono ?_
          rintro e w1 ⟨rfl, hb⟩
          have hB1 := hb.alloc hb.size (.cells #[.int .i64 n, .int .i64 d] 53)
          go_wp2_with fail
          have AH := iheirs A capz zs owner _ (ints_below HZ.out hB1) hzn hzc
          rw [HHe.out] at AH
          refine AH.mono ?_
          rintro e w' ⟨rfl, rfl⟩
          clear AH
          go_wp2_with fail
          refine (HIR2 _).mono ?_
          rintro e w2 ⟨rfl, hb⟩
          have hB2 := bel_tr hB1 hb
          clear hb CV
          have hB3 := hB2.alloc hB2.size (.cells #[.int .i64 p.num, .int .i64 (p.den : Int)] 53)
          have t3 := blk_two (Blk.new w2 53 #[.int .i64 p.num, .int .i64 (p.den : Int)])
          obtain ⟨w3, hw3⟩ : ∃ w3, w3 = w2.alloc (.cells #[.int .i64 p.num, .int .i64 (p.den : Int)] 53) := ⟨_, rfl⟩
          obtain ⟨G, hG⟩ : ∃ G, G = w2.heap.size := ⟨_, rfl⟩
          rw [← hw3, ← hG] at t3
          rw [← hw3] at hB3
          go_wp2_with fail
          rw [← hw3, ← hG]
          clear hw3 hG
          have HN0 : ∀ c, inhB hs owner zs = c → True := fun _ _ => trivial
          have hpf := HBb.out
          have hpn := Rat.num_nonneg.2 (frB_nonneg hpf)
          have hlen0 : (rawL (setL (ledOf hs) owner 0)).length ≤ 100 := by
            rw [raw_len]; have := set_len (L := ledOf hs) owner 0; rw [led_len] at this; omega
          have HA0 : Hid (Asc (setL (ledOf hs) owner 0)) := asc_set HVL.out.asc _ _
          have HF0 : Hid (∀ x ∈ setL (ledOf hs) owner 0, frB x.2 = true) := fr_set HVL.out.fr _ frB_zero
          have hlin : (rawL (inhL hs owner zs)).length ≤ 1048576 := by
            rw [raw_len]
            unfold inhL
            rw [← gv_end]
            have a := gv_len (p := inhQ hs owner zs) (L := setL (ledOf hs) owner 0) (zs := zs) zs.length (Nat.le_refl _)
            rw [raw_len] at hlen0
            omega
          have hBd := hB3.drew
          go_upto_region 7 with fail
          go_cut [11, 10] (fun sx sy wx => ∃ v : Value, sx = v ∧ sy = .bool (gvAll p (setL (ledOf hs) owner 0) zs) ∧ (gvAll p (setL (ledOf hs) owner 0) zs = true → OwnH wx w.heap.size v (rawL (giveL p (setL (ledOf hs) owner 0) zs))) ∧ Below w.heap.size w wx)
          case first =>
            go_region_held3 (fun w' => w'.cell? ⟨G, 0, none⟩ = some (.int .i64 p.num) ∧ w'.cell? ⟨G, 1, none⟩ = some (.int .i64 (p.den : Int)) ∧ Below w.heap.size w w') (first | (exact keepQ hb (by assumption)) | (exact ⟨t3.1, t3.2.1, hBd⟩) | (refine ⟨?_, ?_, ?_⟩ <;> first | (go_keep; done) | exact hBd))
              (first | (go_at_call 91; refine (inoShare _).mono ?_; rintro e wq ⟨rfl, hb⟩) | (go_at_call 140; refine (iwithA a cap (ledOf hs) hs owner _ _ 0 _ (hs_below HI.out (And.right (And.right (by assumption)))) HEq.out (by omega) HVL.out.asc share_no (by omega) hc).mono ?_; rintro e wq ⟨v1, rfl, hO, hb⟩; have hszq := (keepQ hb (by assumption)).2.2.size; obtain ⟨b1, cp1, rfl, hI1, hc1⟩ := own_hs2 hO) | (go_at_call 139; refine (igainEach b1 cp1 (setL (ledOf hs) owner 0) _ A capz zs _ _ p _ hI1 rfl hlen0 (ints_below HZ.out (And.right (And.right (by assumption)))) z2 HA0.out HF0.out hpf rfl rfl).mono ?_; rintro e wq2 ⟨v2, rfl, m1, m2, hb⟩))
            have hS := ‹_ ∧ _›
            go_wp2_with fail
            go_meet
            exact ⟨v2, rfl, rfl, (fun c => own_le (m2 c) hszq), hS.2.2⟩
          case rest =>
            obtain ⟨v, rfl, rfl, m2, hB⟩ := hcut
            have HM := Lib.hid m2
            have HG2 : Hid (giveL p (setL (ledOf hs) owner 0) zs = inhL hs owner zs) := by show _ = _; unfold inhL; rw [HPQ.out]
            have HG3 : Hid (gvAll p (setL (ledOf hs) owner 0) zs = gvAll (inhQ hs owner zs) (setL (ledOf hs) owner 0) zs) := by show _ = _; rw [HPQ.out]
            clear m2
            cases hga : gvAll p (setL (ledOf hs) owner 0) zs with
            | false =>
              have HN : Hid (inhB hs owner zs = false) := inh_no (.inr (.inr (.inr (.inr (.inl (by rw [← HG3.out]; exact hga))))))
              clear hga
              go_wp2_with fail
              go_returns
              exact ⟨_, by rw [HN.out]; rfl, (fun _ => rfl), (fun c => by rw [HN.out] at c; cases c), hB⟩
            | true =>
              have hO := HM.out hga
              rw [HG2.out] at hO
              have HGA : Hid (gvAll (inhQ hs owner zs) (setL (ledOf hs) owner 0) zs = true) := by show _ = _; rw [← HG3.out]; exact hga
              obtain ⟨b2, cp2, hv2, hI2, hc2⟩ := own_hs2 hO
              subst hv2
              have hv := iVL b2 cp2 _ wc hI2 hlin
              rw [vlR_vl] at hv
              have HO3 := Lib.hid hO
              clear hO hga HM
              cases hvl : vlB (inhL hs owner zs) with
              | false =>
                rw [hvl] at hv
                have HN : Hid (inhB hs owner zs = false) := inh_no (.inr (.inr (.inr (.inr (.inr hvl)))))
                clear hvl
                go_wp2_with fail
                refine hv.mono ?_
                rintro e w4 ⟨rfl, hb4⟩
                go_wp2_with fail
                go_returns
                exact ⟨_, by rw [HN.out]; rfl, (fun _ => rfl), (fun c => by rw [HN.out] at c; cases c), bel_tr hB hb4⟩
              | true =>
                rw [hvl] at hv
                have HN : Hid (inhB hs owner zs = true) := inh_yes HV.out HNZ.out HHe.out (by rw [HPQ.out]; exact hpf) HGA.out hvl
                clear hvl
                go_wp2_with fail
                refine hv.mono ?_
                rintro e w4 ⟨rfl, hb4⟩
                go_wp2_with fail
                go_returns
                exact ⟨_, by rw [HN.out]; rfl, (fun c => by rw [HN.out] at c; cases c), (fun _ => own_next HO3.out hb4), bel_tr hB hb4⟩
end Go.Proofs.Ytgmmdpdlekpmfaa
namespace Go.Proofs.Ytgmmdpdlekpmfaa
open Go.RowKit
set_option linter.unusedSimpArgs false

theorem keepT4 {W wq v : World} {x y u : Value} {k : Nat} {q : Addr} (hb : Below W.heap.size W wq) (h : W.cell? ⟨k, 0, none⟩ = some x ∧ W.cell? ⟨k, 1, none⟩ = some y ∧ W.cell? q = some u ∧ Below v.heap.size v W) : wq.cell? ⟨k, 0, none⟩ = some x ∧ wq.cell? ⟨k, 1, none⟩ = some y ∧ wq.cell? q = some u ∧ Below v.heap.size v wq :=
  ⟨cell_next hb h.1, cell_next hb h.2.1, cell_next hb h.2.2.1, bel_tr h.2.2.2 hb⟩
theorem T4B {W v : World} {x y u : Value} {k : Nat} {q : Addr} (h : W.cell? ⟨k, 0, none⟩ = some x ∧ W.cell? ⟨k, 1, none⟩ = some y ∧ W.cell? q = some u ∧ Below v.heap.size v W) : Below v.heap.size v W := h.2.2.2
theorem keepT4set {W v : World} {x y u s t : Value} {b k : Nat} {q : Addr} (h : W.cell? ⟨k, 0, none⟩ = some x ∧ W.cell? ⟨k, 1, none⟩ = some y ∧ W.cell? q = some u ∧ Below v.heap.size v W) (hlt : k < b) (hv : v.heap.size ≤ b) (hq : q.block < b) : ((W.setCell ⟨b, 0, none⟩ s).setCell ⟨b, 1, none⟩ t).cell? ⟨k, 0, none⟩ = some x ∧ ((W.setCell ⟨b, 0, none⟩ s).setCell ⟨b, 1, none⟩ t).cell? ⟨k, 1, none⟩ = some y ∧ ((W.setCell ⟨b, 0, none⟩ s).setCell ⟨b, 1, none⟩ t).cell? q = some u ∧ Below v.heap.size v ((W.setCell ⟨b, 0, none⟩ s).setCell ⟨b, 1, none⟩ t) := by
  have hf : ∀ (V : World) (i : Nat) (z : Value) (r : Addr), r.block < b → (V.setCell ⟨b, i, none⟩ z).cell? r = V.cell? r := fun V i z r hr => World.cell?_setCell_other V _ _ z (fun e => by subst e; exact Nat.lt_irrefl _ hr)
  exact ⟨by rw [hf _ _ _ _ hlt, hf _ _ _ _ hlt]; exact h.1, by rw [hf _ _ _ _ hlt, hf _ _ _ _ hlt]; exact h.2.1, by rw [hf _ _ _ _ hq, hf _ _ _ _ hq]; exact h.2.2.1, (h.2.2.2.setCell hv _).setCell hv _⟩
theorem keepT4R {W v : World} {x y u : Value} {o o' : Obj} {k : Nat} {q : Addr} (h : (W.alloc o).cell? ⟨k, 0, none⟩ = some x ∧ (W.alloc o).cell? ⟨k, 1, none⟩ = some y ∧ (W.alloc o).cell? q = some u ∧ Below v.heap.size v (W.alloc o)) (hB : Below v.heap.size v W) (hk : k < v.heap.size) (hq : q.block < v.heap.size) (hlt : v.heap.size ≤ W.heap.size) : (W.alloc o').cell? ⟨k, 0, none⟩ = some x ∧ (W.alloc o').cell? ⟨k, 1, none⟩ = some y ∧ (W.alloc o').cell? q = some u ∧ Below v.heap.size v (W.alloc o') := by
  have e : ∀ (r : Addr) (o : Obj), r.block < v.heap.size → (W.alloc o).cell? r = W.cell? r := fun r o hr => World.cell?_alloc_lt W o r (by omega)
  rw [e _ _ hk, e _ _ hk, e _ _ hq] at h
  exact ⟨by rw [e _ _ hk]; exact h.1, by rw [e _ _ hk]; exact h.2.1, by rw [e _ _ hq]; exact h.2.2.1, hB.alloc hlt _⟩
theorem keepT4R0 {v : World} {x y u : Value} {o o' : Obj} {k : Nat} {q : Addr} (hk : k < v.heap.size) (hq : q.block < v.heap.size) (h : (v.alloc o).cell? ⟨k, 0, none⟩ = some x ∧ (v.alloc o).cell? ⟨k, 1, none⟩ = some y ∧ (v.alloc o).cell? q = some u ∧ Below v.heap.size v (v.alloc o)) : (v.alloc o').cell? ⟨k, 0, none⟩ = some x ∧ (v.alloc o').cell? ⟨k, 1, none⟩ = some y ∧ (v.alloc o').cell? q = some u ∧ Below v.heap.size v (v.alloc o') := keepT4R h (Below.refl _ _) hk hq (Nat.le_refl _)

/-- the rounds of the model's loop -/
def InhRel (p : Rat) (L0 : Led) (zs : List Int) (owner : Int) (k : Nat) (c : Bool) (X : Led) : Prop := (c = true → X = gvTo p L0 zs k ∧ (∀ j, j < k → okH zs owner j = true) ∧ (∀ j, j < k → gvOk p L0 zs j = true) ∧ frB p = true) ∧ (c = false → frB p = false ∨ gvAll p L0 zs = false)

theorem ok_no1 {z : Int} {c d : Bool} (h : z < 1 ∨ 999 < z) : (decide (1 ≤ z) && decide (z ≤ 999) && c && d) = false := by
  rcases h with h | h
  · rw [decide_eq_false (by omega : ¬ 1 ≤ z)]; rfl
  · rw [decide_eq_false (by omega : ¬ z ≤ 999)]; simp
theorem inh_next {p : Rat} {L0 : Led} {zs : List Int} {owner : Int} {k : Nat} {c2 : Bool} (hk : k < zs.length) (h2 : ∀ j, j < k → okH zs owner j = true) (h3 : ∀ j, j < k → gvOk p L0 zs j = true) (h4 : frB p = true) (ho : okH zs owner k = true) (hc : gvOk p L0 zs k = c2) : InhRel p L0 zs owner (k + 1) c2 (setL (gvTo p L0 zs k) (zs.getD k 0) (if c2 then shareL (gvTo p L0 zs k) (zs.getD k 0) + p else 0)) := by
  refine ⟨fun e => ?_, fun e => .inr (rng_no hk (hc.trans e))⟩
  subst e
  exact ⟨by rw [gv_succ p L0 hk]; rfl, rng_more h2 ho, rng_more h3 hc, h4⟩

set_option maxRecDepth 100000 in
set_option maxHeartbeats 16000000 in
theorem sinherit (a : Option Addr) (cap : Nat) (hs : List Hd) (owner : Int) (A : Option Addr) (capz : Nat) (zs : List Int) (w : World) (h : IsHs w a hs) (hv : vlR hs = true) (hz : IsInts w A zs) (hzn : zs.length ≤ 1048576) (hzc : zs.length ≤ capz) :
    Calls Try.prog 112 #[.slice a hs.length cap, .int .i64 owner, .slice A zs.length capz] w (MoveV w (inhB hs owner zs) (inhL hs owner zs)) := by
  have hn := led_le hv
  have hVL := (vlR_is hv).2
  have hbd := (frB_iff _).1 (share_frA hVL.fr owner)
  have hdp := den_pos (shareL (ledOf hs) owner)
  have hz0 := num_zero (shareL (ledOf hs) owner)
  have hred := fun h1 => inh_red (hs := hs) owner (zs := zs) h1
  have HI := Lib.hid h
  have HZ := Lib.hid hz
  have HV := Lib.hid hv
  have HVL := Lib.hid hVL
  have HEq := Lib.hid (led_eq hv)
  have CV : ∀ W, IsHs W a hs → Calls Try.prog 113 #[.slice a hs.length cap, .int .i64 owner] W fun e w' => e = .returned (.agg #[.int .i64 (shareL (ledOf hs) owner).num, .int .i64 ((shareL (ledOf hs) owner).den : Int)]) ∧ Below W.heap.size W w' := fun W hW => sshareL a cap (ledOf hs) hs owner W hW (led_eq hv) (by omega)
  clear h hz hv hVL
  obtain ⟨n, hn'⟩ : ∃ n, n = (shareL (ledOf hs) owner).num := ⟨_, rfl⟩
  obtain ⟨d, hd'⟩ : ∃ d, d = ((shareL (ledOf hs) owner).den : Int) := ⟨_, rfl⟩
  rw [← hn', ← hd'] at CV hbd
  rw [← hd'] at hdp
  rw [← hn'] at hz0
  rw [← hn', ← hd'] at hred
  obtain ⟨hb0, hb1, hb2⟩ := hbd
  have HZ0 := Lib.hid hz0
  have HRED := Lib.hid hred
  have HCV := Lib.hid CV
  clear hz0 hred hn' hd' CV
  have hBx : ∀ w1, Below w.heap.size w w1 → Below w.heap.size w (w1.alloc (.cells #[.int .i64 n, .int .i64 d] 53)) := fun w1 hb => hb.alloc hb.size _
  have HBX := Lib.hid hBx
  clear hBx
  by_cases hnz : n = 0
  · have HN : Hid (inhB hs owner zs = false) := inh_no (.inr (.inl (HZ0.out.1 hnz)))
    have e0 : (n == 0) = true := by simpa using hnz
    clear hnz
    go_enter Try.func112, Try.ntmps112
    go_wp2_with fail
    refine (HCV.out _ HI.out).mono ?_
    rintro e w1 ⟨rfl, hb⟩
    go_wp2_with fail
    go_returns
    exact ⟨_, by rw [HN.out]; rfl, (fun _ => rfl), (fun c => by rw [HN.out] at c; cases c), HBX.out _ hb⟩
  · have e0 : (n == 0) = false := by simpa using hnz
    have HNZ : Hid (shareL (ledOf hs) owner ≠ 0) := fun c => hnz (HZ0.out.2 c)
    clear hnz
    by_cases hl0 : zs.length < 1 ∨ 12 < zs.length
    · have HN : Hid (inhB hs owner zs = false) := inh_no (.inr (.inr (.inl (heirs_no1 hl0))))
      by_cases hl1 : zs.length < 1
      · have e1 : ((zs.length : Int) == 0) = true := by rw [beq_iff_eq]; omega
        have e1' : zs.length = 0 := by omega
        clear hl0 hl1
        go_enter Try.func112, Try.ntmps112
        go_wp2_with fail
        refine (HCV.out _ HI.out).mono ?_
        rintro e w1 ⟨rfl, hb⟩
        go_wp2_with fail
        go_returns
        exact ⟨_, by rw [HN.out]; rfl, (fun _ => rfl), (fun c => by rw [HN.out] at c; cases c), HBX.out _ hb⟩
      · have e1 : ((zs.length : Int) == 0) = false := by rw [beq_eq_false_iff_ne]; omega
        have e2 : 12 < zs.length := by omega
        clear hl0
        go_enter Try.func112, Try.ntmps112
        go_wp2_with fail
        refine (HCV.out _ HI.out).mono ?_
        rintro e w1 ⟨rfl, hb⟩
        go_wp2_with fail
        go_returns
        exact ⟨_, by rw [HN.out]; rfl, (fun _ => rfl), (fun c => by rw [HN.out] at c; cases c), HBX.out _ hb⟩
    · have z1 : 1 ≤ zs.length := by omega
      have z2 : zs.length ≤ 12 := by omega
      have e1 : ((zs.length : Int) == 0) = false := by rw [beq_eq_false_iff_ne]; omega
      have e2 : decide (12 < (zs.length : Int)) = false := by simp; omega
      clear hl0
      by_cases hm0 : owner ∈ zs
      · have HN : Hid (inhB hs owner zs = false) := by
          obtain ⟨j, hj, hje⟩ := mem_get.1 hm0
          exact inh_no (.inr (.inr (.inl (heirs_no2 hj (by rw [okH_def, hje]; simp)))))
        have HM0 := Lib.hid hm0
        clear hm0
        go_enter Try.func112, Try.ntmps112
        go_wp2_with fail
        refine (HCV.out _ HI.out).mono ?_
        rintro e w1 ⟨rfl, hb⟩
        have hB1 := HBX.out _ hb
        go_wp2_with fail
        refine (splace A capz zs.length zs owner _ (ints_below HZ.out hB1) rfl (by omega)).mono ?_
        rintro e w' ⟨v, rfl, p1, p2, rfl⟩
        have pv := p1 HM0.out
        have pvd : decide (0 ≤ v) = true := by simpa using pv
        clear p1 p2
        go_wp2_with fail
        go_returns
        exact ⟨_, by rw [HN.out]; rfl, (fun _ => rfl), (fun c => by rw [HN.out] at c; cases c), hB1⟩
      · have HM0 : Hid (owner ∉ zs) := hm0
        clear hm0
        obtain ⟨r1, r2, r3⟩ := HRED.out z1
        have hdm : 1 ≤ d * (zs.length : Int) ∧ d * (zs.length : Int) ≤ 120000 := ⟨Int.mul_pos (by omega) (by omega), Int.le_trans (Int.mul_le_mul hb2 (by omega : (zs.length : Int) ≤ 12) (by omega) (by omega)) (by decide)⟩
        obtain ⟨dm0, dm1⟩ := hdm
        have IR := fun W => sred n (d * (zs.length : Int)) W hb0 (by omega) dm0 (by omega)
        rw [r1, r2, r3] at IR
        have HIR := Lib.hid IR
        obtain ⟨p, hp⟩ : ∃ p, inhQ hs owner zs = p := ⟨_, rfl⟩
        rw [hp] at HIR
        have HPQ := Lib.hid hp
        clear hp r1 r2 r3 IR
        obtain ⟨b, hb⟩ : ∃ b, frB p = b := ⟨_, rfl⟩
        rw [hb] at HIR
        have HBb := Lib.hid hb
        clear hb
        have hlen0 : (rawL (setL (ledOf hs) owner 0)).length ≤ 100 := by
          rw [raw_len]; have := set_len (L := ledOf hs) owner 0; rw [led_len] at this; omega
        have HF0 : Hid (∀ x ∈ setL (ledOf hs) owner 0, frB x.2 = true) := fr_set HVL.out.fr _ frB_zero
        go_enter Try.func112, Try.ntmps112
        go_wp2_with fail
        refine (HCV.out _ HI.out).mono ?_
        rintro e w1 ⟨rfl, hb⟩
        have hB1 := HBX.out _ hb
        clear hb
        go_wp2_with fail
        refine (splace A capz zs.length zs owner _ (ints_below HZ.out hB1) rfl (by omega)).mono ?_
        rintro e w' ⟨v, rfl, p1, p2, rfl⟩
        obtain rfl := p2 HM0.out
        clear p1 p2
        go_wp2_with fail
        refine (HIR.out _).mono ?_
        rintro e w2 ⟨rfl, hb⟩
        have hB2 := bel_tr hB1 hb
        clear hb
        have hB3 := hB2.alloc hB2.size (.cells #[.int .i64 (Wsh.qn b p.num), .int .i64 (Wsh.qn b (p.den : Int))] 53)
        have hK3 := Blk.new w2 53 #[.int .i64 (Wsh.qn b p.num), .int .i64 (Wsh.qn b (p.den : Int))]
        have hGw : w.heap.size ≤ w2.heap.size := hB2.size
        go_wp2_with fail
        refine (sset a cap (ledOf hs) hs owner _ _ 0 _ (hs_below HI.out hB3) HEq.out (by omega) share_no).mono ?_
        rintro e w3 ⟨v0, rfl, hO0, hb⟩
        have hB4 := bel_tr hB3 hb
        have hK4 := hK3.next hb
        have hO4 : OwnH w3 w.heap.size v0 (rawL (setL (ledOf hs) owner 0)) := own_le hO0 hB3.size
        obtain ⟨G, hG⟩ : ∃ G, G = w2.heap.size := ⟨_, rfl⟩
        rw [← hG] at hK4 ⊢
        obtain ⟨L0, hL0⟩ : ∃ L0, L0 = setL (ledOf hs) owner 0 := ⟨_, rfl⟩
        rw [← hL0] at hO4 hlen0 HF0
        have HL0 := Lib.hid hL0
        have hrel0 : InhRel p L0 zs owner 0 b L0 := ⟨fun c => ⟨rfl, (fun j hj => by omega), (fun j hj => by omega), HBb.out.trans c⟩, fun c => .inl (HBb.out.trans c)⟩
        clear hK3 hO0 hb hB3 hB1 hB2 hG hL0 hGw
        go_wp2_with fail
        go_loopw [10, 11, 12] (fun okv outv i wr => ∃ (k : Nat) (c : Bool), k ≤ zs.length ∧ i = .int .i64 k ∧ okv = .bool c ∧ ∃ X : Led, OwnH wr w.heap.size outv (rawL X) ∧ Hid (InhRel p L0 zs owner k c X) ∧ Blk wr G 53 #[.int .i64 (Wsh.qn b p.num), .int .i64 (Wsh.qn b (p.den : Int))] ∧ Below w.heap.size w wr) (fun _ _ i _ => zs.length - (intOf i).toNat)
        case atStart => exact ⟨0, b, Nat.zero_le _, rfl, rfl, L0, hO4, hrel0, hK4, hB4⟩
        case round =>
          clear hrel0 hO4 hK4 hB4
          obtain ⟨k, c, hk, rfl, rfl, X, hO, HR, hS, hB⟩ := hrel
          cases c with
          | false =>
            have HN : Hid (inhB hs owner zs = false) := by
              rcases HR.out.2 rfl with e | e
              · exact inh_no (.inr (.inr (.inr (.inl (by rw [HPQ.out]; exact e)))))
              · exact inh_no (.inr (.inr (.inr (.inr (.inl (by rw [HPQ.out, ← HL0.out]; exact e))))))
            have HB := Lib.hid hB
            clear HR hS hO hB
            go_wp2_with fail
            all_goals
              go_returns
              exact ⟨_, by rw [HN.out]; rfl, (fun _ => rfl), (fun c => by rw [HN.out] at c; cases c), HB.out⟩
          | true =>
            obtain ⟨hX, hok, hgv, hfp⟩ := HR.out.1 rfl
            subst hX
            obtain rfl : b = true := HBb.out.symm.trans hfp
            obtain ⟨b1, cp1, hv1, hI1, hc1⟩ := own_hs2 hO
            subst hv1
            have hS : Blk wr G 53 #[.int .i64 p.num, .int .i64 (p.den : Int)] := hS
            clear HR HIR HRED HCV HBX
            by_cases hlt : k < zs.length
            · have hczx : ∃ g o, A = some ⟨g, o, none⟩ ∧ g < wr.heap.size ∧ wr.cell? ⟨g, o + k, none⟩ = some (.int .i64 (zs.getD k 0)) := by
                rcases HZ.out with he | ⟨g, o, hA, hc⟩
                · rw [he] at hlt; simp at hlt
                · have hlt0 : g < w.heap.size := World.block_lt_of_cell? w _ (hc k hlt)
                  exact ⟨g, o, hA, Nat.lt_of_lt_of_le hlt0 hB.size, (hB.cell (p := ⟨g, o + k, none⟩) hlt0).trans (hc k hlt)⟩
              obtain ⟨gz, oz, rfl, hbz, hcz⟩ := hczx
              have HT : Hid (IsInts wr.drew (some ⟨gz, oz, none⟩) (zs.take k)) := by
                show IsInts _ _ _
                have := ints_below HZ.out (hB.drew)
                rcases this with he | ⟨g, o, hA, hc⟩
                · rw [he] at hlt; simp at hlt
                · exact .inr ⟨g, o, hA, fun j hj => by
                    rw [List.length_take] at hj
                    rw [List.getD_eq_getElem?_getD, List.getElem?_take, if_pos (by omega), ← List.getD_eq_getElem?_getD]
                    exact hc j (by omega)⟩
              have hl1 : (rawL (gvTo p L0 zs k)).length ≤ 1000 := by
                rw [raw_len] at hlen0 ⊢; have := gv_len (p := p) (L := L0) (zs := zs) k hk; omega
              have hfrk := gv_fr HF0.out k hk hgv
              obtain ⟨s4, s5, _, s1⟩ := sub_led2 hfrk (zs.getD k 0) hfp
              obtain ⟨_, s2, s3⟩ := add_led hfrk (zs.getD k 0) hfp
              have hgo : frB (shareL (gvTo p L0 zs k) (zs.getD k 0) + p) = gvOk p L0 zs k := rfl
              rw [hgo] at s1
              have HNx : ∀ c2, gvOk p L0 zs k = c2 → okH zs owner k = true → InhRel p L0 zs owner (k + 1) c2 (setL (gvTo p L0 zs k) (zs.getD k 0) (if c2 then shareL (gvTo p L0 zs k) (zs.getD k 0) + p else 0)) := fun c2 hc ho => inh_next hlt hok hgv hfp ho hc
              obtain ⟨c2, hc2⟩ : ∃ c2, gvOk p L0 zs k = c2 := ⟨_, rfl⟩
              have HNx2 := HNx c2 hc2
              rw [hc2] at s1
              have hnm : zs.getD k 0 ≠ owner := fun e => HM0.out (mem_get.2 ⟨k, hlt, e⟩)
              have hokd := okH_def zs owner k
              have hnoh : okH zs owner k = false → inhB hs owner zs = false := fun e => inh_no (.inr (.inr (.inl (heirs_no2 hlt e))))
              generalize zs.getD k 0 = z at *
              have C4 := Lib.hid s4
              have A5 := Lib.hid s5
              have C1 := Lib.hid s1
              have C2 := Lib.hid s2
              have C3 := Lib.hid s3
              have HI1 := Lib.hid hI1
              have HB := Lib.hid hB
              have HOK := Lib.hid hokd
              have HNH := Lib.hid hnoh
              have HNM := Lib.hid hnm
              have HNX := Lib.hid HNx2
              have HS := Lib.hid hS
              obtain ⟨t0, t1, t2, t3, t4⟩ := blk_two hS
              clear s1 s2 s3 s4 s5 hI1 hokd hnoh hnm HNx HNx2 hgo hc2 hfrk hok hgv hO hS hc1
              have hBd := hB.drew
              have hki : (k : Int) < (zs.length : Int) := by omega
              have hkc : k ≤ capz := by omega
              by_cases hr : z < 1 ∨ 999 < z
              · have HN : Hid (inhB hs owner zs = false) := HNH.out (by rw [HOK.out]; exact ok_no1 hr)
                clear hB
                go_wp2_with fail
                refine wp_region_held_drew (S := fun w' => w'.cell? ⟨gz, oz + k, none⟩ = some (.int .i64 z) ∧ Below w.heap.size w w') (by kernel_rfl) ?_ (fun hHeld => ?_)
                · exact ⟨hcz, hBd⟩
                refine wpAnyH_take (i := 0) (oi := ?ooa0) (v := ?vva0) ?hia0 (by kernel_rfl) ?h3a0 ?h4a0 ?h5a0 ?h6a0 (by assumption) ?h8a0
                case hia0 => (simp only [List.getElem?_toArray, List.getElem?_cons_succ, List.getElem?_cons_zero]; rfl)
                case h3a0 => kernel_rfl
                case h4a0 => kernel_rfl
                case h6a0 => (refine Or.inl ⟨by rfl, ?_⟩; intro w hSw; (try dsimp only at hSw); (go_simp <;> with_reducible rfl))
                case h5a0 => exact fun _ _ _ h => h
                try simp only [Act.put, List.setIfInBounds_toArray, List.set_cons_zero, List.set_cons_succ]
                refine wpAnyH_take (i := 1) (oi := ?ooa1) (v := ?vva1) ?hia1 (by kernel_rfl) ?h3a1 ?h4a1 ?h5a1 ?h6a1 (by assumption) ?h8a1
                case hia1 => (simp only [List.getElem?_toArray, List.getElem?_cons_succ, List.getElem?_cons_zero]; rfl)
                case h3a1 => kernel_rfl
                case h4a1 => kernel_rfl
                case h6a1 => (refine Or.inl ⟨by rfl, ?_⟩; intro w hSw; (try dsimp only at hSw); (go_simp <;> with_reducible rfl))
                case h5a1 => exact fun _ _ _ h => h
                try simp only [Act.put, List.setIfInBounds_toArray, List.set_cons_zero, List.set_cons_succ]
                refine wpAnyH_take (i := 2) (oi := ?ooa2) (v := ?vva2) ?hia2 (by kernel_rfl) ?h3a2 ?h4a2 ?h5a2 ?h6a2 (by assumption) ?h8a2
                case hia2 => (simp only [List.getElem?_toArray, List.getElem?_cons_succ, List.getElem?_cons_zero]; rfl)
                case h3a2 => kernel_rfl
                case h4a2 => kernel_rfl
                case h6a2 => (refine Or.inl ⟨by rfl, ?_⟩; intro w hSw; (try dsimp only at hSw); (go_simp <;> with_reducible rfl))
                case h5a2 => exact fun _ _ _ h => h
                try simp only [Act.put, List.setIfInBounds_toArray, List.set_cons_zero, List.set_cons_succ]
                refine wpAnyH_take (i := 3) (oi := ?ooa3) (v := ?vva3) ?hia3 (by kernel_rfl) ?h3a3 ?h4a3 ?h5a3 ?h6a3 (by assumption) ?h8a3
                case hia3 => (simp only [List.getElem?_toArray, List.getElem?_cons_succ, List.getElem?_cons_zero]; rfl)
                case h3a3 => kernel_rfl
                case h4a3 => kernel_rfl
                case h6a3 => (refine Or.inl ⟨by rfl, ?_⟩; intro w hSw; (try dsimp only at hSw); (go_simp <;> with_reducible rfl))
                case h5a3 => exact fun _ _ _ h => h
                try simp only [Act.put, List.setIfInBounds_toArray, List.set_cons_zero, List.set_cons_succ]
                refine wpAnyH_ready (rs := [4]) (by kernel_rfl) (by simp) (AllReadyH.cons (o := ?ooa4) ?hia4 (fun K hK => ?hka4) AllReadyH.nil)
                rotate_left
                case hia4 => (simp only [List.getElem?_toArray, List.getElem?_cons_succ, List.getElem?_cons_zero]; rfl)
                (rw [if_pos (by rfl)]; go_simp; refine (inRange_no z 1 999 _ hr).mono ?_; rintro e w3 ⟨rfl, rfl⟩; go_wp2_with fail; refine hK.out _ _ (by assumption) (fun hHeld => ?_); clear hK K)
                try simp only [Act.put, List.setIfInBounds_toArray, List.set_cons_zero, List.set_cons_succ]
                refine wpAnyH_take (i := 5) (oi := ?ooa5) (v := ?vva5) ?hia5 (by kernel_rfl) ?h3a5 ?h4a5 ?h5a5 ?h6a5 (by assumption) ?h8a5
                case hia5 => (simp only [List.getElem?_toArray, List.getElem?_cons_succ, List.getElem?_cons_zero]; rfl)
                case h3a5 => kernel_rfl
                case h4a5 => kernel_rfl
                case h6a5 => (refine Or.inl ⟨by rfl, ?_⟩; intro w hSw; (try dsimp only at hSw); (go_simp <;> with_reducible rfl))
                case h5a5 => exact fun _ _ _ h => h
                try simp only [Act.put, List.setIfInBounds_toArray, List.set_cons_zero, List.set_cons_succ]
                refine wpAnyH_take (i := 6) (oi := ?ooa6) (v := ?vva6) ?hia6 (by kernel_rfl) ?h3a6 ?h4a6 ?h5a6 ?h6a6 (by assumption) ?h8a6
                case hia6 => (simp only [List.getElem?_toArray, List.getElem?_cons_succ, List.getElem?_cons_zero]; rfl)
                case h3a6 => kernel_rfl
                case h4a6 => kernel_rfl
                case h6a6 => (refine Or.inl ⟨by rfl, ?_⟩; intro w hSw; (try dsimp only at hSw); (go_simp <;> with_reducible rfl))
                case h5a6 => exact fun _ _ _ h => h
                try simp only [Act.put, List.setIfInBounds_toArray, List.set_cons_zero, List.set_cons_succ]
                refine wpAnyH_take (i := 7) (oi := ?ooa7) (v := undef) ?hia7 (by kernel_rfl) ?h3a7 ?h4a7 ?h5a7 ?h6a7 (by assumption) ?h8a7
                case hia7 => (simp only [List.getElem?_toArray, List.getElem?_cons_succ, List.getElem?_cons_zero]; rfl)
                case h3a7 => kernel_rfl
                case h4a7 => kernel_rfl
                case h6a7 => exact Or.inr ⟨by rfl, rfl⟩
                case h5a7 => exact fun _ _ _ h => h
                try simp only [Act.put, List.setIfInBounds_toArray, List.set_cons_zero, List.set_cons_succ]
                refine wpAnyH_take (i := 8) (oi := ?ooa8) (v := undef) ?hia8 (by kernel_rfl) ?h3a8 ?h4a8 ?h5a8 ?h6a8 (by assumption) ?h8a8
                case hia8 => (simp only [List.getElem?_toArray, List.getElem?_cons_succ, List.getElem?_cons_zero]; rfl)
                case h3a8 => kernel_rfl
                case h4a8 => kernel_rfl
                case h6a8 => exact Or.inr ⟨by rfl, rfl⟩
                case h5a8 => exact fun _ _ _ h => h
                try simp only [Act.put, List.setIfInBounds_toArray, List.set_cons_zero, List.set_cons_succ]
                refine wpAnyH_take (i := 9) (oi := ?ooa9) (v := undef) ?hia9 (by kernel_rfl) ?h3a9 ?h4a9 ?h5a9 ?h6a9 (by assumption) ?h8a9
                case hia9 => (simp only [List.getElem?_toArray, List.getElem?_cons_succ, List.getElem?_cons_zero]; rfl)
                case h3a9 => kernel_rfl
                case h4a9 => kernel_rfl
                case h6a9 => exact Or.inr ⟨by rfl, rfl⟩
                case h5a9 => exact fun _ _ _ h => h
                try simp only [Act.put, List.setIfInBounds_toArray, List.set_cons_zero, List.set_cons_succ]
                refine wpAnyH_take (i := 10) (oi := ?ooa10) (v := undef) ?hia10 (by kernel_rfl) ?h3a10 ?h4a10 ?h5a10 ?h6a10 (by assumption) ?h8a10
                case hia10 => (simp only [List.getElem?_toArray, List.getElem?_cons_succ, List.getElem?_cons_zero]; rfl)
                case h3a10 => kernel_rfl
                case h4a10 => kernel_rfl
                case h6a10 => exact Or.inr ⟨by rfl, rfl⟩
                case h5a10 => exact fun _ _ _ h => h
                try simp only [Act.put, List.setIfInBounds_toArray, List.set_cons_zero, List.set_cons_succ]
                refine wpAnyH_take (i := 11) (oi := ?ooa11) (v := undef) ?hia11 (by kernel_rfl) ?h3a11 ?h4a11 ?h5a11 ?h6a11 (by assumption) ?h8a11
                case hia11 => (simp only [List.getElem?_toArray, List.getElem?_cons_succ, List.getElem?_cons_zero]; rfl)
                case h3a11 => kernel_rfl
                case h4a11 => kernel_rfl
                case h6a11 => exact Or.inr ⟨by rfl, rfl⟩
                case h5a11 => exact fun _ _ _ h => h
                try simp only [Act.put, List.setIfInBounds_toArray, List.set_cons_zero, List.set_cons_succ]
                refine wpAnyH_take (i := 12) (oi := ?ooa12) (v := undef) ?hia12 (by kernel_rfl) ?h3a12 ?h4a12 ?h5a12 ?h6a12 (by assumption) ?h8a12
                case hia12 => (simp only [List.getElem?_toArray, List.getElem?_cons_succ, List.getElem?_cons_zero]; rfl)
                case h3a12 => kernel_rfl
                case h4a12 => kernel_rfl
                case h6a12 => exact Or.inr ⟨by rfl, rfl⟩
                case h5a12 => exact fun _ _ _ h => h
                try simp only [Act.put, List.setIfInBounds_toArray, List.set_cons_zero, List.set_cons_succ]
                refine wpAnyH_take (i := 13) (oi := ?ooa13) (v := undef) ?hia13 (by kernel_rfl) ?h3a13 ?h4a13 ?h5a13 ?h6a13 (by assumption) ?h8a13
                case hia13 => (simp only [List.getElem?_toArray, List.getElem?_cons_succ, List.getElem?_cons_zero]; rfl)
                case h3a13 => kernel_rfl
                case h4a13 => kernel_rfl
                case h6a13 => exact Or.inr ⟨by rfl, rfl⟩
                case h5a13 => exact fun _ _ _ h => h
                try simp only [Act.put, List.setIfInBounds_toArray, List.set_cons_zero, List.set_cons_succ]
                refine wpAnyH_take (i := 14) (oi := ?ooa14) (v := undef) ?hia14 (by kernel_rfl) ?h3a14 ?h4a14 ?h5a14 ?h6a14 (by assumption) ?h8a14
                case hia14 => (simp only [List.getElem?_toArray, List.getElem?_cons_succ, List.getElem?_cons_zero]; rfl)
                case h3a14 => kernel_rfl
                case h4a14 => kernel_rfl
                case h6a14 => exact Or.inr ⟨by rfl, rfl⟩
                case h5a14 => exact fun _ _ _ h => h
                try simp only [Act.put, List.setIfInBounds_toArray, List.set_cons_zero, List.set_cons_succ]
                refine wpAnyH_take (i := 15) (oi := ?ooa15) (v := undef) ?hia15 (by kernel_rfl) ?h3a15 ?h4a15 ?h5a15 ?h6a15 (by assumption) ?h8a15
                case hia15 => (simp only [List.getElem?_toArray, List.getElem?_cons_succ, List.getElem?_cons_zero]; rfl)
                case h3a15 => kernel_rfl
                case h4a15 => kernel_rfl
                case h6a15 => exact Or.inr ⟨by rfl, rfl⟩
                case h5a15 => exact fun _ _ _ h => h
                try simp only [Act.put, List.setIfInBounds_toArray, List.set_cons_zero, List.set_cons_succ]
                refine wpAnyH_take (i := 16) (oi := ?ooa16) (v := ?vva16) ?hia16 (by kernel_rfl) ?h3a16 ?h4a16 ?h5a16 ?h6a16 (by assumption) ?h8a16
                case hia16 => (simp only [List.getElem?_toArray, List.getElem?_cons_succ, List.getElem?_cons_zero]; rfl)
                case h3a16 => kernel_rfl
                case h4a16 => kernel_rfl
                case h6a16 => (refine Or.inl ⟨by rfl, ?_⟩; intro w hSw; (try dsimp only at hSw); (go_simp <;> with_reducible rfl))
                case h5a16 => exact fun _ _ _ h => h
                try simp only [Act.put, List.setIfInBounds_toArray, List.set_cons_zero, List.set_cons_succ]
                refine wpAnyH_done (by kernel_rfl) ?_ _

                go_wp2_with fail
                go_returns
                exact ⟨_, by rw [HN.out]; rfl, (fun _ => rfl), (fun c => by rw [HN.out] at c; cases c), hBd⟩
              · have r1 : 1 ≤ z := by omega
                have r2 : z ≤ 999 := by omega
                clear hr
                by_cases hm : z ∈ zs.take k
                · have HN : Hid (inhB hs owner zs = false) := HNH.out (by rw [HOK.out, decide_eq_false (not_not_intro hm)]; simp)
                  clear hB
                  go_wp2_with fail
                  refine wp_region_held_drew (S := fun w' => w'.cell? ⟨gz, oz + k, none⟩ = some (.int .i64 z) ∧ Below w.heap.size w w') (by kernel_rfl) ?_ (fun hHeld => ?_)
                  · exact ⟨hcz, hBd⟩
                  refine wpAnyH_take (i := 0) (oi := ?oob0) (v := ?vvb0) ?hib0 (by kernel_rfl) ?h3b0 ?h4b0 ?h5b0 ?h6b0 (by assumption) ?h8b0
                  case hib0 => (simp only [List.getElem?_toArray, List.getElem?_cons_succ, List.getElem?_cons_zero]; rfl)
                  case h3b0 => kernel_rfl
                  case h4b0 => kernel_rfl
                  case h6b0 => (refine Or.inl ⟨by rfl, ?_⟩; intro w hSw; (try dsimp only at hSw); (go_simp <;> with_reducible rfl))
                  case h5b0 => exact fun _ _ _ h => h
                  try simp only [Act.put, List.setIfInBounds_toArray, List.set_cons_zero, List.set_cons_succ]
                  refine wpAnyH_take (i := 1) (oi := ?oob1) (v := ?vvb1) ?hib1 (by kernel_rfl) ?h3b1 ?h4b1 ?h5b1 ?h6b1 (by assumption) ?h8b1
                  case hib1 => (simp only [List.getElem?_toArray, List.getElem?_cons_succ, List.getElem?_cons_zero]; rfl)
                  case h3b1 => kernel_rfl
                  case h4b1 => kernel_rfl
                  case h6b1 => (refine Or.inl ⟨by rfl, ?_⟩; intro w hSw; (try dsimp only at hSw); (go_simp <;> with_reducible rfl))
                  case h5b1 => exact fun _ _ _ h => h
                  try simp only [Act.put, List.setIfInBounds_toArray, List.set_cons_zero, List.set_cons_succ]
                  refine wpAnyH_take (i := 2) (oi := ?oob2) (v := ?vvb2) ?hib2 (by kernel_rfl) ?h3b2 ?h4b2 ?h5b2 ?h6b2 (by assumption) ?h8b2
                  case hib2 => (simp only [List.getElem?_toArray, List.getElem?_cons_succ, List.getElem?_cons_zero]; rfl)
                  case h3b2 => kernel_rfl
                  case h4b2 => kernel_rfl
                  case h6b2 => (refine Or.inl ⟨by rfl, ?_⟩; intro w hSw; (try dsimp only at hSw); (go_simp <;> with_reducible rfl))
                  case h5b2 => exact fun _ _ _ h => h
                  try simp only [Act.put, List.setIfInBounds_toArray, List.set_cons_zero, List.set_cons_succ]
                  refine wpAnyH_take (i := 3) (oi := ?oob3) (v := ?vvb3) ?hib3 (by kernel_rfl) ?h3b3 ?h4b3 ?h5b3 ?h6b3 (by assumption) ?h8b3
                  case hib3 => (simp only [List.getElem?_toArray, List.getElem?_cons_succ, List.getElem?_cons_zero]; rfl)
                  case h3b3 => kernel_rfl
                  case h4b3 => kernel_rfl
                  case h6b3 => (refine Or.inl ⟨by rfl, ?_⟩; intro w hSw; (try dsimp only at hSw); (go_simp <;> with_reducible rfl))
                  case h5b3 => exact fun _ _ _ h => h
                  try simp only [Act.put, List.setIfInBounds_toArray, List.set_cons_zero, List.set_cons_succ]
                  refine wpAnyH_ready (rs := [4]) (by kernel_rfl) (by simp) (AllReadyH.cons (o := ?oob4) ?hib4 (fun K hK => ?hkb4) AllReadyH.nil)
                  rotate_left
                  case hib4 => (simp only [List.getElem?_toArray, List.getElem?_cons_succ, List.getElem?_cons_zero]; rfl)
                  (rw [if_pos (by rfl)]; go_simp; refine (inRange_yes z 1 999 _ r1 r2).mono ?_; rintro e w3 ⟨rfl, rfl⟩; go_wp2_with fail; refine hK.out _ _ (by assumption) (fun hHeld => ?_); clear hK K)
                  try simp only [Act.put, List.setIfInBounds_toArray, List.set_cons_zero, List.set_cons_succ]
                  refine wpAnyH_take (i := 5) (oi := ?oob5) (v := ?vvb5) ?hib5 (by kernel_rfl) ?h3b5 ?h4b5 ?h5b5 ?h6b5 (by assumption) ?h8b5
                  case hib5 => (simp only [List.getElem?_toArray, List.getElem?_cons_succ, List.getElem?_cons_zero]; rfl)
                  case h3b5 => kernel_rfl
                  case h4b5 => kernel_rfl
                  case h6b5 => (refine Or.inl ⟨by rfl, ?_⟩; intro w hSw; (try dsimp only at hSw); (go_simp <;> with_reducible rfl))
                  case h5b5 => exact fun _ _ _ h => h
                  try simp only [Act.put, List.setIfInBounds_toArray, List.set_cons_zero, List.set_cons_succ]
                  refine wpAnyH_take (i := 6) (oi := ?oob6) (v := ?vvb6) ?hib6 (by kernel_rfl) ?h3b6 ?h4b6 ?h5b6 ?h6b6 (by assumption) ?h8b6
                  case hib6 => (simp only [List.getElem?_toArray, List.getElem?_cons_succ, List.getElem?_cons_zero]; rfl)
                  case h3b6 => kernel_rfl
                  case h4b6 => kernel_rfl
                  case h6b6 => (refine Or.inl ⟨by rfl, ?_⟩; intro w hSw; (try dsimp only at hSw); (go_simp <;> with_reducible rfl))
                  case h5b6 => exact fun _ _ _ h => h
                  try simp only [Act.put, List.setIfInBounds_toArray, List.set_cons_zero, List.set_cons_succ]
                  refine wpAnyH_take (i := 7) (oi := ?oob7) (v := ?vvb7) ?hib7 (by kernel_rfl) ?h3b7 ?h4b7 ?h5b7 ?h6b7 (by assumption) ?h8b7
                  case hib7 => (simp only [List.getElem?_toArray, List.getElem?_cons_succ, List.getElem?_cons_zero]; rfl)
                  case h3b7 => kernel_rfl
                  case h4b7 => kernel_rfl
                  case h6b7 => (refine Or.inl ⟨by rfl, ?_⟩; intro w hSw; (try dsimp only at hSw); (go_simp <;> with_reducible rfl))
                  case h5b7 => exact fun _ _ _ h => h
                  try simp only [Act.put, List.setIfInBounds_toArray, List.set_cons_zero, List.set_cons_succ]
                  refine wpAnyH_take (i := 8) (oi := ?oob8) (v := ?vvb8) ?hib8 (by kernel_rfl) ?h3b8 ?h4b8 ?h5b8 ?h6b8 (by assumption) ?h8b8
                  case hib8 => (simp only [List.getElem?_toArray, List.getElem?_cons_succ, List.getElem?_cons_zero]; rfl)
                  case h3b8 => kernel_rfl
                  case h4b8 => kernel_rfl
                  case h6b8 => (refine Or.inl ⟨by rfl, ?_⟩; intro w hSw; (try dsimp only at hSw); (go_simp <;> with_reducible rfl))
                  case h5b8 => exact fun _ _ _ h => h
                  try simp only [Act.put, List.setIfInBounds_toArray, List.set_cons_zero, List.set_cons_succ]
                  refine wpAnyH_take (i := 9) (oi := ?oob9) (v := ?vvb9) ?hib9 (by kernel_rfl) ?h3b9 ?h4b9 ?h5b9 ?h6b9 (by assumption) ?h8b9
                  case hib9 => (simp only [List.getElem?_toArray, List.getElem?_cons_succ, List.getElem?_cons_zero]; rfl)
                  case h3b9 => kernel_rfl
                  case h4b9 => kernel_rfl
                  case h6b9 => (refine Or.inl ⟨by rfl, ?_⟩; intro w hSw; (try dsimp only at hSw); (go_simp <;> with_reducible rfl))
                  case h5b9 => exact fun _ _ _ h => h
                  try simp only [Act.put, List.setIfInBounds_toArray, List.set_cons_zero, List.set_cons_succ]
                  refine wpAnyH_take (i := 10) (oi := ?oob10) (v := ?vvb10) ?hib10 (by kernel_rfl) ?h3b10 ?h4b10 ?h5b10 ?h6b10 (by assumption) ?h8b10
                  case hib10 => (simp only [List.getElem?_toArray, List.getElem?_cons_succ, List.getElem?_cons_zero]; rfl)
                  case h3b10 => kernel_rfl
                  case h4b10 => kernel_rfl
                  case h6b10 => (refine Or.inl ⟨by rfl, ?_⟩; intro w hSw; (try dsimp only at hSw); (go_simp <;> with_reducible rfl))
                  case h5b10 => exact fun _ _ _ h => h
                  try simp only [Act.put, List.setIfInBounds_toArray, List.set_cons_zero, List.set_cons_succ]
                  refine wpAnyH_take (i := 11) (oi := ?oob11) (v := ?vvb11) ?hib11 (by kernel_rfl) ?h3b11 ?h4b11 ?h5b11 ?h6b11 (by assumption) ?h8b11
                  case hib11 => (simp only [List.getElem?_toArray, List.getElem?_cons_succ, List.getElem?_cons_zero]; rfl)
                  case h3b11 => kernel_rfl
                  case h4b11 => kernel_rfl
                  case h6b11 => (refine Or.inl ⟨by rfl, ?_⟩; intro w hSw; (try dsimp only at hSw); (go_simp <;> with_reducible rfl))
                  case h5b11 => exact fun _ _ _ h => h
                  try simp only [Act.put, List.setIfInBounds_toArray, List.set_cons_zero, List.set_cons_succ]
                  refine wpAnyH_take (i := 12) (oi := ?oob12) (v := ?vvb12) ?hib12 (by kernel_rfl) ?h3b12 ?h4b12 ?h5b12 ?h6b12 (by assumption) ?h8b12
                  case hib12 => (simp only [List.getElem?_toArray, List.getElem?_cons_succ, List.getElem?_cons_zero]; rfl)
                  case h3b12 => kernel_rfl
                  case h4b12 => kernel_rfl
                  case h6b12 => (refine Or.inl ⟨by rfl, ?_⟩; intro w hSw; (try dsimp only at hSw); (go_simp <;> with_reducible rfl))
                  case h5b12 => exact fun _ _ _ h => h
                  try simp only [Act.put, List.setIfInBounds_toArray, List.set_cons_zero, List.set_cons_succ]
                  refine wpAnyH_take (i := 13) (oi := ?oob13) (v := ?vvb13) ?hib13 (by kernel_rfl) ?h3b13 ?h4b13 ?h5b13 ?h6b13 (by assumption) ?h8b13
                  case hib13 => (simp only [List.getElem?_toArray, List.getElem?_cons_succ, List.getElem?_cons_zero]; rfl)
                  case h3b13 => kernel_rfl
                  case h4b13 => kernel_rfl
                  case h6b13 => (refine Or.inl ⟨by rfl, ?_⟩; intro w hSw; (try dsimp only at hSw); (go_simp <;> with_reducible rfl))
                  case h5b13 => exact fun _ _ _ h => h
                  try simp only [Act.put, List.setIfInBounds_toArray, List.set_cons_zero, List.set_cons_succ]
                  refine wpAnyH_ready (rs := [14]) (by kernel_rfl) (by simp) (AllReadyH.cons (o := ?oob14) ?hib14 (fun K hK => ?hkb14) AllReadyH.nil)
                  rotate_left
                  case hib14 => (simp only [List.getElem?_toArray, List.getElem?_cons_succ, List.getElem?_cons_zero]; rfl)
                  (rw [if_pos (by rfl)]; go_simp; refine (splace _ _ k (zs.take k) z _ HT.out (by rw [List.length_take]; omega) (by omega)).mono ?_; rintro e w3 ⟨v, rfl, p1, p2, rfl⟩; have pv := p1 hm; have pvd : decide (0 ≤ v) = true := (by simpa using pv); clear p1 p2; go_wp2_with fail; refine hK.out _ _ (by assumption) (fun hHeld => ?_); clear hK K)
                  try simp only [Act.put, List.setIfInBounds_toArray, List.set_cons_zero, List.set_cons_succ]
                  refine wpAnyH_take (i := 15) (oi := ?oob15) (v := ?vvb15) ?hib15 (by kernel_rfl) ?h3b15 ?h4b15 ?h5b15 ?h6b15 (by assumption) ?h8b15
                  case hib15 => (simp only [List.getElem?_toArray, List.getElem?_cons_succ, List.getElem?_cons_zero]; rfl)
                  case h3b15 => kernel_rfl
                  case h4b15 => kernel_rfl
                  case h6b15 => (refine Or.inl ⟨by rfl, ?_⟩; intro w hSw; (try dsimp only at hSw); (go_simp <;> with_reducible rfl))
                  case h5b15 => exact fun _ _ _ h => h
                  try simp only [Act.put, List.setIfInBounds_toArray, List.set_cons_zero, List.set_cons_succ]
                  refine wpAnyH_take (i := 16) (oi := ?oob16) (v := ?vvb16) ?hib16 (by kernel_rfl) ?h3b16 ?h4b16 ?h5b16 ?h6b16 (by assumption) ?h8b16
                  case hib16 => (simp only [List.getElem?_toArray, List.getElem?_cons_succ, List.getElem?_cons_zero]; rfl)
                  case h3b16 => kernel_rfl
                  case h4b16 => kernel_rfl
                  case h6b16 => (refine Or.inl ⟨by rfl, ?_⟩; intro w hSw; (try dsimp only at hSw); (go_simp <;> with_reducible rfl))
                  case h5b16 => exact fun _ _ _ h => h
                  try simp only [Act.put, List.setIfInBounds_toArray, List.set_cons_zero, List.set_cons_succ]
                  refine wpAnyH_done (by kernel_rfl) ?_ _

                  go_wp2_with fail
                  go_returns
                  exact ⟨_, by rw [HN.out]; rfl, (fun _ => rfl), (fun c => by rw [HN.out] at c; cases c), hBd⟩
                · have HRel : Hid (InhRel p L0 zs owner (k + 1) c2 (setL (gvTo p L0 zs k) z (if c2 then shareL (gvTo p L0 zs k) z + p else 0))) := HNX.out (by rw [HOK.out, decide_eq_true r1, decide_eq_true r2, decide_eq_true HNM.out, decide_eq_true hm]; rfl)
                  clear hB
                  go_wp2_with fail
                  refine wp_region_held_drew (S := fun w' => w'.cell? ⟨gz, oz + k, none⟩ = some (.int .i64 z) ∧ Below w.heap.size w w') (by kernel_rfl) ?_ (fun hHeld => ?_)
                  · exact ⟨hcz, hBd⟩
                  refine wpAnyH_take (i := 0) (oi := ?ooc0) (v := ?vvc0) ?hic0 (by kernel_rfl) ?h3c0 ?h4c0 ?h5c0 ?h6c0 (by assumption) ?h8c0
                  case hic0 => (simp only [List.getElem?_toArray, List.getElem?_cons_succ, List.getElem?_cons_zero]; rfl)
                  case h3c0 => kernel_rfl
                  case h4c0 => kernel_rfl
                  case h6c0 => (refine Or.inl ⟨by rfl, ?_⟩; intro w hSw; (try dsimp only at hSw); (go_simp <;> with_reducible rfl))
                  case h5c0 => exact fun _ _ _ h => h
                  try simp only [Act.put, List.setIfInBounds_toArray, List.set_cons_zero, List.set_cons_succ]
                  refine wpAnyH_take (i := 1) (oi := ?ooc1) (v := ?vvc1) ?hic1 (by kernel_rfl) ?h3c1 ?h4c1 ?h5c1 ?h6c1 (by assumption) ?h8c1
                  case hic1 => (simp only [List.getElem?_toArray, List.getElem?_cons_succ, List.getElem?_cons_zero]; rfl)
                  case h3c1 => kernel_rfl
                  case h4c1 => kernel_rfl
                  case h6c1 => (refine Or.inl ⟨by rfl, ?_⟩; intro w hSw; (try dsimp only at hSw); (go_simp <;> with_reducible rfl))
                  case h5c1 => exact fun _ _ _ h => h
                  try simp only [Act.put, List.setIfInBounds_toArray, List.set_cons_zero, List.set_cons_succ]
                  refine wpAnyH_take (i := 2) (oi := ?ooc2) (v := ?vvc2) ?hic2 (by kernel_rfl) ?h3c2 ?h4c2 ?h5c2 ?h6c2 (by assumption) ?h8c2
                  case hic2 => (simp only [List.getElem?_toArray, List.getElem?_cons_succ, List.getElem?_cons_zero]; rfl)
                  case h3c2 => kernel_rfl
                  case h4c2 => kernel_rfl
                  case h6c2 => (refine Or.inl ⟨by rfl, ?_⟩; intro w hSw; (try dsimp only at hSw); (go_simp <;> with_reducible rfl))
                  case h5c2 => exact fun _ _ _ h => h
                  try simp only [Act.put, List.setIfInBounds_toArray, List.set_cons_zero, List.set_cons_succ]
                  refine wpAnyH_take (i := 3) (oi := ?ooc3) (v := ?vvc3) ?hic3 (by kernel_rfl) ?h3c3 ?h4c3 ?h5c3 ?h6c3 (by assumption) ?h8c3
                  case hic3 => (simp only [List.getElem?_toArray, List.getElem?_cons_succ, List.getElem?_cons_zero]; rfl)
                  case h3c3 => kernel_rfl
                  case h4c3 => kernel_rfl
                  case h6c3 => (refine Or.inl ⟨by rfl, ?_⟩; intro w hSw; (try dsimp only at hSw); (go_simp <;> with_reducible rfl))
                  case h5c3 => exact fun _ _ _ h => h
                  try simp only [Act.put, List.setIfInBounds_toArray, List.set_cons_zero, List.set_cons_succ]
                  refine wpAnyH_ready (rs := [4]) (by kernel_rfl) (by simp) (AllReadyH.cons (o := ?ooc4) ?hic4 (fun K hK => ?hkc4) AllReadyH.nil)
                  rotate_left
                  case hic4 => (simp only [List.getElem?_toArray, List.getElem?_cons_succ, List.getElem?_cons_zero]; rfl)
                  (rw [if_pos (by rfl)]; go_simp; refine (inRange_yes z 1 999 _ r1 r2).mono ?_; rintro e w3 ⟨rfl, rfl⟩; go_wp2_with fail; refine hK.out _ _ (by assumption) (fun hHeld => ?_); clear hK K)
                  try simp only [Act.put, List.setIfInBounds_toArray, List.set_cons_zero, List.set_cons_succ]
                  refine wpAnyH_take (i := 5) (oi := ?ooc5) (v := ?vvc5) ?hic5 (by kernel_rfl) ?h3c5 ?h4c5 ?h5c5 ?h6c5 (by assumption) ?h8c5
                  case hic5 => (simp only [List.getElem?_toArray, List.getElem?_cons_succ, List.getElem?_cons_zero]; rfl)
                  case h3c5 => kernel_rfl
                  case h4c5 => kernel_rfl
                  case h6c5 => (refine Or.inl ⟨by rfl, ?_⟩; intro w hSw; (try dsimp only at hSw); (go_simp <;> with_reducible rfl))
                  case h5c5 => exact fun _ _ _ h => h
                  try simp only [Act.put, List.setIfInBounds_toArray, List.set_cons_zero, List.set_cons_succ]
                  refine wpAnyH_take (i := 6) (oi := ?ooc6) (v := ?vvc6) ?hic6 (by kernel_rfl) ?h3c6 ?h4c6 ?h5c6 ?h6c6 (by assumption) ?h8c6
                  case hic6 => (simp only [List.getElem?_toArray, List.getElem?_cons_succ, List.getElem?_cons_zero]; rfl)
                  case h3c6 => kernel_rfl
                  case h4c6 => kernel_rfl
                  case h6c6 => (refine Or.inl ⟨by rfl, ?_⟩; intro w hSw; (try dsimp only at hSw); (go_simp <;> with_reducible rfl))
                  case h5c6 => exact fun _ _ _ h => h
                  try simp only [Act.put, List.setIfInBounds_toArray, List.set_cons_zero, List.set_cons_succ]
                  refine wpAnyH_take (i := 7) (oi := ?ooc7) (v := ?vvc7) ?hic7 (by kernel_rfl) ?h3c7 ?h4c7 ?h5c7 ?h6c7 (by assumption) ?h8c7
                  case hic7 => (simp only [List.getElem?_toArray, List.getElem?_cons_succ, List.getElem?_cons_zero]; rfl)
                  case h3c7 => kernel_rfl
                  case h4c7 => kernel_rfl
                  case h6c7 => (refine Or.inl ⟨by rfl, ?_⟩; intro w hSw; (try dsimp only at hSw); (go_simp <;> with_reducible rfl))
                  case h5c7 => exact fun _ _ _ h => h
                  try simp only [Act.put, List.setIfInBounds_toArray, List.set_cons_zero, List.set_cons_succ]
                  refine wpAnyH_take (i := 8) (oi := ?ooc8) (v := ?vvc8) ?hic8 (by kernel_rfl) ?h3c8 ?h4c8 ?h5c8 ?h6c8 (by assumption) ?h8c8
                  case hic8 => (simp only [List.getElem?_toArray, List.getElem?_cons_succ, List.getElem?_cons_zero]; rfl)
                  case h3c8 => kernel_rfl
                  case h4c8 => kernel_rfl
                  case h6c8 => (refine Or.inl ⟨by rfl, ?_⟩; intro w hSw; (try dsimp only at hSw); (go_simp <;> with_reducible rfl))
                  case h5c8 => exact fun _ _ _ h => h
                  try simp only [Act.put, List.setIfInBounds_toArray, List.set_cons_zero, List.set_cons_succ]
                  refine wpAnyH_take (i := 9) (oi := ?ooc9) (v := ?vvc9) ?hic9 (by kernel_rfl) ?h3c9 ?h4c9 ?h5c9 ?h6c9 (by assumption) ?h8c9
                  case hic9 => (simp only [List.getElem?_toArray, List.getElem?_cons_succ, List.getElem?_cons_zero]; rfl)
                  case h3c9 => kernel_rfl
                  case h4c9 => kernel_rfl
                  case h6c9 => (refine Or.inl ⟨by rfl, ?_⟩; intro w hSw; (try dsimp only at hSw); (go_simp <;> with_reducible rfl))
                  case h5c9 => exact fun _ _ _ h => h
                  try simp only [Act.put, List.setIfInBounds_toArray, List.set_cons_zero, List.set_cons_succ]
                  refine wpAnyH_take (i := 10) (oi := ?ooc10) (v := ?vvc10) ?hic10 (by kernel_rfl) ?h3c10 ?h4c10 ?h5c10 ?h6c10 (by assumption) ?h8c10
                  case hic10 => (simp only [List.getElem?_toArray, List.getElem?_cons_succ, List.getElem?_cons_zero]; rfl)
                  case h3c10 => kernel_rfl
                  case h4c10 => kernel_rfl
                  case h6c10 => (refine Or.inl ⟨by rfl, ?_⟩; intro w hSw; (try dsimp only at hSw); (go_simp <;> with_reducible rfl))
                  case h5c10 => exact fun _ _ _ h => h
                  try simp only [Act.put, List.setIfInBounds_toArray, List.set_cons_zero, List.set_cons_succ]
                  refine wpAnyH_take (i := 11) (oi := ?ooc11) (v := ?vvc11) ?hic11 (by kernel_rfl) ?h3c11 ?h4c11 ?h5c11 ?h6c11 (by assumption) ?h8c11
                  case hic11 => (simp only [List.getElem?_toArray, List.getElem?_cons_succ, List.getElem?_cons_zero]; rfl)
                  case h3c11 => kernel_rfl
                  case h4c11 => kernel_rfl
                  case h6c11 => (refine Or.inl ⟨by rfl, ?_⟩; intro w hSw; (try dsimp only at hSw); (go_simp <;> with_reducible rfl))
                  case h5c11 => exact fun _ _ _ h => h
                  try simp only [Act.put, List.setIfInBounds_toArray, List.set_cons_zero, List.set_cons_succ]
                  refine wpAnyH_take (i := 12) (oi := ?ooc12) (v := ?vvc12) ?hic12 (by kernel_rfl) ?h3c12 ?h4c12 ?h5c12 ?h6c12 (by assumption) ?h8c12
                  case hic12 => (simp only [List.getElem?_toArray, List.getElem?_cons_succ, List.getElem?_cons_zero]; rfl)
                  case h3c12 => kernel_rfl
                  case h4c12 => kernel_rfl
                  case h6c12 => (refine Or.inl ⟨by rfl, ?_⟩; intro w hSw; (try dsimp only at hSw); (go_simp <;> with_reducible rfl))
                  case h5c12 => exact fun _ _ _ h => h
                  try simp only [Act.put, List.setIfInBounds_toArray, List.set_cons_zero, List.set_cons_succ]
                  refine wpAnyH_take (i := 13) (oi := ?ooc13) (v := ?vvc13) ?hic13 (by kernel_rfl) ?h3c13 ?h4c13 ?h5c13 ?h6c13 (by assumption) ?h8c13
                  case hic13 => (simp only [List.getElem?_toArray, List.getElem?_cons_succ, List.getElem?_cons_zero]; rfl)
                  case h3c13 => kernel_rfl
                  case h4c13 => kernel_rfl
                  case h6c13 => (refine Or.inl ⟨by rfl, ?_⟩; intro w hSw; (try dsimp only at hSw); (go_simp <;> with_reducible rfl))
                  case h5c13 => exact fun _ _ _ h => h
                  try simp only [Act.put, List.setIfInBounds_toArray, List.set_cons_zero, List.set_cons_succ]
                  refine wpAnyH_ready (rs := [14]) (by kernel_rfl) (by simp) (AllReadyH.cons (o := ?ooc14) ?hic14 (fun K hK => ?hkc14) AllReadyH.nil)
                  rotate_left
                  case hic14 => (simp only [List.getElem?_toArray, List.getElem?_cons_succ, List.getElem?_cons_zero]; rfl)
                  (rw [if_pos (by rfl)]; go_simp; refine (splace _ _ k (zs.take k) z _ HT.out (by rw [List.length_take]; omega) (by omega)).mono ?_; rintro e w3 ⟨v, rfl, p1, p2, rfl⟩; obtain rfl := p2 hm; clear p1 p2; go_wp2_with fail; refine hK.out _ _ (by assumption) (fun hHeld => ?_); clear hK K)
                  try simp only [Act.put, List.setIfInBounds_toArray, List.set_cons_zero, List.set_cons_succ]
                  refine wpAnyH_take (i := 15) (oi := ?ooc15) (v := ?vvc15) ?hic15 (by kernel_rfl) ?h3c15 ?h4c15 ?h5c15 ?h6c15 (by assumption) ?h8c15
                  case hic15 => (simp only [List.getElem?_toArray, List.getElem?_cons_succ, List.getElem?_cons_zero]; rfl)
                  case h3c15 => kernel_rfl
                  case h4c15 => kernel_rfl
                  case h6c15 => (refine Or.inl ⟨by rfl, ?_⟩; intro w hSw; (try dsimp only at hSw); (go_simp <;> with_reducible rfl))
                  case h5c15 => exact fun _ _ _ h => h
                  try simp only [Act.put, List.setIfInBounds_toArray, List.set_cons_zero, List.set_cons_succ]
                  refine wpAnyH_take (i := 16) (oi := ?ooc16) (v := ?vvc16) ?hic16 (by kernel_rfl) ?h3c16 ?h4c16 ?h5c16 ?h6c16 (by assumption) ?h8c16
                  case hic16 => (simp only [List.getElem?_toArray, List.getElem?_cons_succ, List.getElem?_cons_zero]; rfl)
                  case h3c16 => kernel_rfl
                  case h4c16 => kernel_rfl
                  case h6c16 => (refine Or.inl ⟨by rfl, ?_⟩; intro w hSw; (try dsimp only at hSw); (go_simp <;> with_reducible rfl))
                  case h5c16 => exact fun _ _ _ h => h
                  try simp only [Act.put, List.setIfInBounds_toArray, List.set_cons_zero, List.set_cons_succ]
                  refine wpAnyH_done (by kernel_rfl) ?_ _

                  obtain ⟨wz, hwz⟩ : ∃ wz, wz = wr.drew := ⟨_, rfl⟩
                  have hrz : Below wr.heap.size wr wr.drew := (Below.refl _ _).drew
                  have hIz := hs_below HI1.out hrz
                  have hSz := HS.out.next hrz
                  have hbz2 : gz < wr.drew.heap.size := Nat.lt_of_lt_of_le hbz hrz.size
                  have hcz2 := (hrz.cell (p := ⟨gz, oz + k, none⟩) hbz).trans hcz
                  clear hcz hbz t0 t1 t2 t3 t4 HI1 HS hrz HT
                  rw [← hwz] at hIz hSz hBd hbz2 hcz2 ⊢
                  have hcz := hcz2
                  have hbz := hbz2
                  have hBz := hBd
                  obtain ⟨t0, t1, t2, t3, hbG⟩ := blk_two hSz
                  have HI1 := Lib.hid hIz
                  have HSz := Lib.hid hSz
                  clear hcz2 hbz2 hIz hSz hwz
                  go_upto_region 11 with fail
                  go_cut [13, 14] from 52 to 96 (fun sx sy wx => ∃ m : Nat, sx = .pointer (some ⟨m, 0, none⟩) ∧ sy = .bool c2 ∧ Blk wx m 53 #[.int .i64 (Wsh.qn c2 (shareL (gvTo p L0 zs k) z + p).num), .int .i64 (Wsh.qn c2 ((shareL (gvTo p L0 zs k) z + p).den : Int))] ∧ Below wz.heap.size wz wx)
                  case first =>
                    go_region_held3 (fun w' => w'.cell? ⟨G, 0, none⟩ = some (.int .i64 p.num) ∧ w'.cell? ⟨G, 1, none⟩ = some (.int .i64 (p.den : Int)) ∧ w'.cell? ⟨gz, oz + k, none⟩ = some (.int .i64 z) ∧ Below wz.heap.size wz w') (first | (exact keepT4 hb (by assumption)) | (exact keepT4 ((Below.refl _ _).alloc (Nat.le_refl _) _) (by assumption)) | (exact keepT4R (by assumption) hBq hbG hbz (by omega)) | (exact keepT4R0 hbG hbz (by assumption)) | (exact keepT4set (by assumption) (by first | omega | (simp; omega)) (by first | omega | (simp; omega)) (by first | omega | (simp; omega))) | (refine ⟨?_, ?_, ?_, ?_⟩ <;> first | (go_keep; done) | (exact (Below.refl _ _).drew) | (go_grown; done)))
                      (first | (go_at_call 113; refine (sshareL b1 cp1 (gvTo p L0 zs k) _ z _ (hs_below HI1.out (T4B (by assumption))) rfl (by omega)).mono ?_; rintro e wq ⟨rfl, hb⟩; have hBq := T4B (keepT4 hb (by assumption)); obtain ⟨hc, hf⟩ := bcell hb; have hzz := hb.size; (try simp only [World.size_alloc] at hzz); (try simp only [World.size_drew] at hzz); (try simp only [World.size_alloc] at hzz); (try simp only [Nat.add_one_le_iff] at hzz); (try have hq : wz.heap.size + 1 < wq.heap.size := by omega); (try have hq3 : wz.heap.size < wq.heap.size := by omega); (try have hq4 : wz.heap.size ≤ wq.heap.size := by omega)) | (go_at_call 132; refine (saddQ _ C4.out A5.out C1.out C2.out C3.out).mono ?_; rintro e wq ⟨rfl, hb⟩; have hBq := T4B (keepT4 hb (by assumption)); obtain ⟨hc, hf⟩ := bcell hb; have hzz := hb.size; (try simp only [World.size_alloc] at hzz); (try simp only [World.size_drew] at hzz); (try simp only [World.size_alloc] at hzz); (try simp only [Nat.add_one_le_iff] at hzz); (try have hq : wz.heap.size + 1 < wq.heap.size := by omega); (try have hq3 : wz.heap.size < wq.heap.size := by omega); (try have hq4 : wz.heap.size ≤ wq.heap.size := by omega)))
                    all_goals
                      have hS := T4B (by assumption)
                      go_wp2_with fail
                      go_meet
                      first
                      | exact ⟨_, rfl, rfl, Blk.new _ _ _, hS⟩
                      | exact ⟨_, rfl, rfl, ((Blk.new _ _ _).next hb).two _ _, hS⟩
                      | exact ⟨_, rfl, rfl, (((Blk.new wz _ _).next (by assumption)).next hb).two _ _, hS⟩
                      | exact ⟨_, rfl, rfl, (((Blk.new wz _ _).drew.next (by assumption)).next hb).two _ _, hS⟩
                  case rest =>
                    obtain ⟨m, rfl, rfl, hblk, hBw⟩ := hcut
                    obtain ⟨r0, r1', r2', r3', r4'⟩ := blk_two hblk
                    have hcz2 := (hBw.cell (p := ⟨gz, oz + k, none⟩) hbz).trans hcz
                    have hBw2 := bel_tr hBz hBw
                    have hBd2 := hBw2.drew
                    have HI2 := Lib.hid (hs_below HI1.out hBw)
                    have HS2 := Lib.hid (HSz.out.next hBw)
                    go_wp2_with fail
                    go_region_held3 (fun w' => w'.cell? ⟨m, 0, none⟩ = some (.int .i64 (Wsh.qn c2 (shareL (gvTo p L0 zs k) z + p).num)) ∧ w'.cell? ⟨m, 1, none⟩ = some (.int .i64 (Wsh.qn c2 ((shareL (gvTo p L0 zs k) z + p).den : Int))) ∧ w'.cell? ⟨gz, oz + k, none⟩ = some (.int .i64 z) ∧ Below wc.heap.size wc w') (first | (exact keepT4 hb (by assumption)) | (refine ⟨?_, ?_, ?_, ?_⟩ <;> first | (go_keep; done) | exact (Below.refl _ _).drew))
                      (first | (go_at_call 134; refine (sset b1 cp1 (gvTo p L0 zs k) _ z _ _ (if c2 then shareL (gvTo p L0 zs k) z + p else 0) _ (hs_below HI2.out (T4B (by assumption))) rfl (by omega) (share_ok c2 _)).mono ?_; rintro e wq ⟨v1, rfl, hO, hb⟩; have hO := own_le hO (Nat.le_trans hBw2.size (T4B (by assumption)).size)))
                    have hBe : Below wc.heap.size wc wq := T4B (by assumption)
                    have HO := Lib.hid hO
                    clear hO hblk r0 r1' r2' r3' r4'
                    go_wp2_with fail
                    go_roundw
                    case rel => exact ⟨k + 1, c2, by omega, by go_num, rfl, _, HO.out, HRel.out, HS2.out.next hBe, bel_tr hBw2 hBe⟩
                    case measure => simp [intOf]; omega
            · obtain rfl : zs.length = k := by omega
              have HGA : Hid (gvAll (inhQ hs owner zs) (setL (ledOf hs) owner 0) zs = true) := by show _ = _; rw [HPQ.out, ← HL0.out]; exact rng_yes hgv
              have HHe : Hid (heirsB zs owner = true) := heirs_yes z1 z2 hok
              have HG2 : Hid (giveL p L0 zs = inhL hs owner zs) := by show _ = _; unfold inhL; rw [HPQ.out, HL0.out]
              have hlin : (rawL (gvTo p L0 zs zs.length)).length ≤ 1048576 := by
                rw [raw_len] at hlen0 ⊢; have := gv_len (p := p) (L := L0) (zs := zs) zs.length (Nat.le_refl _); omega
              rw [gv_end, HG2.out] at hO hI1 hc1 hlin ⊢
              have hv := svl b1 cp1 _ wr hI1 hlin
              rw [vlR_vl] at hv
              have HO3 := Lib.hid hO
              have HB := Lib.hid hB
              have HP := Lib.hid hfp
              clear hO hB hS hok hgv hfp
              cases hvl : vlB (inhL hs owner zs) with
              | false =>
                rw [hvl] at hv
                have HN : Hid (inhB hs owner zs = false) := inh_no (.inr (.inr (.inr (.inr (.inr hvl)))))
                clear hvl
                go_wp2_with fail
                refine hv.mono ?_
                rintro e w4 ⟨rfl, hb4⟩
                go_wp2_with fail
                go_returns
                exact ⟨_, by rw [HN.out]; rfl, (fun _ => rfl), (fun c => by rw [HN.out] at c; cases c), bel_tr HB.out hb4⟩
              | true =>
                rw [hvl] at hv
                have HN : Hid (inhB hs owner zs = true) := inh_yes HV.out HNZ.out HHe.out (by rw [HPQ.out]; exact HP.out) HGA.out hvl
                clear hvl
                go_wp2_with fail
                refine hv.mono ?_
                rintro e w4 ⟨rfl, hb4⟩
                go_wp2_with fail
                go_returns
                exact ⟨_, by rw [HN.out]; rfl, (fun c => by rw [HN.out] at c; cases c), (fun _ => own_next HO3.out hb4), bel_tr HB.out hb4⟩

theorem inh_small {hs : List Hd} {owner : Int} {zs : List Int} (h : inhB hs owner zs = true) : 0 < (rawL (inhL hs owner zs)).length ∧ (rawL (inhL hs owner zs)).length ≤ 1048576 := by
  unfold inhB at h
  simp only [Bool.and_eq_true] at h
  have := h.2
  rw [← vlR_vl] at this
  have hl := led_le this
  refine ⟨?_, by omega⟩
  cases hr : rawL (inhL hs owner zs) with
  | nil => rw [hr] at this; exact absurd this (by decide)
  | cons x t => simp
end Go.Proofs.Ytgmmdpdlekpmfaa
