/- Contracts and facts of functions of this program, in build order. Conditions: those stated in each. -/
import Derived.Test.YtgmmdpdlekpmfacGrA
import Derived.Test.YtgmmdpdlekpmfacGrC
import Derived.Deep.RegionHeld3
import Derived.Deep.DeepCutAuto
namespace Go.Proofs.Ytgmmdpdlekpmfac
open Go.RowKit

/-- what is left: a row of the call's own -/
def NewH (w : World) (hs : List Hd) (e : Ending) (w' : World) : Prop := ∃ v, e = .returned v ∧ OwnH w' w.heap.size v hs ∧ Below w.heap.size w w'

theorem own_base {w : World} {base n : Nat} {v : Value} {xs : List Value} (h : w.ownsRow (base + 1) 104 3 v n xs) : w.ownsRow base 104 3 v n xs := by
  refine ⟨h.1, ?_⟩
  rcases h.2 with h | ⟨g, cap, cur, a, b, c⟩
  · exact .inl h
  · exact .inr ⟨g, cap, cur, a, by omega, c⟩
theorem own_tail {w1 : World} {base m : Nat} {v1 : Value} {a b : List Hd} {k : Nat} (h : w1.ownsRow (base + 1) 104 3 v1 (k + m) (valsH a ++ valsH b)) (hk : a.length = k) (hn : b.length = m) : OwnH w1 base v1 (a ++ [] ++ b) := by
  unfold OwnH
  rw [List.append_nil, List.length_append, vals_append, hk, hn]; exact own_base h
theorem own_tail2 {w1 : World} {base m : Nat} {v1 : Value} {a b : List Hd} {k : Nat} {o n d : Int} (h : w1.ownsRow (base + 1) 104 3 v1 (k + 1 + m) (valsH a ++ [.int .i64 o, .int .i64 n, .int .i64 d] ++ valsH b)) (hk : a.length = k) (hn : b.length = m) : OwnH w1 base v1 (a ++ [(o, n, d)] ++ b) := by
  unfold OwnH
  rw [List.length_append, List.length_append, vals_append, vals_append, hk, hn]; exact own_base h
theorem with_raw {L : Led} (ha : Asc L) {o n d : Int} {q : Rat} {hs : List Hd} (hh : hs = rawL L) (hq : shareIs n d q) {k : Nat} (hk : k ≤ hs.length) (h1 : ∀ j, j < k → (hs.getD j hd0).1 < o) (h2 : k < hs.length → o ≤ (hs.getD k hd0).1) {s : Nat} (hsk : s = if k < hs.length ∧ (hs.getD k hd0).1 = o then k + 1 else k) :
    rawL (setL L o q) = hs.take k ++ (if n = 0 then [] else [(o, n, d)]) ++ hs.drop s := by
  rw [hsk]
  clear hsk
  subst hh
  rw [raw_len] at hk h2 ⊢
  have g : ∀ j, j < L.length → ((rawL L).getD j hd0).1 = (L.getD j (0, 0)).1 := fun j hj => by rw [raw_get L hj]; rfl
  rw [with_set ha o q hk (fun j hj => by rw [← g j (by omega)]; exact h1 j hj) (fun hl => by rw [← g k hl]; exact h2 hl), raw_append, raw_append, raw_take, raw_drop]
  have e1 : rawL (if q = 0 then [] else [(o, q)]) = (if n = 0 then [] else [(o, n, d)]) := by
    have := shareIs_zero hq
    rw [decide_eq_decide] at this
    by_cases hz : q = 0
    · rw [if_pos hz, if_pos (this.1 hz)]; rfl
    · rw [if_neg hz, if_neg (fun c => hz (this.2 c))]
      show [rawH (o, q)] = _
      rw [shareIs_raw hq hz]
  have e2 : skipL L o k = if k < L.length ∧ ((rawL L).getD k hd0).1 = o then k + 1 else k := by
    unfold skipL
    by_cases hl : k < L.length
    · rw [g k hl]
    · rw [if_neg (fun c => hl c.1), if_neg (fun c => hl c.1)]
  rw [e1, e2]
end Go.Proofs.Ytgmmdpdlekpmfac
namespace Go.Proofs.Ytgmmdpdlekpmfac
open Go.RowKit

theorem own_snoc {w : World} {base : Nat} {v : Value} {A : List Hd} {o n d : Int} (h : w.ownsRow base 104 3 v (A.length + 1) (valsH A ++ [.int .i64 o, .int .i64 n, .int .i64 d])) : OwnH w base v (A ++ [(o, n, d)]) := by
  unfold OwnH
  rw [List.length_append, vals_append]; exact h
theorem setTo_not (L : Led) (o : Int) (q : Rat) : ∀ k, k ≤ L.length → (setTo L o q k).2 = false → q ≠ 0 := by
  intro k
  induction k with
  | zero => intro _ h; rw [setTo_zero] at h; simpa using h
  | succ k ih =>
    intro hk h
    rw [setTo_succ o q (by omega)] at h
    simp only [Bool.or_eq_false_iff] at h
    exact ih (by omega) h.1
theorem setTo_raw {L : Led} {hs : List Hd} (hh : hs = rawL L) {n d : Int} {q : Rat} (hq : shareIs n d q) (o : Int) {k : Nat} (hk : k < hs.length) {c : Bool} (hc : (setTo L o q k).2 = c) {x xn xd : Int} (hx : hs.getD k hd0 = (x, xn, xd)) :
    rawL (setTo L o q (k + 1)).1 = rawL (setTo L o q k).1 ++ ((if !c && decide (o ≤ x) then [(o, n, d)] else []) ++ (if x ≠ o then [(x, xn, xd)] else [])) ∧ (setTo L o q (k + 1)).2 = (c || decide (o ≤ x)) := by
  subst hh
  rw [raw_len] at hk
  rw [raw_get L hk] at hx
  have e1 : (L.getD k (0, 0)).1 = x := congrArg Prod.fst hx
  have e3 : rawL [L.getD k (0, 0)] = [(x, xn, xd)] := by show [rawH (L.getD k (0, 0))] = _; rw [hx]
  rw [setTo_succ o q hk, hc, e1]
  refine ⟨?_, rfl⟩
  dsimp only
  rw [raw_append, raw_append]
  congr 2
  · by_cases h : (!c && decide (o ≤ x)) = true
    · rw [if_pos h, if_pos h]
      have hcf : c = false := by cases c with | true => simp at h | false => rfl
      have := setTo_not L o q k (by omega) (by rw [hc, hcf])
      show [rawH (o, q)] = _
      rw [shareIs_raw hq this]
    · rw [if_neg h, if_neg h]; rfl
  · by_cases h : x ≠ o
    · rw [if_pos h, if_pos h, e3]
    · rw [if_neg h, if_neg h]; rfl

set_option linter.unusedSimpArgs false
set_option maxRecDepth 100000 in
set_option maxHeartbeats 4000000 in
theorem sset (a : Option Addr) (cap : Nat) (L : Led) (hs : List Hd) (o n d : Int) (q : Rat) (w : World) (h : IsHs w a hs) (hhs : hs = rawL L) (hn : hs.length ≤ 1000) (hq : shareIs n d q) :
    Calls Try.prog 161 #[.slice a hs.length cap, .int .i64 o, .agg #[.int .i64 n, .int .i64 d]] w (NewH w (rawL (setL L o q))) := by
  obtain ⟨i0, hi0, hz0, hz1, hz2⟩ := info_parts infoH
  have HQ := Lib.hid hq
  have HZ : Hid (decide (q = 0) = (n == 0)) := by show _ = _; rw [shareIs_zero hq]; by_cases e : n = 0 <;> simp [e]
  have HE : Hid (rawL (setL L o q) = rawL (setTo L o q hs.length).1 ++ (if (setTo L o q hs.length).2 then [] else [(o, n, d)])) := by
    show _ = _
    rw [setTo_end, raw_append, hhs, raw_len]
    congr 1
    cases hc : (setTo L o q L.length).2 with
    | true => rfl
    | false =>
      show [rawH (o, q)] = _
      rw [shareIs_raw hq (setTo_not L o q _ (Nat.le_refl _) hc)]; rfl
  have HLn : Hid (∀ k, k ≤ hs.length → (rawL (setTo L o q k).1).length ≤ 2 * k) := fun k hk => by rw [raw_len]; exact setTo_len L o q k (by rw [hhs, raw_len] at hk; exact hk)
  rcases h with he | ⟨g, off, rfl, hc⟩
  · have e0 : hs.length = 0 := by rw [he]; rfl
    rw [e0] at HE ⊢
    clear he hhs hq
    have hq0 := HE.out
    have hl0 : (rawL (setTo L o q 0).1) = [] := rfl
    have hs0 : (setTo L o q 0).2 = (n == 0) := by show decide (q = 0) = _; exact HZ.out
    rw [hl0, hs0] at hq0
    by_cases hz : n = 0
    · have hzb : (n == 0) = true := by simpa using hz
      have HW : Hid (rawL (setL L o q) = []) := by show _ = _; rw [hq0, hzb]; rfl
      clear hz hq0 hl0 hs0 HZ
      go_enter Try.func161, Try.ntmps161
      go_wp2_with fail
      refine wp_loop_rounds 1 ?_
      rw [rounds_succ]
      go_wp2_with fail
      go_ret
      refine ⟨_, rfl, ?_, by go_grown⟩
      rw [HW.out]
      exact ⟨rfl, .inr ⟨w.heap.size + 1, 0, #[], rfl, by omega, by have := Blk.new (w.alloc (.cells #[.int .i64 n, .int .i64 d] 31)) 104 #[]; rw [World.size_alloc] at this; exact this, Nat.le_refl _, by unfold maxLen; omega, rfl, rfl⟩⟩
    · have hzb : (n == 0) = false := by simpa using hz
      have HW : Hid (rawL (setL L o q) = [(o, n, d)]) := by show _ = _; rw [hq0, hzb]; rfl
      have hown : ((w.alloc (.cells #[.int .i64 n, .int .i64 d] 31)).alloc (.cells #[] 104)).ownsRow (w.heap.size + 1) 104 3 (.slice (some ⟨w.heap.size + 1, 0, none⟩) 0 0) 0 (valsH []) := ⟨rfl, .inr ⟨w.heap.size + 1, 0, #[], rfl, by omega, by have := Blk.new (w.alloc (.cells #[.int .i64 n, .int .i64 d] 31)) 104 #[]; rw [World.size_alloc] at this; exact this, Nat.le_refl _, by unfold maxLen; omega, rfl, rfl⟩⟩
      have HO := Lib.hid hown
      clear hz hq0 hl0 hs0 HZ hown
      go_enter Try.func161, Try.ntmps161
      go_wp2_with fail
      refine wp_loop_rounds 1 ?_
      rw [rounds_succ]
      go_wp2_with (first | (at_builtin; refine wpList_append_own _ rfl (.tmp 53) (.tmp 57) _ rfl (w.heap.size + 1) 104 i0 _ 3 24 Try.underlying62 hi0 hz0 hz1 hz2 rfl (by decide) _ _ (valsH []) rfl (HO.out.alloc _) ⟨w.heap.size + 2, 0, none⟩ 1 1 [.int .i64 o, .int .i64 n, .int .i64 d] rfl rfl (by have := new_cells ((w.alloc (.cells #[.int .i64 n, .int .i64 d] 31)).alloc (.cells #[] 104)) [.int .i64 o, .int .i64 n, .int .i64 d] 104; rw [World.size_alloc, World.size_alloc] at this; exact this) (vals_one [(o, n, d)]) (by unfold maxLen; omega) (by omega) (by simp <;> omega) ?_; intro v3 w3 h3 g3 n3))
      have O3 : OwnH w3 (w.heap.size + 1) v3 ([] ++ [(o, n, d)]) := own_snoc h3
      go_ret
      exact ⟨v3, rfl, by rw [HW.out]; exact own_base O3, ((((Below.refl _ _).alloc (Nat.le_refl _) _).alloc (by simp) _).alloc (by simp; omega) _).grown g3 (by simp; omega) (fun q hq => by have e : w.heap.size + 1 = q := Option.some.inj hq; omega)⟩
  · have HC := Lib.hid hc
    have HS := Lib.hid hhs
    clear hc hhs hq
    go_enter Try.func161, Try.ntmps161
    go_wp2_with fail
    go_loopw [7, 8, 9] (fun v b i wr => ∃ k : Nat, i = .int .i64 k ∧ b = .bool (setTo L o q k).2 ∧ k ≤ hs.length ∧ OwnH wr (w.heap.size + 1) v (rawL (setTo L o q k).1) ∧ Blk wr w.heap.size 31 #[.int .i64 n, .int .i64 d] ∧ Below w.heap.size w wr ∧ w.heap.size + 2 ≤ wr.heap.size) (fun _ _ i _ => hs.length - (intOf i).toNat)
    case atStart => exact ⟨0, rfl, by show _ = Value.bool (decide (q = 0)); rw [HZ.out], Nat.zero_le _, ⟨rfl, .inr ⟨w.heap.size + 1, 0, #[], rfl, Nat.le_refl _, by have := Blk.new (w.alloc (.cells #[.int .i64 n, .int .i64 d] 31)) 104 #[]; rw [World.size_alloc] at this; exact this, Nat.le_refl _, by unfold maxLen; omega, rfl, rfl⟩⟩, (Blk.new _ _ _).alloc _, by go_grown, by simp⟩
    case round =>
      obtain ⟨k, rfl, rfl, hk, hown, hS, hB, hsz⟩ := hrel
      unfold OwnH at hown
      obtain ⟨c, hcc⟩ : ∃ c, (setTo L o q k).2 = c := ⟨_, rfl⟩
      have hal := HLn.out k hk
      by_cases hlt : k < hs.length
      · obtain ⟨c0, c1, c2⟩ := cells_at HC.out hB hlt
        have ht := fun x xn xd => setTo_raw HS.out HQ.out o hlt hcc (x := x) (xn := xn) (xd := xd)
        obtain ⟨hh, hhe⟩ : ∃ hh, hs.getD k hd0 = hh := ⟨_, rfl⟩
        obtain ⟨x, xn, xd⟩ := hh
        rw [hhe] at c0 c1 c2
        dsimp only at c0 c1 c2
        have ht := ht x xn xd hhe
        rw [hcc]
        generalize rawL (setTo L o q k).1 = A at hown hal ht
        obtain ⟨t0, t1, t2, t3, t4⟩ := blk_two hS
        have HH := Lib.hid hhe
        clear hcc hhe
        by_cases hp : (!c && decide (o ≤ x)) = true
        · rw [if_pos hp] at ht
          simp only [Bool.and_eq_true, Bool.not_eq_true', decide_eq_true_eq] at hp
          obtain ⟨rfl, hox⟩ := hp
          by_cases hx : x = o
          · rw [if_neg (fun e => e hx)] at ht
            have HT := Lib.hid ht
            have hxb : (x == o) = true := by simpa using hx
            have hxn : (x != o) = false := by simp [hx]
            clear ht hx
            go_wp2_with (first | (at_builtin; refine wpList_append_own _ rfl (.tmp 31) (.tmp 35) _ rfl (w.heap.size + 1) 104 i0 _ 3 24 Try.underlying62 hi0 hz0 hz1 hz2 rfl (by decide) _ _ (valsH A) rfl (hown.alloc _) ⟨wr.heap.size, 0, none⟩ 1 1 [.int .i64 o, .int .i64 n, .int .i64 d] rfl rfl (new_cells wr _ _) (vals_one [(o, n, d)]) (by unfold maxLen; omega) (by omega) (by simp; omega) ?_; intro v2 w2 h2 g2 n2; have O2 : OwnH w2 (w.heap.size + 1) v2 (A ++ [(o, n, d)]) := own_snoc h2; have B2 : Below w.heap.size w w2 := (hB.alloc hB.size _).grown g2 (by simp; omega) (fun q hq => by have := (hown.lt q hq).1; omega); have S2 : Blk w2 w.heap.size 31 #[.int .i64 n, .int .i64 d] := (hS.alloc _).grown g2 (fun e => by have := (hown.lt _ e.symm).1; omega); have Z2 : (A ++ [(o, n, d)]).length ≤ 2 * k + 1 := (by rw [List.length_append]; simp; omega); have z2 : w.heap.size + 2 ≤ w2.heap.size := (by have := g2.size; simp at this; omega); obtain ⟨c0, c1, c2⟩ := cells_at HC.out B2 hlt; rw [HH.out] at c0 c1 c2; dsimp only at c0 c1 c2; clear h2 g2 n2; unfold OwnH at O2))
            go_roundw
            case rel => exact ⟨k + 1, by go_num, by rw [HT.out.2]; first | rfl | (simp; omega) | simp [hox], by omega, by rw [HT.out.1]; simp only [List.append_nil, List.nil_append, ← List.append_assoc]; exact O2, S2, B2, z2⟩
            case measure => simp [intOf]; omega
          · rw [if_pos hx] at ht
            have HT := Lib.hid ht
            have hxb : (x == o) = false := by simpa using hx
            have hxn : (x != o) = true := by simp [hx]
            clear ht hx
            go_wp2_with (first | (at_builtin; refine wpList_append_own _ rfl (.tmp 31) (.tmp 35) _ rfl (w.heap.size + 1) 104 i0 _ 3 24 Try.underlying62 hi0 hz0 hz1 hz2 rfl (by decide) _ _ (valsH A) rfl (hown.alloc _) ⟨wr.heap.size, 0, none⟩ 1 1 [.int .i64 o, .int .i64 n, .int .i64 d] rfl rfl (new_cells wr _ _) (vals_one [(o, n, d)]) (by unfold maxLen; omega) (by omega) (by simp; omega) ?_; intro v2 w2 h2 g2 n2; have O2 : OwnH w2 (w.heap.size + 1) v2 (A ++ [(o, n, d)]) := own_snoc h2; have B2 : Below w.heap.size w w2 := (hB.alloc hB.size _).grown g2 (by simp; omega) (fun q hq => by have := (hown.lt q hq).1; omega); have S2 : Blk w2 w.heap.size 31 #[.int .i64 n, .int .i64 d] := (hS.alloc _).grown g2 (fun e => by have := (hown.lt _ e.symm).1; omega); have Z2 : (A ++ [(o, n, d)]).length ≤ 2 * k + 1 := (by rw [List.length_append]; simp; omega); have z2 : w.heap.size + 2 ≤ w2.heap.size := (by have := g2.size; simp at this; omega); obtain ⟨c0, c1, c2⟩ := cells_at HC.out B2 hlt; rw [HH.out] at c0 c1 c2; dsimp only at c0 c1 c2; clear h2 g2 n2; unfold OwnH at O2) | (at_builtin; refine wpList_append_own _ rfl (.tmp 44) (.tmp 49) _ rfl (w.heap.size + 1) 104 i0 _ 3 24 Try.underlying62 hi0 hz0 hz1 hz2 rfl (by decide) v2 _ (valsH (A ++ [(o, n, d)])) rfl (O2.alloc _) ⟨w2.heap.size, 0, none⟩ 1 1 [.int .i64 x, .int .i64 xn, .int .i64 xd] rfl rfl (new_cells w2 _ _) (vals_one [(x, xn, xd)]) (by unfold maxLen; omega) (by omega) (by simp; omega) ?_; intro v3 w3 h3 g3 n3))
            have O3 : OwnH w3 (w.heap.size + 1) v3 ((A ++ [(o, n, d)]) ++ [(x, xn, xd)]) := own_snoc h3
            have B3 : Below w.heap.size w w3 := (B2.alloc B2.size _).grown g3 (by simp; omega) (fun q hq => by have := (O2.lt q hq).1; omega)
            have S3 : Blk w3 w.heap.size 31 #[.int .i64 n, .int .i64 d] := (S2.alloc _).grown g3 (fun e => by have := (O2.lt _ e.symm).1; omega)
            have z3 : w.heap.size + 2 ≤ w3.heap.size := (by have := g3.size; simp at this; omega)
            go_roundw
            case rel => exact ⟨k + 1, by go_num, by rw [HT.out.2]; first | rfl | (simp; omega) | simp [hox], by omega, by rw [HT.out.1]; simp only [List.append_nil, List.nil_append, ← List.append_assoc]; exact O3, S3, B3, z3⟩
            case measure => simp [intOf]; omega
        · rw [if_neg hp] at ht
          have hp2 : c = true ∨ ¬ o ≤ x := by
            cases c with
            | true => exact .inl rfl
            | false => right; simpa using hp
          clear hp
          by_cases hx : x = o
          · rw [if_neg (fun e => e hx)] at ht
            have HT := Lib.hid ht
            have hxb : (x == o) = true := by simpa using hx
            have hxn : (x != o) = false := by simp [hx]
            have hc1 : c = true := by rcases hp2 with h | h; exact h; exact absurd (by omega) h
            subst hc1
            clear ht hx hp2
            go_wp2_with fail
            go_roundw
            case rel => exact ⟨k + 1, by go_num, by rw [HT.out.2]; first | rfl | (simp; omega) | simp [hox], by omega, by rw [HT.out.1]; simp only [List.append_nil, List.nil_append, ← List.append_assoc]; exact hown, hS, hB, hsz⟩
            case measure => simp [intOf]; omega
          · rw [if_pos hx] at ht
            have HT := Lib.hid ht
            have hxb : (x == o) = false := by simpa using hx
            have hxn : (x != o) = true := by simp [hx]
            clear ht hx
            rcases hp2 with hp2 | hp2
            · subst hp2
              go_wp2_with (first | (at_builtin; refine wpList_append_own _ rfl (.tmp 44) (.tmp 49) _ rfl (w.heap.size + 1) 104 i0 _ 3 24 Try.underlying62 hi0 hz0 hz1 hz2 rfl (by decide) _ _ (valsH A) rfl (hown.alloc _) ⟨wr.heap.size, 0, none⟩ 1 1 [.int .i64 x, .int .i64 xn, .int .i64 xd] rfl rfl (new_cells wr _ _) (vals_one [(x, xn, xd)]) (by unfold maxLen; omega) (by omega) (by simp; omega) ?_; intro v3 w3 h3 g3 n3))
              have O3 : OwnH w3 (w.heap.size + 1) v3 (A ++ [(x, xn, xd)]) := own_snoc h3
              have B3 : Below w.heap.size w w3 := (hB.alloc hB.size _).grown g3 (by simp; omega) (fun q hq => by have := (hown.lt q hq).1; omega)
              have S3 : Blk w3 w.heap.size 31 #[.int .i64 n, .int .i64 d] := (hS.alloc _).grown g3 (fun e => by have := (hown.lt _ e.symm).1; omega)
              have z3 : w.heap.size + 2 ≤ w3.heap.size := (by have := g3.size; simp at this; omega)
              go_roundw
              case rel => exact ⟨k + 1, by go_num, by rw [HT.out.2]; first | rfl | (simp; omega) | simp [hox], by omega, by rw [HT.out.1]; simp only [List.append_nil, List.nil_append, ← List.append_assoc]; exact O3, S3, B3, z3⟩
              case measure => simp [intOf]; omega
            · have hox : decide (o ≤ x) = false := by simpa using hp2
              cases c with
              | false =>
                go_wp2_with (first | (at_builtin; refine wpList_append_own _ rfl (.tmp 44) (.tmp 49) _ rfl (w.heap.size + 1) 104 i0 _ 3 24 Try.underlying62 hi0 hz0 hz1 hz2 rfl (by decide) _ _ (valsH A) rfl (hown.alloc _) ⟨wr.heap.size, 0, none⟩ 1 1 [.int .i64 x, .int .i64 xn, .int .i64 xd] rfl rfl (new_cells wr _ _) (vals_one [(x, xn, xd)]) (by unfold maxLen; omega) (by omega) (by simp; omega) ?_; intro v3 w3 h3 g3 n3))
                have O3 : OwnH w3 (w.heap.size + 1) v3 (A ++ [(x, xn, xd)]) := own_snoc h3
                have B3 : Below w.heap.size w w3 := (hB.alloc hB.size _).grown g3 (by simp; omega) (fun q hq => by have := (hown.lt q hq).1; omega)
                have S3 : Blk w3 w.heap.size 31 #[.int .i64 n, .int .i64 d] := (hS.alloc _).grown g3 (fun e => by have := (hown.lt _ e.symm).1; omega)
                have z3 : w.heap.size + 2 ≤ w3.heap.size := (by have := g3.size; simp at this; omega)
                go_roundw
                case rel => exact ⟨k + 1, by go_num, by rw [HT.out.2]; first | rfl | (simp; omega) | simp [hox], by omega, by rw [HT.out.1]; simp only [List.append_nil, List.nil_append, ← List.append_assoc]; exact O3, S3, B3, z3⟩
                case measure => simp [intOf]; omega
              | true =>
                go_wp2_with (first | (at_builtin; refine wpList_append_own _ rfl (.tmp 44) (.tmp 49) _ rfl (w.heap.size + 1) 104 i0 _ 3 24 Try.underlying62 hi0 hz0 hz1 hz2 rfl (by decide) _ _ (valsH A) rfl (hown.alloc _) ⟨wr.heap.size, 0, none⟩ 1 1 [.int .i64 x, .int .i64 xn, .int .i64 xd] rfl rfl (new_cells wr _ _) (vals_one [(x, xn, xd)]) (by unfold maxLen; omega) (by omega) (by simp; omega) ?_; intro v3 w3 h3 g3 n3))
                have O3 : OwnH w3 (w.heap.size + 1) v3 (A ++ [(x, xn, xd)]) := own_snoc h3
                have B3 : Below w.heap.size w w3 := (hB.alloc hB.size _).grown g3 (by simp; omega) (fun q hq => by have := (hown.lt q hq).1; omega)
                have S3 : Blk w3 w.heap.size 31 #[.int .i64 n, .int .i64 d] := (hS.alloc _).grown g3 (fun e => by have := (hown.lt _ e.symm).1; omega)
                have z3 : w.heap.size + 2 ≤ w3.heap.size := (by have := g3.size; simp at this; omega)
                go_roundw
                case rel => exact ⟨k + 1, by go_num, by rw [HT.out.2]; first | rfl | (simp; omega) | simp [hox], by omega, by rw [HT.out.1]; simp only [List.append_nil, List.nil_append, ← List.append_assoc]; exact O3, S3, B3, z3⟩
                case measure => simp [intOf]; omega
      · obtain rfl : hs.length = k := by omega
        have he := HE.out
        rw [hcc] at he ⊢
        generalize rawL (setTo L o q hs.length).1 = A at hown hal he
        obtain ⟨t0, t1, t2, t3, t4⟩ := blk_two hS
        clear hcc
        cases c with
        | true =>
          have HW : Hid (rawL (setL L o q) = A) := by show _ = _; rw [he]; simp
          clear he
          go_wp2_with fail
          go_ret
          refine ⟨_, rfl, ?_, hB⟩
          rw [HW.out]
          exact own_base hown
        | false =>
          have HW : Hid (rawL (setL L o q) = A ++ [(o, n, d)]) := he
          clear he
          go_wp2_with (first | (at_builtin; refine wpList_append_own _ rfl (.tmp 53) (.tmp 57) _ rfl (w.heap.size + 1) 104 i0 _ 3 24 Try.underlying62 hi0 hz0 hz1 hz2 rfl (by decide) _ _ (valsH A) rfl (hown.alloc _) ⟨wr.heap.size, 0, none⟩ 1 1 [.int .i64 o, .int .i64 n, .int .i64 d] rfl rfl (new_cells wr _ _) (vals_one [(o, n, d)]) (by unfold maxLen; omega) (by omega) (by simp; omega) ?_; intro v3 w3 h3 g3 n3))
          have O3 : OwnH w3 (w.heap.size + 1) v3 (A ++ [(o, n, d)]) := own_snoc h3
          go_ret
          exact ⟨v3, rfl, by rw [HW.out]; exact own_base O3, (hB.alloc hB.size _).grown g3 (by simp; omega) (fun q hq => by have := (hown.lt q hq).1; omega)⟩
end Go.Proofs.Ytgmmdpdlekpmfac
namespace Go.Proofs.Ytgmmdpdlekpmfac
open Go.RowKit

def ShareV (w : World) (hs : List Hd) (o : Int) (e : Ending) (w' : World) : Prop := e = .returned (.agg #[.int .i64 (shR hs o).1, .int .i64 (shR hs o).2]) ∧ Below w.heap.size w w'
theorem shR_hit {hs : List Hd} {o : Int} {k : Nat} (hk : k < hs.length) (h : ∀ j, j < k → (hs.getD j hd0).1 ≠ o) {n d : Int} (he : hs.getD k hd0 = (o, n, d)) : shR hs o = (n, d) := by
  rw [shR_at hk h (by rw [he]), he]

set_option maxHeartbeats 1000000 in
theorem ishare (a : Option Addr) (cap : Nat) (hs : List Hd) (o : Int) (w : World) (h : IsHs w a hs) (hn : hs.length ≤ 1048576) :
    Calls Try.prog 78 #[.slice a hs.length cap, .int .i64 o] w (ShareV w hs o) := by
  rcases h with rfl | ⟨g, off, rfl, hc⟩
  · go_enter Try.func78, Try.ntmps78
    go_wp2_with fail
    refine wp_loop_rounds 1 ?_
    rw [rounds_succ]
    go_wp2_with fail
    refine (inoShare _).mono ?_
    rintro e w1 ⟨rfl, hb⟩
    obtain ⟨t0, t1, t2, t3, t4⟩ := blk_two ((Blk.new w 31 #[.int .i64 0, .int .i64 0]).next hb)
    have hB := bel_tr ((Below.refl w.heap.size w).alloc (Nat.le_refl _) _) hb
    clear hb
    go_wp2_with fail
    exact bodyPost_ret (v := .agg #[.int .i64 0, .int .i64 1]) (by simp [results, Try.results78, go_sem, t0, t1]) rfl ⟨rfl, (hB.setCell (by simp) _).setCell (by simp) _⟩
  · have HC := Lib.hid hc
    clear hc
    go_enter Try.func78, Try.ntmps78
    go_wp2_with fail
    go_loopw [9] (fun i wr => ∃ k : Nat, k ≤ hs.length ∧ i = .int .i64 k ∧ Hid (∀ j, j < k → (hs.getD j hd0).1 ≠ o) ∧ Blk wr w.heap.size 31 #[.int .i64 0, .int .i64 0] ∧ Below w.heap.size w wr) (fun i _ => hs.length - (intOf i).toNat)
    case atStart => exact ⟨0, Nat.zero_le _, rfl, fun j hj => by omega, Blk.new _ _ _, by go_grown⟩
    case round =>
      obtain ⟨k, hk, rfl, HK, hS, hB⟩ := hrel
      by_cases hlt : k < hs.length
      · obtain ⟨c0, c1, c2⟩ := cells_at HC.out hB hlt
        have hy : (hs.getD k hd0).1 ≠ o → ∀ j, j < k + 1 → (hs.getD j hd0).1 ≠ o := fun e j hj => by
          by_cases ej : j = k
          · subst ej; exact e
          · exact HK.out j (by omega)
        have hh2 : ∀ n d : Int, hs.getD k hd0 = (o, n, d) → shR hs o = (n, d) := fun n d e => shR_hit hlt HK.out e
        generalize hs.getD k hd0 = hh at c0 c1 c2 hy hh2
        obtain ⟨x, n, d⟩ := hh
        dsimp only at c0 c1 c2 hy
        obtain ⟨t0, t1, t2, t3, t4⟩ := blk_two hS
        have HY := Lib.hid hy
        have HH := Lib.hid hh2
        have HS := Lib.hid hS
        have HB := Lib.hid hB
        clear hy hh2 hS hB
        by_cases hx : x = o
        · have e : (x == o) = true := by simpa using hx
          have HR : Hid (shR hs o = (n, d)) := HH.out n d (by rw [hx])
          clear hx
          go_wp2_with fail
          exact bodyPost_ret (v := .agg #[.int .i64 n, .int .i64 d]) (by simp [results, Try.results78, go_sem, t0, t1, t4]) rfl ⟨by rw [HR.out], (((HB.out.setCell (by simp) _).setCell (by simp) _).alloc (by simpa using HB.out.size) _)⟩
        · have e : (x == o) = false := by simpa using hx
          go_wp2_with fail
          go_roundw
          case rel => exact ⟨k + 1, by omega, by go_num, HY.out hx, HS.out.alloc _, HB.out.alloc HB.out.size _⟩
          case measure => simp [intOf]; omega
      · have HN : Hid (shR hs o = (0, 1)) := shR_none (fun j hj => HK.out j (by omega))
        obtain ⟨t0, t1, t2, t3, t4⟩ := blk_two hS
        go_wp2_with fail
        refine (inoShare _).mono ?_
        rintro e w1 ⟨rfl, hb⟩
        obtain ⟨t0, t1, t2, t3, t4⟩ := blk_two (hS.next hb)
        have hB1 := bel_tr hB hb
        clear hb hS
        go_wp2_with fail
        exact bodyPost_ret (v := .agg #[.int .i64 0, .int .i64 1]) (by simp [results, Try.results78, go_sem, t0, t1]) rfl ⟨by rw [HN.out], (hB1.setCell (by simp) _).setCell (by simp) _⟩
set_option maxHeartbeats 1000000 in
theorem sshare (a : Option Addr) (cap : Nat) (hs : List Hd) (o : Int) (w : World) (h : IsHs w a hs) (hn : hs.length ≤ 1048576) :
    Calls Try.prog 113 #[.slice a hs.length cap, .int .i64 o] w (ShareV w hs o) := by
  rcases h with rfl | ⟨g, off, rfl, hc⟩
  · go_enter Try.func113, Try.ntmps113
    go_wp2_with fail
    refine wp_loop_rounds 1 ?_
    rw [rounds_succ]
    go_wp2_with fail
    exact bodyPost_ret (v := .agg #[.int .i64 0, .int .i64 1]) (by simp [results, Try.results113, go_sem]) rfl ⟨rfl, by go_grown⟩
  · have HC := Lib.hid hc
    clear hc
    go_enter Try.func113, Try.ntmps113
    go_wp2_with fail
    go_loopw [5] (fun i wr => ∃ k : Nat, k ≤ hs.length ∧ i = .int .i64 k ∧ Hid (∀ j, j < k → (hs.getD j hd0).1 ≠ o) ∧ Blk wr w.heap.size 31 #[.int .i64 0, .int .i64 0] ∧ Below w.heap.size w wr) (fun i _ => hs.length - (intOf i).toNat)
    case atStart => exact ⟨0, Nat.zero_le _, rfl, fun j hj => by omega, Blk.new _ _ _, by go_grown⟩
    case round =>
      obtain ⟨k, hk, rfl, HK, hS, hB⟩ := hrel
      by_cases hlt : k < hs.length
      · obtain ⟨c0, c1, c2⟩ := cells_at HC.out hB hlt
        have hy : (hs.getD k hd0).1 ≠ o → ∀ j, j < k + 1 → (hs.getD j hd0).1 ≠ o := fun e j hj => by
          by_cases ej : j = k
          · subst ej; exact e
          · exact HK.out j (by omega)
        have hh2 : ∀ n d : Int, hs.getD k hd0 = (o, n, d) → shR hs o = (n, d) := fun n d e => shR_hit hlt HK.out e
        generalize hs.getD k hd0 = hh at c0 c1 c2 hy hh2
        obtain ⟨x, n, d⟩ := hh
        dsimp only at c0 c1 c2 hy
        obtain ⟨t0, t1, t2, t3, t4⟩ := blk_two hS
        have HY := Lib.hid hy
        have HH := Lib.hid hh2
        have HS := Lib.hid hS
        have HB := Lib.hid hB
        clear hy hh2 hS hB
        by_cases hx : x = o
        · have e : (x == o) = true := by simpa using hx
          have HR : Hid (shR hs o = (n, d)) := HH.out n d (by rw [hx])
          clear hx
          go_wp2_with fail
          exact bodyPost_ret (v := .agg #[.int .i64 n, .int .i64 d]) (by simp [results, Try.results113, go_sem, t0, t1]) rfl ⟨by rw [HR.out], ((HB.out.setCell (by simp) _).setCell (by simp) _)⟩
        · have e : (x == o) = false := by simpa using hx
          go_wp2_with fail
          go_roundw
          case rel => exact ⟨k + 1, by omega, by go_num, HY.out hx, HS.out, HB.out⟩
          case measure => simp [intOf]; omega
      · have HN : Hid (shR hs o = (0, 1)) := shR_none (fun j hj => HK.out j (by omega))
        obtain ⟨t0, t1, t2, t3, t4⟩ := blk_two hS
        go_wp2_with fail
        exact bodyPost_ret (v := .agg #[.int .i64 0, .int .i64 1]) (by simp [results, Try.results113, go_sem, t0, t1]) rfl ⟨by rw [HN.out], (hB.setCell (by simp) _).setCell (by simp) _⟩
end Go.Proofs.Ytgmmdpdlekpmfac
namespace Go.Proofs.Ytgmmdpdlekpmfac
open Go.RowKit

def shV (hs : List Hd) (o : Int) : Int × Int := if vlR hs then shR hs o else (0, 0)
def ShareO (w : World) (hs : List Hd) (o : Int) (e : Ending) (w' : World) : Prop := e = .returned (.agg #[.int .i64 (shV hs o).1, .int .i64 (shV hs o).2]) ∧ Below w.heap.size w w'
end Go.Proofs.Ytgmmdpdlekpmfac
namespace Go.Proofs.Ytgmmdpdlekpmfac
open Go.RowKit

theorem iAddB {an ad bn bd x y : Int} {b : Bool} (w : World) (hb : (Wsh.vfB an ad && Wsh.vfB bn bd && Wsh.redB (an * bd + bn * ad) (ad * bd)) = b) (hx : Wsh.rn (an * bd + bn * ad) (ad * bd) = x) (hy : Wsh.rd (an * bd + bn * ad) (ad * bd) = y) :
    Calls Try.prog 83 #[.agg #[.int .i64 an, .int .i64 ad], .agg #[.int .i64 bn, .int .i64 bd]] w fun e w' => e = .returned (.tuple #[.agg #[.int .i64 (Wsh.qn b x), .int .i64 (Wsh.qn b y)], .bool b]) ∧ Below w.heap.size w w' := by
  have := iAdd an ad bn bd w
  rw [hb, hx, hy] at this; exact this
/-- shares of L, as fractions -/
theorem sub_led {L : Led} (hf : ∀ x ∈ L, frB x.2 = true) (o : Int) {p : Rat} (hp : frB p = true) :
    (Wsh.vfB (shareL L o).num ((shareL L o).den : Int) && Wsh.vfB p.num (p.den : Int) && Wsh.redB ((shareL L o).num * (p.den : Int) - p.num * ((shareL L o).den : Int)) (((shareL L o).den : Int) * (p.den : Int))) = frB (shareL L o - p) ∧
    Wsh.rn ((shareL L o).num * (p.den : Int) - p.num * ((shareL L o).den : Int)) (((shareL L o).den : Int) * (p.den : Int)) = (shareL L o - p).num ∧ Wsh.rd ((shareL L o).num * (p.den : Int) - p.num * ((shareL L o).den : Int)) (((shareL L o).den : Int) * (p.den : Int)) = ((shareL L o - p).den : Int) := by
  obtain ⟨a, b, c⟩ := sub_red (shareL L o) p
  exact ⟨by rw [q_vf (share_frA hf o), q_vf hp, a]; rfl, b, c⟩
theorem add_led {L : Led} (hf : ∀ x ∈ L, frB x.2 = true) (o : Int) {p : Rat} (hp : frB p = true) :
    (Wsh.vfB (shareL L o).num ((shareL L o).den : Int) && Wsh.vfB p.num (p.den : Int) && Wsh.redB ((shareL L o).num * (p.den : Int) + p.num * ((shareL L o).den : Int)) (((shareL L o).den : Int) * (p.den : Int))) = frB (shareL L o + p) ∧
    Wsh.rn ((shareL L o).num * (p.den : Int) + p.num * ((shareL L o).den : Int)) (((shareL L o).den : Int) * (p.den : Int)) = (shareL L o + p).num ∧ Wsh.rd ((shareL L o).num * (p.den : Int) + p.num * ((shareL L o).den : Int)) (((shareL L o).den : Int) * (p.den : Int)) = ((shareL L o + p).den : Int) := by
  obtain ⟨a, b, c⟩ := add_red (shareL L o) p
  exact ⟨by rw [q_vf (share_frA hf o), q_vf hp, a]; rfl, b, c⟩
/-- the share of an owner of L -/
theorem ishareL (a : Option Addr) (cap : Nat) (L : Led) (hs : List Hd) (o : Int) (w : World) (h : IsHs w a hs) (hh : hs = rawL L) (hn : hs.length ≤ 1048576) :
    Calls Try.prog 78 #[.slice a hs.length cap, .int .i64 o] w fun e w' => e = .returned (.agg #[.int .i64 (shareL L o).num, .int .i64 ((shareL L o).den : Int)]) ∧ Below w.heap.size w w' := by
  have := ishare a cap hs o w h hn
  unfold ShareV at this
  rw [hh, shR_raw] at this
  rw [hh]
  exact this

theorem keepM {w W wq : World} {x y : Value} (hb : Below W.heap.size W wq) (h : W.cell? ⟨w.heap.size, 0, none⟩ = some x ∧ W.cell? ⟨w.heap.size, 1, none⟩ = some y ∧ Below w.heap.size w W) : wq.cell? ⟨w.heap.size, 0, none⟩ = some x ∧ wq.cell? ⟨w.heap.size, 1, none⟩ = some y ∧ Below w.heap.size w wq :=
  ⟨(hb.cell (World.block_lt_of_cell? W _ h.1)).trans h.1, (hb.cell (World.block_lt_of_cell? W _ h.2.1)).trans h.2.1, bel_tr h.2.2 hb⟩
theorem keepMset {w W : World} {x y u v : Value} {b : Nat} (h : W.cell? ⟨w.heap.size, 0, none⟩ = some x ∧ W.cell? ⟨w.heap.size, 1, none⟩ = some y ∧ Below w.heap.size w W) (hlt : w.heap.size < b) : ((W.setCell ⟨b, 0, none⟩ u).setCell ⟨b, 1, none⟩ v).cell? ⟨w.heap.size, 0, none⟩ = some x ∧ ((W.setCell ⟨b, 0, none⟩ u).setCell ⟨b, 1, none⟩ v).cell? ⟨w.heap.size, 1, none⟩ = some y ∧ Below w.heap.size w ((W.setCell ⟨b, 0, none⟩ u).setCell ⟨b, 1, none⟩ v) := by
  have hq : ∀ (V : World) (k l : Nat) (z : Value), (V.setCell ⟨b, k, none⟩ z).cell? ⟨w.heap.size, l, none⟩ = V.cell? ⟨w.heap.size, l, none⟩ := fun V k l z => World.cell?_setCell_other V _ _ z (fun e => by injection e with e; omega)
  exact ⟨by rw [hq, hq]; exact h.1, by rw [hq, hq]; exact h.2.1, (h.2.2.setCell (Nat.le_of_lt hlt) _).setCell (Nat.le_of_lt hlt) _⟩

theorem keepMR {w W : World} {x y : Value} {o o' : Obj} (h : (W.alloc o).cell? ⟨w.heap.size, 0, none⟩ = some x ∧ (W.alloc o).cell? ⟨w.heap.size, 1, none⟩ = some y ∧ Below w.heap.size w (W.alloc o)) (hB : Below w.heap.size w W) (hlt : w.heap.size < W.heap.size) : (W.alloc o').cell? ⟨w.heap.size, 0, none⟩ = some x ∧ (W.alloc o').cell? ⟨w.heap.size, 1, none⟩ = some y ∧ Below w.heap.size w (W.alloc o') := by
  have e : ∀ (l : Nat) (o : Obj), (W.alloc o).cell? ⟨w.heap.size, l, none⟩ = W.cell? ⟨w.heap.size, l, none⟩ := fun l o => World.cell?_alloc_lt W o ⟨w.heap.size, l, none⟩ hlt
  rw [e, e] at h
  exact ⟨by rw [e]; exact h.1, by rw [e]; exact h.2.1, hB.alloc (Nat.le_of_lt hlt) _⟩

theorem blk_second (w : World) (o : Obj) (t : TypeId) (cs : Array Value) : Blk ((w.alloc o).alloc (.cells cs t)) (w.heap.size + 1) t cs := by
  have := Blk.new (w.alloc o) t cs
  rw [World.size_alloc] at this
  exact this
/-- what is left, or nothing -/
def MoveV (w : World) (b : Bool) (L : Led) (e : Ending) (w' : World) : Prop := ∃ v, e = .returned (.tuple #[v, .bool b]) ∧ (b = false → v = .slice none 0 0) ∧ (b = true → OwnH w' w.heap.size v (rawL L)) ∧ Below w.heap.size w w'
theorem own_le {w : World} {base base' : Nat} {v : Value} {hs : List Hd} (h : OwnH w base' v hs) (hb : base ≤ base') : OwnH w base v hs := by
  refine ⟨h.1, ?_⟩
  rcases h.2 with h | ⟨g, cap, cur, a, b, c⟩
  · exact .inl h
  · exact .inr ⟨g, cap, cur, a, Nat.le_trans hb b, c⟩
theorem own_hs2 {w : World} {base : Nat} {v : Value} {hs : List Hd} (h : OwnH w base v hs) : ∃ (b : Option Addr) (cap : Nat), v = .slice b hs.length cap ∧ IsHs w b hs ∧ hs.length ≤ cap := by
  have h0 := h
  rcases h.2 with ⟨hv, hn⟩ | ⟨g, cap, cur, hv, _, _, hnc, _⟩
  · exact ⟨none, 0, by rw [hv, hn], .inl (List.eq_nil_of_length_eq_zero hn), by omega⟩
  · subst hv
    exact ⟨some ⟨g, 0, none⟩, cap, rfl, reads_hs (Reads.of_own h0) (fun ad e => by injection e with e; rw [← e]), hnc⟩

theorem keepN {w W wq : World} {x y u v : Value} {k : Nat} (hb : Below W.heap.size W wq) (h : W.cell? ⟨w.heap.size, 0, none⟩ = some x ∧ W.cell? ⟨w.heap.size, 1, none⟩ = some y ∧ W.cell? ⟨k, 0, none⟩ = some u ∧ W.cell? ⟨k, 1, none⟩ = some v ∧ Below w.heap.size w W) : wq.cell? ⟨w.heap.size, 0, none⟩ = some x ∧ wq.cell? ⟨w.heap.size, 1, none⟩ = some y ∧ wq.cell? ⟨k, 0, none⟩ = some u ∧ wq.cell? ⟨k, 1, none⟩ = some v ∧ Below w.heap.size w wq := by
  have n : ∀ {p : Addr} {v : Value}, W.cell? p = some v → wq.cell? p = some v := fun h => (hb.cell (World.block_lt_of_cell? W _ h)).trans h
  exact ⟨n h.1, n h.2.1, n h.2.2.1, n h.2.2.2.1, bel_tr h.2.2.2.2 hb⟩
theorem keepNb {w W : World} {x y u v : Value} {k : Nat} (h : W.cell? ⟨w.heap.size, 0, none⟩ = some x ∧ W.cell? ⟨w.heap.size, 1, none⟩ = some y ∧ W.cell? ⟨k, 0, none⟩ = some u ∧ W.cell? ⟨k, 1, none⟩ = some v ∧ Below w.heap.size w W) : Below w.heap.size w W := h.2.2.2.2

end Go.Proofs.Ytgmmdpdlekpmfac
namespace Go.Proofs.Ytgmmdpdlekpmfac
open Go.RowKit

theorem keepQ {W wq v : World} {x y : Value} {k : Nat} (hb : Below W.heap.size W wq) (h : W.cell? ⟨k, 0, none⟩ = some x ∧ W.cell? ⟨k, 1, none⟩ = some y ∧ Below v.heap.size v W) : wq.cell? ⟨k, 0, none⟩ = some x ∧ wq.cell? ⟨k, 1, none⟩ = some y ∧ Below v.heap.size v wq :=
  ⟨(hb.cell (World.block_lt_of_cell? W _ h.1)).trans h.1, (hb.cell (World.block_lt_of_cell? W _ h.2.1)).trans h.2.1, bel_tr h.2.2 hb⟩
theorem keepQset {W v : World} {x y u z : Value} {b k : Nat} (h : W.cell? ⟨k, 0, none⟩ = some x ∧ W.cell? ⟨k, 1, none⟩ = some y ∧ Below v.heap.size v W) (hlt : k < b) (hv : v.heap.size ≤ b) : ((W.setCell ⟨b, 0, none⟩ u).setCell ⟨b, 1, none⟩ z).cell? ⟨k, 0, none⟩ = some x ∧ ((W.setCell ⟨b, 0, none⟩ u).setCell ⟨b, 1, none⟩ z).cell? ⟨k, 1, none⟩ = some y ∧ Below v.heap.size v ((W.setCell ⟨b, 0, none⟩ u).setCell ⟨b, 1, none⟩ z) := by
  have hq : ∀ (V : World) (i l : Nat) (z : Value), (V.setCell ⟨b, i, none⟩ z).cell? ⟨k, l, none⟩ = V.cell? ⟨k, l, none⟩ := fun V i l z => World.cell?_setCell_other V _ _ z (fun e => by injection e with e; omega)
  exact ⟨by rw [hq, hq]; exact h.1, by rw [hq, hq]; exact h.2.1, (h.2.2.setCell hv _).setCell hv _⟩
theorem keepQR {W v : World} {x y : Value} {o o' : Obj} {k : Nat} (h : (W.alloc o).cell? ⟨k, 0, none⟩ = some x ∧ (W.alloc o).cell? ⟨k, 1, none⟩ = some y ∧ Below v.heap.size v (W.alloc o)) (hB : Below v.heap.size v W) (hk : k < v.heap.size) (hlt : v.heap.size ≤ W.heap.size) : (W.alloc o').cell? ⟨k, 0, none⟩ = some x ∧ (W.alloc o').cell? ⟨k, 1, none⟩ = some y ∧ Below v.heap.size v (W.alloc o') := by
  have e : ∀ (l : Nat) (o : Obj), (W.alloc o).cell? ⟨k, l, none⟩ = W.cell? ⟨k, l, none⟩ := fun l o => World.cell?_alloc_lt W o ⟨k, l, none⟩ (by show k < W.heap.size; omega)
  rw [e, e] at h
  exact ⟨by rw [e]; exact h.1, by rw [e]; exact h.2.1, hB.alloc hlt _⟩
theorem keepQR0 {v : World} {x y : Value} {o o' : Obj} {k : Nat} (hk : k < v.heap.size) (h : (v.alloc o).cell? ⟨k, 0, none⟩ = some x ∧ (v.alloc o).cell? ⟨k, 1, none⟩ = some y ∧ Below v.heap.size v (v.alloc o)) : (v.alloc o').cell? ⟨k, 0, none⟩ = some x ∧ (v.alloc o').cell? ⟨k, 1, none⟩ = some y ∧ Below v.heap.size v (v.alloc o') := keepQR h (Below.refl _ _) hk (Nat.le_refl _)
theorem own_next {w w' : World} {base : Nat} {v : Value} {hs : List Hd} (h : OwnH w base v hs) (hb : Below w.heap.size w w') : OwnH w' base v hs := by
  refine ⟨h.1, ?_⟩
  rcases h.2 with h | ⟨g, cap, cur, a, b, c, d⟩
  · exact .inl h
  · exact .inr ⟨g, cap, cur, a, b, (hb.block g (Blk.lt c)).trans c, d⟩
theorem keepV {w W wq : World} {p q r s : Addr} {x y u v : Value} (hb : Below W.heap.size W wq) (h : W.cell? p = some x ∧ W.cell? q = some y ∧ W.cell? r = some u ∧ W.cell? s = some v ∧ Below w.heap.size w W) : wq.cell? p = some x ∧ wq.cell? q = some y ∧ wq.cell? r = some u ∧ wq.cell? s = some v ∧ Below w.heap.size w wq := by
  have n : ∀ {p : Addr} {v : Value}, W.cell? p = some v → wq.cell? p = some v := fun h => (hb.cell (World.block_lt_of_cell? W _ h)).trans h
  exact ⟨n h.1, n h.2.1, n h.2.2.1, n h.2.2.2.1, bel_tr h.2.2.2.2 hb⟩
theorem keepVb {w W : World} {p q r s : Addr} {x y u v : Value} (h : W.cell? p = some x ∧ W.cell? q = some y ∧ W.cell? r = some u ∧ W.cell? s = some v ∧ Below w.heap.size w W) : Below w.heap.size w W := h.2.2.2.2
theorem ssubQ {an ad bn bd x y : Int} {b : Bool} (w : World) (ha : Wsh.vfB an ad = true) (hb : Wsh.vfB bn bd = true) (hr : Wsh.redB (an * bd - bn * ad) (ad * bd) = b) (hx : Wsh.rn (an * bd - bn * ad) (ad * bd) = x) (hy : Wsh.rd (an * bd - bn * ad) (ad * bd) = y) :
    Calls Try.prog 160 #[.agg #[.int .i64 an, .int .i64 ad], .agg #[.int .i64 bn, .int .i64 bd]] w fun e w' => e = .returned (.tuple #[.agg #[.int .i64 (Wsh.qn b x), .int .i64 (Wsh.qn b y)], .bool b]) ∧ Below w.heap.size w w' := by
  have := ssub an ad bn bd w ha hb
  rw [hr, hx, hy] at this; exact this
theorem sshareL (a : Option Addr) (cap : Nat) (L : Led) (hs : List Hd) (o : Int) (w : World) (h : IsHs w a hs) (hh : hs = rawL L) (hn : hs.length ≤ 1048576) :
    Calls Try.prog 113 #[.slice a hs.length cap, .int .i64 o] w fun e w' => e = .returned (.agg #[.int .i64 (shareL L o).num, .int .i64 ((shareL L o).den : Int)]) ∧ Below w.heap.size w w' := by
  have := sshare a cap hs o w h hn
  unfold ShareV at this
  rw [hh, shR_raw] at this
  rw [hh]
  exact this
/-- shares of L, as spec's fractions -/
theorem sub_led2 {L : Led} (hf : ∀ x ∈ L, frB x.2 = true) (o : Int) {p : Rat} (hp : frB p = true) :
    Wsh.vfB (shareL L o).num ((shareL L o).den : Int) = true ∧ Wsh.vfB p.num (p.den : Int) = true ∧ Wsh.redB ((shareL L o).num * (p.den : Int) - p.num * ((shareL L o).den : Int)) (((shareL L o).den : Int) * (p.den : Int)) = frB (shareL L o - p) ∧ Wsh.redB ((shareL L o).num * (p.den : Int) + p.num * ((shareL L o).den : Int)) (((shareL L o).den : Int) * (p.den : Int)) = frB (shareL L o + p) :=
  ⟨q_vf (share_frA hf o), q_vf hp, (sub_red (shareL L o) p).1, (add_red (shareL L o) p).1⟩

set_option maxHeartbeats 4000000 in
/-- spec.sell, of a valid ledger and a fraction -/
theorem ssell (a : Option Addr) (cap : Nat) (L : Led) (hs : List Hd) (fr tt pn pd : Int) (p : Rat) (w : World) (hcc : IsHs w a hs) (hh : hs = rawL L) (hn : hs.length ≤ 900) (hf : ∀ x ∈ L, frB x.2 = true) (hp : frB p = true) (hpn : pn = p.num) (hpd : pd = (p.den : Int)) :
    Calls Try.prog 151 #[.slice a hs.length cap, .int .i64 fr, .int .i64 tt, .agg #[.int .i64 pn, .int .i64 pd]] w (MoveV w (sellB L fr tt p) (soldL L fr tt p)) := by
  obtain ⟨q4, q5, q1, r1⟩ := sub_led2 hf fr hp
  obtain ⟨_, q2, q3⟩ := sub_led hf fr hp
  obtain ⟨s4, _, _, s1⟩ := sub_led2 hf tt hp
  obtain ⟨_, s2, s3⟩ := add_led hf tt hp
  have A1 := Lib.hid q1
  have A2 := Lib.hid q2
  have A3 := Lib.hid q3
  have A4 := Lib.hid q4
  have A5 := Lib.hid q5
  have C1 := Lib.hid s1
  have C2 := Lib.hid s2
  have C3 := Lib.hid s3
  have C4 := Lib.hid s4
  have HI := Lib.hid hcc
  have HH := Lib.hid hh
  have HF := Lib.hid hf
  have HP := Lib.hid hp
  have HPn := Lib.hid hpn
  have HPd := Lib.hid hpd
  rw [← hpn, ← hpd] at A1 A2 A3 A5 C1 C2 C3
  clear q1 q2 q3 q4 q5 r1 s1 s2 s3 s4 hcc hh hf hp hpn hpd
  obtain ⟨b, hb⟩ : ∃ b, frB (shareL L fr - p) = b := ⟨_, rfl⟩
  obtain ⟨c, hc⟩ : ∃ c, frB (shareL L tt + p) = c := ⟨_, rfl⟩
  rw [hb] at A1
  rw [hc] at C1
  have HB := Lib.hid hb
  have HC := Lib.hid hc
  clear hb hc
  go_enter Try.func151, Try.ntmps151
  go_upto_region 1 with fail
  go_cut [10, 11] (fun sx sy wx => ∃ k : Nat, sx = .pointer (some ⟨k, 0, none⟩) ∧ sy = .bool b ∧ Blk wx k 31 #[.int .i64 (Wsh.qn b (shareL L fr - p).num), .int .i64 (Wsh.qn b ((shareL L fr - p).den : Int))] ∧ w.heap.size < k ∧ wx.cell? ⟨w.heap.size, 0, none⟩ = some (.int .i64 pn) ∧ wx.cell? ⟨w.heap.size, 1, none⟩ = some (.int .i64 pd) ∧ Below w.heap.size w wx)
  case first =>
    go_region_held3 (fun w' => w'.cell? ⟨w.heap.size, 0, none⟩ = some (.int .i64 pn) ∧ w'.cell? ⟨w.heap.size, 1, none⟩ = some (.int .i64 pd) ∧ Below w.heap.size w w') (first | (exact keepM hb (by assumption)) | (exact keepM ((Below.refl _ _).alloc (Nat.le_refl _) _) (by assumption)) | (exact keepMR (by assumption) hBq (by omega)) | (exact keepMset (by assumption) (by first | omega | (simp; omega))) | (refine ⟨?_, ?_, ?_⟩ <;> first | (go_keep; done) | (go_grown; done)))
      (first | (go_at_call 113; refine (sshareL _ _ L hs fr _ (hs_below HI.out (And.right (And.right (by assumption)))) HH.out (by omega)).mono ?_; rintro e wq ⟨rfl, hb⟩; have hBq := (keepM hb (by assumption)).2.2; obtain ⟨hc, hf⟩ := bcell hb; have hzz := hb.size; (try simp only [World.size_alloc] at hzz); (try simp only [World.size_drew] at hzz); (try simp only [World.size_alloc] at hzz); (try simp only [Nat.add_one_le_iff] at hzz); (try have hq : w.heap.size + 1 < wq.heap.size := by omega); (try have hq3 : w.heap.size < wq.heap.size := by omega)) | (go_at_call 160; refine (ssubQ _ A4.out A5.out A1.out A2.out A3.out).mono ?_; rintro e wq ⟨rfl, hb⟩; have hBq := (keepM hb (by assumption)).2.2; obtain ⟨hc, hf⟩ := bcell hb; have hzz := hb.size; (try simp only [World.size_alloc] at hzz); (try simp only [World.size_drew] at hzz); (try simp only [World.size_alloc] at hzz); (try simp only [Nat.add_one_le_iff] at hzz); (try have hq : w.heap.size + 1 < wq.heap.size := by omega); (try have hq3 : w.heap.size < wq.heap.size := by omega)))
    all_goals
      have hS := ‹_ ∧ _›
      go_wp2_with fail
      go_meet
      first
      | exact ⟨_, rfl, rfl, Blk.new _ _ _, by omega, hS.1, hS.2.1, hS.2.2⟩
      | exact ⟨_, rfl, rfl, ((Blk.new _ _ _).next hb).two _ _, by omega, hS.1, hS.2.1, hS.2.2⟩
      | exact ⟨_, rfl, rfl, (((blk_second w _ _ _).next (by assumption)).next hb).two _ _, by omega, hS.1, hS.2.1, hS.2.2⟩
      | exact ⟨_, rfl, rfl, (((blk_second w _ _ _).drew.next (by assumption)).next hb).two _ _, by omega, hS.1, hS.2.1, hS.2.2⟩
  case rest =>
    obtain ⟨k, rfl, rfl, hblk, hk, c0, c1, hB⟩ := hcut
    have hbx : w.heap.size < wc.heap.size := World.block_lt_of_cell? wc _ c0
    have HK := Lib.hid hblk
    clear hblk
    go_upto_region 2 with fail
    go_cut [12, 13] (fun sx sy wx => ∃ k : Nat, sx = .pointer (some ⟨k, 0, none⟩) ∧ sy = .bool c ∧ Blk wx k 31 #[.int .i64 (Wsh.qn c (shareL L tt + p).num), .int .i64 (Wsh.qn c ((shareL L tt + p).den : Int))] ∧ wc.heap.size ≤ k ∧ wx.cell? ⟨w.heap.size, 0, none⟩ = some (.int .i64 pn) ∧ wx.cell? ⟨w.heap.size, 1, none⟩ = some (.int .i64 pd) ∧ Below wc.heap.size wc wx)
    case first =>
      go_region_held3 (fun w' => w'.cell? ⟨w.heap.size, 0, none⟩ = some (.int .i64 pn) ∧ w'.cell? ⟨w.heap.size, 1, none⟩ = some (.int .i64 pd) ∧ Below wc.heap.size wc w') (first | (exact keepQ hb (by assumption)) | (exact keepQ ((Below.refl _ _).alloc (Nat.le_refl _) _) (by assumption)) | (exact keepQR (by assumption) hBq hbx (by omega)) | (exact keepQR0 hbx (by assumption)) | (exact keepQset (by assumption) (by first | omega | (simp; omega)) (by first | omega | (simp; omega))) | (refine ⟨?_, ?_, ?_⟩ <;> first | (go_keep; done) | (exact (Below.refl _ _).drew) | (go_grown; done)))
        (first | (go_at_call 113; refine (sshareL _ _ L hs tt _ (hs_below (hs_below HI.out hB) (And.right (And.right (by assumption)))) HH.out (by omega)).mono ?_; rintro e wq ⟨rfl, hb⟩; have hBq := (keepQ hb (by assumption)).2.2; obtain ⟨hc, hf⟩ := bcell hb; have hzz := hb.size; (try simp only [World.size_alloc] at hzz); (try simp only [World.size_drew] at hzz); (try simp only [World.size_alloc] at hzz); (try simp only [Nat.add_one_le_iff] at hzz); (try have hq : wc.heap.size + 1 < wq.heap.size := by omega); (try have hq3 : wc.heap.size < wq.heap.size := by omega); (try have hq4 : wc.heap.size ≤ wq.heap.size := by omega)) | (go_at_call 111; refine (saddQ _ C4.out A5.out C1.out C2.out C3.out).mono ?_; rintro e wq ⟨rfl, hb⟩; have hBq := (keepQ hb (by assumption)).2.2; obtain ⟨hc, hf⟩ := bcell hb; have hzz := hb.size; (try simp only [World.size_alloc] at hzz); (try simp only [World.size_drew] at hzz); (try simp only [World.size_alloc] at hzz); (try simp only [Nat.add_one_le_iff] at hzz); (try have hq : wc.heap.size + 1 < wq.heap.size := by omega); (try have hq3 : wc.heap.size < wq.heap.size := by omega); (try have hq4 : wc.heap.size ≤ wq.heap.size := by omega)))
      all_goals
        have hS := ‹_ ∧ _›
        go_wp2_with fail
        go_meet
        first
        | exact ⟨_, rfl, rfl, Blk.new _ _ _, by omega, hS.1, hS.2.1, hS.2.2⟩
        | exact ⟨_, rfl, rfl, ((Blk.new _ _ _).next hb).two _ _, by omega, hS.1, hS.2.1, hS.2.2⟩
        | exact ⟨_, rfl, rfl, (((Blk.new wc _ _).next (by assumption)).next hb).two _ _, by omega, hS.1, hS.2.1, hS.2.2⟩
        | exact ⟨_, rfl, rfl, (((Blk.new wc _ _).drew.next (by assumption)).next hb).two _ _, by omega, hS.1, hS.2.1, hS.2.2⟩
    case rest =>
      obtain ⟨k2, rfl, rfl, hblk2, hk2, d0, d1, hB2⟩ := hcut
      obtain ⟨t0, t1, t2, t3, t4⟩ := blk_two (HK.out.next hB2)
      obtain ⟨r0, r1, r2, r3, r4⟩ := blk_two hblk2
      have hBB := bel_tr hB hB2
      clear hblk2 c0 c1 HK hB2 hB
      have HE : Hid (sellB L fr tt p = (b && c && decide (p ≠ 0) && decide (fr ≠ tt) && decide (1 ≤ tt) && decide (tt ≤ 999) && vlB (soldL L fr tt p))) := by show _ = _; unfold sellB; rw [HB.out, HC.out]
      have HZ : Hid ((pn = 0) ↔ p = 0) := by show _ ↔ _; rw [HPn.out]; exact num_zero p
      cases b with
      | false =>
        have HN : Hid (sellB L fr tt p = false) := HE.out
        go_wp2_with fail
        go_returns
        exact ⟨_, by rw [HN.out]; rfl, (fun _ => rfl), (fun c => by rw [HN.out] at c; cases c), hBB⟩
      | true =>
        cases c with
        | false =>
          have HN : Hid (sellB L fr tt p = false) := HE.out
          go_wp2_with fail
          go_returns
          exact ⟨_, by rw [HN.out]; rfl, (fun _ => rfl), (fun c => by rw [HN.out] at c; cases c), hBB⟩
        | true =>
          rw [Wsh.qn_true] at t0 t1 r0 r1
          by_cases hp0 : pn = 0
          · have HN : Hid (sellB L fr tt p = false) := by show _ = _; rw [HE.out]; simp [HZ.out.1 hp0]
            have e : (pn == 0) = true := by simpa using hp0
            clear hp0
            go_wp2_with fail
            go_returns
            exact ⟨_, by rw [HN.out]; rfl, (fun _ => rfl), (fun c => by rw [HN.out] at c; cases c), hBB⟩
          · have e : (pn == 0) = false := by simpa using hp0
            have HPz : Hid (p ≠ 0) := fun c => hp0 (HZ.out.2 c)
            clear hp0
            by_cases hft : fr = tt
            · have HN : Hid (sellB L fr tt p = false) := by show _ = _; rw [HE.out]; simp [hft]
              have e2 : (fr == tt) = true := by simpa using hft
              clear hft
              go_wp2_with fail
              go_returns
              exact ⟨_, by rw [HN.out]; rfl, (fun _ => rfl), (fun c => by rw [HN.out] at c; cases c), hBB⟩
            · have e2 : (fr == tt) = false := by simpa using hft
              have HFT := Lib.hid hft
              clear hft
              by_cases hr : tt < 1 ∨ 999 < tt
              · have HN : Hid (sellB L fr tt p = false) := by show _ = _; rw [HE.out]; simp; omega
                go_wp2_with fail
                refine (inRange_no tt 1 999 _ hr).mono ?_
                rintro e w' ⟨rfl, rfl⟩
                go_wp2_with fail
                go_returns
                exact ⟨_, by rw [HN.out]; rfl, (fun _ => rfl), (fun c => by rw [HN.out] at c; cases c), hBB⟩
              · have hE : sellB L fr tt p = vlB (soldL L fr tt p) := by
                  have h1 : 1 ≤ tt := by omega
                  have h2 : tt ≤ 999 := by omega
                  rw [HE.out]; simp [HPz.out, HFT.out, h1, h2]
                have HEE := Lib.hid hE
                clear hE
                have hl1 : (rawL (setL L fr (shareL L fr - p))).length ≤ 1000 := by
                  rw [raw_len]
                  have := set_len (L := L) fr (shareL L fr - p)
                  have e := congrArg List.length HH.out
                  rw [raw_len] at e
                  omega
                have hl2 : (rawL (soldL L fr tt p)).length ≤ 1048576 := by
                  rw [raw_len]
                  have := set_len (L := setL L fr (shareL L fr - p)) tt (shareL L tt + p)
                  rw [raw_len] at hl1
                  unfold soldL
                  omega
                go_wp2_with fail
                refine (inRange_yes tt 1 999 _ (by omega) (by omega)).mono ?_
                rintro e w' ⟨rfl, rfl⟩
                go_wp2_with fail
                go_region_held3 (fun w' => w'.cell? ⟨k, 0, none⟩ = some (.int .i64 (shareL L fr - p).num) ∧ w'.cell? ⟨k, 1, none⟩ = some (.int .i64 ((shareL L fr - p).den : Int)) ∧ w'.cell? ⟨k2, 0, none⟩ = some (.int .i64 (shareL L tt + p).num) ∧ w'.cell? ⟨k2, 1, none⟩ = some (.int .i64 ((shareL L tt + p).den : Int)) ∧ Below w.heap.size w w') (first | (exact keepV hb (by assumption)) | (refine ⟨?_, ?_, ?_, ?_, ?_⟩ <;> first | (go_keep; done) | exact hBB.drew))
                  (first | (go_at_call_of 161 (Value.slice a hs.length cap); refine (sset a cap L hs fr _ _ (shareL L fr - p) _ (hs_below HI.out (keepVb (by assumption))) HH.out (by omega) (.inl ⟨rfl, rfl⟩)).mono ?_; rintro e wq ⟨v1, rfl, hO, hb⟩; have hsz1 := hb.size; obtain ⟨b1, cp1, rfl, hI1, hc1⟩ := own_hs2 hO) | (go_at_call 161; refine (sset _ _ (setL L fr (shareL L fr - p)) _ tt _ _ (shareL L tt + p) _ hI1 rfl hl1 (.inl ⟨rfl, rfl⟩)).mono ?_; rintro e wq2 ⟨v2, rfl, hO2, hb⟩))
                have hBF : Below w.heap.size w wq2 := keepVb (by assumption)
                have hO3 : OwnH wq2 w.heap.size v2 (rawL (soldL L fr tt p)) := own_le hO2 (Nat.le_trans hBB.size hsz1)
                obtain ⟨b2, cp2, rfl, hI2, hc2⟩ := own_hs2 hO3
                have hv := svl b2 cp2 _ wq2 hI2 hl2
                rw [vlR_vl] at hv
                have HO3 := Lib.hid hO3
                clear hO3 hO2 hO
                cases hvl : vlB (soldL L fr tt p) with
                | false =>
                  rw [hvl] at hv
                  have HN : Hid (sellB L fr tt p = false) := by show _ = _; rw [HEE.out]; exact hvl
                  clear hvl
                  go_wp2_with fail
                  refine hv.mono ?_
                  rintro e w4 ⟨rfl, hb4⟩
                  go_wp2_with fail
                  go_returns
                  exact ⟨_, by rw [HN.out]; rfl, (fun _ => rfl), (fun c => by rw [HN.out] at c; cases c), bel_tr hBF hb4⟩
                | true =>
                  rw [hvl] at hv
                  have HN : Hid (sellB L fr tt p = true) := by show _ = _; rw [HEE.out]; exact hvl
                  clear hvl
                  go_wp2_with fail
                  refine hv.mono ?_
                  rintro e w4 ⟨rfl, hb4⟩
                  go_wp2_with fail
                  go_returns
                  exact ⟨_, by rw [HN.out]; rfl, (fun c => by rw [HN.out] at c; cases c), (fun _ => own_next HO3.out hb4), bel_tr hBF hb4⟩

/-- whether a part can be sold, as raw numbers tell -/
def selB (hs : List Hd) (fr tt pn pd : Int) : Bool := vlR hs && Wsh.vfB pn pd && sellB (ledOf hs) fr tt (Rat.divInt pn pd)
def selL (hs : List Hd) (fr tt pn pd : Int) : Led := soldL (ledOf hs) fr tt (Rat.divInt pn pd)
theorem led_eq {hs : List Hd} (h : vlR hs = true) : hs = rawL (ledOf hs) := (vlR_is h).1.symm
theorem led_le {hs : List Hd} (h : vlR hs = true) : hs.length ≤ 12 := by have := (vlR_is h).2.len; rwa [led_len] at this
end Go.Proofs.Ytgmmdpdlekpmfac
namespace Go.Proofs.Ytgmmdpdlekpmfac

structure Lz where
  owner : Int
  tenant : Int
  part : Rat
  fr : Int
  til : Int
/-- m runs when l begins, for the same owner -/
def runsB (l m : Lz) : Bool := decide (m.owner = l.owner) && decide (m.fr ≤ l.fr) && decide (l.fr < m.til)
/-- the parts of leases that run when l begins -/
def usedL (l : Lz) : List Lz → Rat
  | [] => 0
  | m :: t => (if runsB l m then m.part else 0) + usedL l t
theorem used_append (l : Lz) (A B : List Lz) : usedL l (A ++ B) = usedL l A + usedL l B := by
  induction A with
  | nil => show usedL l B = 0 + usedL l B; grind
  | cons h t ih => show _ + usedL l (t ++ B) = _ + usedL l t + usedL l B; rw [ih]; grind
theorem used_nonneg (l : Lz) {A : List Lz} (h : ∀ m ∈ A, 0 ≤ m.part) : 0 ≤ usedL l A := by
  induction A with
  | nil => exact Rat.le_refl
  | cons m t ih =>
    have a := h m (by simp)
    have b := ih (fun x hx => h x (by simp [hx]))
    show 0 ≤ (if runsB l m then m.part else 0) + usedL l t
    split <;> grind
/-- sums of the first leases that run when l begins are fractions -/
def sumsOk (Z : List Lz) (l : Lz) : Prop := ∀ k, k ≤ Z.length → frB (usedL l (Z.take k)) = true
structure VZ (L : Led) (Z : List Lz) : Prop where
  len : Z.length ≤ 10
  each : ∀ l ∈ Z, 1 ≤ l.tenant ∧ l.tenant ≤ 999 ∧ l.tenant ≠ l.owner ∧ frB l.part = true ∧ l.part ≠ 0 ∧ 0 ≤ l.fr ∧ l.fr ≤ 5000 ∧ l.fr + 1 ≤ l.til ∧ l.til ≤ 5000
  sums : ∀ l ∈ Z, sumsOk Z l
  share : ∀ l ∈ Z, usedL l Z ≤ shareL L l.owner
/-- P26: without one of them -/
theorem vz_less {L : Led} {A B : List Lz} {x : Lz} (h : VZ L (A ++ x :: B)) (hs : ∀ l ∈ A ++ B, sumsOk (A ++ B) l) : VZ L (A ++ B) := by
  have hm : ∀ l ∈ A ++ B, l ∈ A ++ x :: B := fun l hl => by
    rcases List.mem_append.1 hl with h | h
    · simp [h]
    · simp [h]
  refine ⟨?_, fun l hl => h.each l (hm l hl), hs, fun l hl => ?_⟩
  · have := h.len; rw [List.length_append, List.length_cons] at this; rw [List.length_append]; omega
  · have h1 := h.share l (hm l hl)
    have h2 : usedL l (A ++ x :: B) = usedL l A + ((if runsB l x then x.part else 0) + usedL l B) := by rw [used_append]; rfl
    have h3 : 0 ≤ x.part := frB_nonneg (h.each x (by simp)).2.2.2.1
    rw [used_append]
    rw [h2] at h1
    split at h1 <;> grind
theorem vz_nil (L : Led) : VZ L [] := ⟨by simp, fun l hl => by simp at hl, fun l hl => by simp at hl, fun l hl => by simp at hl⟩
/-- the ledger of users after the leases that run at t -/
def useL (t : Int) : Led → List Lz → Led
  | L, [] => L
  | L, l :: r => useL t (if l.fr ≤ t ∧ t < l.til then soldL L l.owner l.tenant l.part else L) r
/-- whether each part can go over -/
def useOk (t : Int) : Led → List Lz → Prop
  | _, [] => True
  | L, l :: r => (l.fr ≤ t ∧ t < l.til → frB (shareL L l.owner - l.part) = true ∧ frB (shareL L l.tenant + l.part) = true) ∧ useOk t (if l.fr ≤ t ∧ t < l.til then soldL L l.owner l.tenant l.part else L) r
theorem use_append (t : Int) : ∀ (A B : List Lz) (L : Led), useL t L (A ++ B) = useL t (useL t L A) B := by
  intro A
  induction A with
  | nil => intro B L; rfl
  | cons x r ih => intro B L; exact ih B _
theorem useOk_append (t : Int) : ∀ (A B : List Lz) (L : Led), useOk t L (A ++ B) ↔ useOk t L A ∧ useOk t (useL t L A) B := by
  intro A
  induction A with
  | nil => intro B L; show useOk t L B ↔ True ∧ useOk t L B; simp
  | cons x r ih =>
    intro B L
    show _ ∧ useOk t _ (r ++ B) ↔ (_ ∧ useOk t _ r) ∧ useOk t (useL t _ r) B
    rw [ih]; exact and_assoc.symm
/-- P27: no lease runs -/
theorem use_none (t : Int) : ∀ (Z : List Lz) (L : Led), (∀ l ∈ Z, ¬ (l.fr ≤ t ∧ t < l.til)) → useL t L Z = L := by
  intro Z
  induction Z with
  | nil => intro L _; rfl
  | cons x r ih =>
    intro L h
    show useL t (if _ then _ else _) r = L
    rw [if_neg (h x (by simp))]
    exact ih L (fun l hl => h l (by simp [hl]))
theorem use_asc (t : Int) : ∀ (Z : List Lz) (L : Led), Asc L → Asc (useL t L Z) := by
  intro Z
  induction Z with
  | nil => intro L h; exact h
  | cons x r ih =>
    intro L h
    refine ih _ ?_
    split
    · exact asc_set (asc_set h _ _) _ _
    · exact h
/-- one lease, as the model makes it: first the owner has less, then the tenant more -/
theorem sold_two {L : Led} (ha : Asc L) {f t : Int} (hft : t ≠ f) (p : Rat) : setL (setL L f (shareL L f - p)) t (shareL (setL L f (shareL L f - p)) t + p) = soldL L f t p := by
  unfold soldL
  rw [share_set ha, if_neg hft]
end Go.Proofs.Ytgmmdpdlekpmfac
namespace Go.Proofs.Ytgmmdpdlekpmfac
open Go.RowKit

theorem ipart_yes (n d : Int) (w : World) (h : Wsh.vfB n d = true) (h0 : 0 < n) :
    Calls Try.prog 116 #[.agg #[.int .i64 n, .int .i64 d]] w fun e w' => e = .returned (.bool true) ∧ Below w.heap.size w w' := by
  have IV := iValid n d (w.alloc (.cells #[.int .i64 n, .int .i64 d] 31))
  rw [h] at IV
  clear h
  go_enter Try.func116, Try.ntmps116
  go_wp2_with fail
  refine IV.mono ?_
  rintro e w1 ⟨rfl, hb⟩
  obtain ⟨t0, t1, t2, t3, t4⟩ := blk_two ((Blk.new w 31 #[.int .i64 n, .int .i64 d]).next hb)
  have hB1 : Below w.heap.size w w1 := bel_tr (by go_grown) hb
  clear hb
  go_wp2_with fail
  go_ret
  exact ⟨ret_bool (by simp), hB1⟩
theorem ipart_no (n d : Int) (w : World) (h : Wsh.vfB n d = false ∨ n ≤ 0) :
    Calls Try.prog 116 #[.agg #[.int .i64 n, .int .i64 d]] w fun e w' => e = .returned (.bool false) ∧ Below w.heap.size w w' := by
  have IV := iValid n d (w.alloc (.cells #[.int .i64 n, .int .i64 d] 31))
  cases hv : Wsh.vfB n d with
  | false =>
    rw [hv] at IV
    clear h hv
    go_enter Try.func116, Try.ntmps116
    go_wp2_with fail
    refine IV.mono ?_
    rintro e w1 ⟨rfl, hb⟩
    have hB1 : Below w.heap.size w w1 := bel_tr (by go_grown) hb
    go_wp2_with fail
    go_ret
    exact ⟨rfl, hB1⟩
  | true =>
    rw [hv] at IV
    have h0 : n ≤ 0 := by
      rcases h with h | h
      · rw [hv] at h; cases h
      · exact h
    clear h hv
    go_enter Try.func116, Try.ntmps116
    go_wp2_with fail
    refine IV.mono ?_
    rintro e w1 ⟨rfl, hb⟩
    obtain ⟨t0, t1, t2, t3, t4⟩ := blk_two ((Blk.new w 31 #[.int .i64 n, .int .i64 d]).next hb)
    have hB1 : Below w.heap.size w w1 := bel_tr (by go_grown) hb
    clear hb
    go_wp2_with fail
    go_ret
    exact ⟨ret_bool (by simp; omega), hB1⟩

end Go.Proofs.Ytgmmdpdlekpmfac
namespace Go.Proofs.Ytgmmdpdlekpmfac
open Go.RowKit
set_option linter.unusedSimpArgs false

/-- a lease as its numbers -/
structure Lr where
  ow : Int
  te : Int
  n : Int
  d : Int
  fr : Int
  en : Int
def lr0 : Lr := ⟨0, 0, 0, 0, 0, 0⟩
/-- leases ls, read through a slice at address a -/
def IsLs (w : World) (a : Option Addr) (ls : List Lr) : Prop := ls = [] ∨ ∃ g o, a = some ⟨g, o, none⟩ ∧ ∀ i, i < ls.length → w.cell? ⟨g, o + i * 6, none⟩ = some (.int .i64 (ls.getD i lr0).ow) ∧ w.cell? ⟨g, o + i * 6 + 1, none⟩ = some (.int .i64 (ls.getD i lr0).te) ∧ w.cell? ⟨g, o + i * 6 + 2, none⟩ = some (.int .i64 (ls.getD i lr0).n) ∧ w.cell? ⟨g, o + i * 6 + 3, none⟩ = some (.int .i64 (ls.getD i lr0).d) ∧ w.cell? ⟨g, o + i * 6 + 4, none⟩ = some (.int .i64 (ls.getD i lr0).fr) ∧ w.cell? ⟨g, o + i * 6 + 5, none⟩ = some (.int .i64 (ls.getD i lr0).en)
theorem ls_below {w w' : World} {a : Option Addr} {ls : List Lr} (h : IsLs w a ls) (hB : Below w.heap.size w w') : IsLs w' a ls := by
  rcases h with h | ⟨g, o, ha, hc⟩
  · exact .inl h
  · refine .inr ⟨g, o, ha, fun i hi => ?_⟩
    obtain ⟨c0, c1, c2, c3, c4, c5⟩ := hc i hi
    have k : ∀ p v, w.cell? ⟨g, p, none⟩ = some v → w'.cell? ⟨g, p, none⟩ = some v := fun p v c => (hB.cell (p := ⟨g, p, none⟩) (World.block_lt_of_cell? w _ c)).trans c
    exact ⟨k _ _ c0, k _ _ c1, k _ _ c2, k _ _ c3, k _ _ c4, k _ _ c5⟩
/-- one lease alone is one that can be -/
def termB (l : Lr) : Bool := decide (1 ≤ l.te) && decide (l.te ≤ 999) && decide (l.te ≠ l.ow) && Wsh.vfB l.n l.d && decide (0 < l.n) && decide (0 ≤ l.fr) && decide (l.fr < l.en) && decide (l.en ≤ 5000)
def termsB (ls : List Lr) : Bool := (List.range ls.length).all fun k => termB (ls.getD k lr0)
theorem term_iff (l : Lr) : termB l = true ↔ 1 ≤ l.te ∧ l.te ≤ 999 ∧ l.te ≠ l.ow ∧ Wsh.vfB l.n l.d = true ∧ 0 < l.n ∧ 0 ≤ l.fr ∧ l.fr < l.en ∧ l.en ≤ 5000 := by unfold termB; simp only [Bool.and_eq_true, decide_eq_true_eq, and_assoc]
theorem term_no {l : Lr} (h : ¬ (1 ≤ l.te ∧ l.te ≤ 999 ∧ l.te ≠ l.ow ∧ Wsh.vfB l.n l.d = true ∧ 0 < l.n ∧ 0 ≤ l.fr ∧ l.fr < l.en ∧ l.en ≤ 5000)) : termB l = false := by
  cases e : termB l with
  | false => rfl
  | true => exact absurd ((term_iff l).1 e) h
/-- whether a lease runs at t -/
def atB (l : Lr) (t : Int) : Bool := decide (l.fr ≤ t) && decide (t < l.en)
theorem iruns (l : Lr) (t : Int) (w : World) :
    Calls Try.prog 117 #[.agg #[.int .i64 l.ow, .int .i64 l.te, .int .i64 l.n, .int .i64 l.d, .int .i64 l.fr, .int .i64 l.en], .int .i64 t] w fun e w' => e = .returned (.bool (atB l t)) ∧ Below w.heap.size w w' := by
  obtain ⟨ow, te, n, d, fr, en⟩ := l
  unfold atB
  dsimp only
  by_cases h1 : fr ≤ t
  · have e1 : decide (fr ≤ t) = true := decide_eq_true h1
    clear h1
    go_enter Try.func117, Try.ntmps117
    go_wp2
    go_ret
    exact ⟨ret_bool (by rw [e1]; rfl), by go_grown⟩
  · have e1 : decide (fr ≤ t) = false := decide_eq_false h1
    clear h1
    go_enter Try.func117, Try.ntmps117
    go_wp2
    go_ret
    exact ⟨ret_bool (by rw [e1]; rfl), by go_grown⟩

set_option maxHeartbeats 2000000 in
/-- impl.allTerms -/
theorem iterms (a : Option Addr) (cap : Nat) (ls : List Lr) (w : World) (h : IsLs w a ls) (hn : ls.length ≤ 1048576) :
    Calls Try.prog 75 #[.slice a ls.length cap] w fun e w' => e = .returned (.bool (termsB ls)) ∧ Below w.heap.size w w' := by
  rcases h with rfl | ⟨g, o, rfl, hc⟩
  · go_enter Try.func75, Try.ntmps75
    go_wp2
    go_rounds 1
    go_ret
    exact ⟨rfl, by go_grown⟩
  · have HC := Lib.hid hc
    clear hc
    go_enter Try.func75, Try.ntmps75
    go_wp2
    go_loopw [7] (fun i wr => ∃ k : Nat, k ≤ ls.length ∧ i = .int .i64 k ∧ Hid (∀ j, j < k → termB (ls.getD j lr0) = true) ∧ Below w.heap.size w wr) (fun i _ => ls.length - (intOf i).toNat)
    case atStart => exact ⟨0, Nat.zero_le _, rfl, fun j hj => by omega, by go_grown⟩
    case round =>
      obtain ⟨k, hk, rfl, HA, hB⟩ := hrel
      by_cases hlt : k < ls.length
      · obtain ⟨d0, d1, d2, d3, d4, d5⟩ := HC.out k hlt
        have kp : ∀ p v, w.cell? ⟨g, p, none⟩ = some v → wr.cell? ⟨g, p, none⟩ = some v := fun p v c => (hB.cell (p := ⟨g, p, none⟩) (World.block_lt_of_cell? w _ c)).trans c
        have c0 := kp _ _ d0
        have c1 := kp _ _ d1
        have c2 := kp _ _ d2
        have c3 := kp _ _ d3
        have c4 := kp _ _ d4
        have c5 := kp _ _ d5
        have hno : termB (ls.getD k lr0) = false → termsB ls = false := fun e => rng_no hlt e
        have hyes : termB (ls.getD k lr0) = true → ∀ j, j < k + 1 → termB (ls.getD j lr0) = true := fun e => rng_more HA.out e
        clear d0 d1 d2 d3 d4 d5 kp
        generalize ls.getD k lr0 = l at c0 c1 c2 c3 c4 c5 hno hyes
        obtain ⟨ow, te, n, d, fr, en⟩ := l
        have hno2 := fun e => hno (term_no e)
        have hyes2 := fun e => hyes ((term_iff _).2 e)
        dsimp only at c0 c1 c2 c3 c4 c5 hno2 hyes2
        have HNO := Lib.hid hno2
        have HYES := Lib.hid hyes2
        have HB := Lib.hid hB
        have hBa : Below w.heap.size w (wr.alloc (.cells #[.int .i64 ow, .int .i64 te, .int .i64 n, .int .i64 d, .int .i64 fr, .int .i64 en] 109)) := hB.alloc hB.size _
        have HBA := Lib.hid hBa
        clear hno hyes hno2 hyes2 hB hBa
        by_cases h1 : te < 1 ∨ 999 < te
        · have HN : Hid (termsB ls = false) := HNO.out (fun c => by omega)
          go_wp2_with fail
          refine (iowner_no te _ h1).mono ?_
          rintro e w' ⟨rfl, rfl⟩
          clear h1
          go_wp2_with fail
          go_ret
          exact ⟨ret_bool HN.out.symm, HBA.out⟩
        · have r1 : 1 ≤ te := by omega
          have r2 : te ≤ 999 := by omega
          clear h1
          by_cases h2 : te = ow
          · have HN : Hid (termsB ls = false) := HNO.out (fun c => c.2.2.1 h2)
            have e2 : (te == ow) = true := by simpa using h2
            clear h2
            go_wp2_with fail
            refine (iowner_yes te _ r1 r2).mono ?_
            rintro e w' ⟨rfl, rfl⟩
            go_wp2_with fail
            go_ret
            exact ⟨ret_bool HN.out.symm, HBA.out⟩
          · have e2 : (te == ow) = false := by simpa using h2
            have HE : Hid (te ≠ ow) := h2
            clear h2
            by_cases h3 : Wsh.vfB n d = false ∨ n ≤ 0
            · have HN : Hid (termsB ls = false) := HNO.out (fun c => by rcases h3 with h | h; exact absurd c.2.2.2.1 (by rw [h]; decide); omega)
              have H3 := Lib.hid h3
              clear h3
              go_wp2_with fail
              refine (iowner_yes te _ r1 r2).mono ?_
              rintro e w' ⟨rfl, rfl⟩
              go_wp2_with fail
              refine (ipart_no n d _ H3.out).mono ?_
              rintro e w2 ⟨rfl, hb⟩
              go_wp2_with fail
              go_ret
              exact ⟨ret_bool HN.out.symm, bel_tr HBA.out hb⟩
            · have hv : Wsh.vfB n d = true := by cases e : Wsh.vfB n d with | true => rfl | false => exact absurd (.inl e) h3
              have hn0 : 0 < n := by omega
              have IP := fun W => ipart_yes n d W hv hn0
              have HV := Lib.hid hv
              clear h3 hv
              have K0 := Blk.new wr 109 #[.int .i64 ow, .int .i64 te, .int .i64 n, .int .i64 d, .int .i64 fr, .int .i64 en]
              by_cases h4 : fr < 0 ∨ en ≤ fr ∨ 5000 < en
              · have HN : Hid (termsB ls = false) := HNO.out (fun c => by omega)
                go_wp2_with fail
                refine (iowner_yes te _ r1 r2).mono ?_
                rintro e w' ⟨rfl, rfl⟩
                go_wp2_with fail
                refine (IP _).mono ?_
                rintro e w2 ⟨rfl, hb⟩
                have K1 := K0.next hb
                have f4 := K1.cell 4
                have f5 := K1.cell 5
                dsimp at f4 f5
                have hB2 := bel_tr HBA.out hb
                clear K0 K1 hb IP
                by_cases h5 : fr < 0
                · have e5 : decide (fr < 0) = true := decide_eq_true h5
                  clear h4 h5
                  go_wp2_with fail
                  go_ret
                  exact ⟨ret_bool HN.out.symm, hB2⟩
                · have e5 : decide (fr < 0) = false := decide_eq_false h5
                  by_cases h6 : en ≤ fr
                  · have e6 : decide (en ≤ fr) = true := decide_eq_true h6
                    clear h4 h5 h6
                    go_wp2_with fail
                    go_ret
                    exact ⟨ret_bool HN.out.symm, hB2⟩
                  · have e6 : decide (en ≤ fr) = false := decide_eq_false h6
                    have e7 : decide (5000 < en) = true := decide_eq_true (by omega)
                    clear h4 h5 h6
                    go_wp2_with fail
                    go_ret
                    exact ⟨ret_bool HN.out.symm, hB2⟩
              · have e5 : decide (fr < 0) = false := decide_eq_false (by omega)
                have e6 : decide (en ≤ fr) = false := decide_eq_false (by omega)
                have e7 : decide (5000 < en) = false := decide_eq_false (by omega)
                have HY : Hid (∀ j, j < k + 1 → termB (ls.getD j lr0) = true) := HYES.out ⟨r1, r2, HE.out, HV.out, hn0, by omega, by omega, by omega⟩
                clear h4
                go_wp2_with fail
                refine (iowner_yes te _ r1 r2).mono ?_
                rintro e w' ⟨rfl, rfl⟩
                go_wp2_with fail
                refine (IP _).mono ?_
                rintro e w2 ⟨rfl, hb⟩
                have K1 := K0.next hb
                have f4 := K1.cell 4
                have f5 := K1.cell 5
                dsimp at f4 f5
                have hB2 := bel_tr HBA.out hb
                clear K0 K1 hb IP
                go_wp2_with fail
                go_roundw
                case rel => exact ⟨k + 1, by omega, by go_num, HY.out, hB2⟩
                case measure => simp [intOf]; omega
      · go_wp2_with fail
        go_ret
        exact ⟨ret_bool (rng_yes (fun j hj => HA.out j (by omega))).symm, hB⟩
end Go.Proofs.Ytgmmdpdlekpmfac
namespace Go.Proofs.Ytgmmdpdlekpmfac
open Go.RowKit
set_option linter.unusedSimpArgs false

def partQ (l : Lr) : Rat := Rat.divInt l.n l.d
/-- l lends for o at t -/
def lendB (l : Lr) (o t : Int) : Bool := decide (l.ow = o) && atB l t
/-- the parts that o lends at t, of the first k leases -/
def lentS (ls : List Lr) (o t : Int) : Nat → Rat
  | 0 => 0
  | k + 1 => lentS ls o t k + (if lendB (ls.getD k lr0) o t then partQ (ls.getD k lr0) else 0)
def lentOk (ls : List Lr) (o t : Int) : Bool := (List.range ls.length).all fun j => frB (lentS ls o t (j + 1))
theorem lent_fr {ls : List Lr} {o t : Int} {k : Nat} (h : ∀ j, j < k → frB (lentS ls o t (j + 1)) = true) : frB (lentS ls o t k) = true := by
  cases k with
  | zero => exact frB_zero
  | succ k => exact h k (by omega)
theorem lent_stay {ls : List Lr} {o t : Int} {k : Nat} (h : lendB (ls.getD k lr0) o t = false) : lentS ls o t (k + 1) = lentS ls o t k := by
  show _ + (if _ then _ else _) = _
  rw [h]
  show _ + (0 : Rat) = _
  grind
theorem lent_more {ls : List Lr} {o t : Int} {k : Nat} (h : lendB (ls.getD k lr0) o t = true) : lentS ls o t (k + 1) = lentS ls o t k + partQ (ls.getD k lr0) := by
  show _ + (if _ then _ else _) = _
  rw [h]; rfl
theorem terms_at {ls : List Lr} (h : termsB ls = true) {k : Nat} (hk : k < ls.length) : Wsh.vfB (ls.getD k lr0).n (ls.getD k lr0).d = true := ((term_iff _).1 ((rng_all _ _).1 h k hk)).2.2.2.1
/-- a sum, as the program makes it -/
theorem part_add {q : Rat} {n d : Int} (hq : frB q = true) (hv : Wsh.vfB n d = true) :
    (Wsh.vfB q.num (q.den : Int) && Wsh.vfB n d && Wsh.redB (q.num * d + n * (q.den : Int)) ((q.den : Int) * d)) = frB (q + Rat.divInt n d) ∧ Wsh.rn (q.num * d + n * (q.den : Int)) ((q.den : Int) * d) = (q + Rat.divInt n d).num ∧ Wsh.rd (q.num * d + n * (q.den : Int)) ((q.den : Int) * d) = ((q + Rat.divInt n d).den : Int) := by
  obtain ⟨a, b, _⟩ := vf_q hv
  obtain ⟨x, y, z⟩ := add_red q (Rat.divInt n d)
  rw [a, b] at x y z
  exact ⟨by rw [q_vf hq, hv, x]; rfl, y, z⟩

set_option maxRecDepth 100000 in
set_option maxHeartbeats 1500000 in
/-- impl.lentAt -/
theorem ilent (a : Option Addr) (cap : Nat) (ls : List Lr) (o t : Int) (w : World) (h : IsLs w a ls) (hn : ls.length ≤ 1048576) (ht : termsB ls = true) :
    Calls Try.prog 76 #[.slice a ls.length cap, .int .i64 o, .int .i64 t] w fun e w' => e = .returned (.tuple #[.agg #[.int .i64 (Wsh.qn (lentOk ls o t) (lentS ls o t ls.length).num), .int .i64 (Wsh.qn (lentOk ls o t) ((lentS ls o t ls.length).den : Int))], .bool (lentOk ls o t)]) ∧ Below w.heap.size w w' := by
  have HI := Lib.hid h
  have HT := Lib.hid ht
  clear h ht
  go_enter Try.func76, Try.ntmps76
  go_wp2_with fail
  refine (inoShare _).mono ?_
  rintro e w1 ⟨rfl, hb⟩
  have hB1 : Below w.heap.size w w1 := bel_tr (by go_grown) hb
  have K6 := (Blk.new w 31 #[.int .i64 0, .int .i64 0]).next hb
  have hz1 : w.heap.size < w1.heap.size := K6.lt
  have K6a := K6.alloc (.cells #[.int .i64 0, .int .i64 1] 31)
  have K8 := Blk.new w1 31 #[.int .i64 0, .int .i64 1]
  have hB2 := hB1.alloc hB1.size (.cells #[.int .i64 0, .int .i64 1] 31)
  have hSw : w.heap.size < w1.heap.size := hz1
  clear hb K6 hz1
  go_wp2_with fail
  go_loopw [16] (fun i wr => ∃ k : Nat, k ≤ ls.length ∧ i = .int .i64 k ∧ Hid (∀ j, j < k → frB (lentS ls o t (j + 1)) = true) ∧ Blk wr w.heap.size 31 #[.int .i64 0, .int .i64 0] ∧ Blk wr w1.heap.size 31 #[.int .i64 (lentS ls o t k).num, .int .i64 ((lentS ls o t k).den : Int)] ∧ Below w.heap.size w wr) (fun i _ => ls.length - (intOf i).toNat)
  case atStart => exact ⟨0, Nat.zero_le _, rfl, fun j hj => by omega, K6a, K8, hB2⟩
  case round =>
    clear K6a K8 hB2 hB1
    obtain ⟨k, hk, rfl, HA, hR, hS8, hB⟩ := hrel
    have HRb := Lib.hid hR
    have HSb := Lib.hid hS8
    have HB := Lib.hid hB
    obtain ⟨s0, s1, s2, s3, s4⟩ := blk_two hS8
    obtain ⟨r0, r1, r2, r3, r4⟩ := blk_two hR
    by_cases hlt : k < ls.length
    · have hcz : ∃ g u, a = some ⟨g, u, none⟩ ∧ wr.cell? ⟨g, u + k * 6, none⟩ = some (.int .i64 (ls.getD k lr0).ow) ∧ wr.cell? ⟨g, u + k * 6 + 1, none⟩ = some (.int .i64 (ls.getD k lr0).te) ∧ wr.cell? ⟨g, u + k * 6 + 2, none⟩ = some (.int .i64 (ls.getD k lr0).n) ∧ wr.cell? ⟨g, u + k * 6 + 3, none⟩ = some (.int .i64 (ls.getD k lr0).d) ∧ wr.cell? ⟨g, u + k * 6 + 4, none⟩ = some (.int .i64 (ls.getD k lr0).fr) ∧ wr.cell? ⟨g, u + k * 6 + 5, none⟩ = some (.int .i64 (ls.getD k lr0).en) := by
        rcases ls_below HI.out hB with he | ⟨g, u, hA, hc⟩
        · rw [he] at hlt; simp at hlt
        · exact ⟨g, u, hA, hc k hlt⟩
      obtain ⟨g, u, rfl, c0, c1, c2, c3, c4, c5⟩ := hcz
      have hfr := lent_fr HA.out
      have hv := terms_at HT.out hlt
      have hstay : lendB (ls.getD k lr0) o t = false → Hid (∀ j, j < k + 1 → frB (lentS ls o t (j + 1)) = true) ∧ Blk wr w1.heap.size 31 #[.int .i64 (lentS ls o t (k + 1)).num, .int .i64 ((lentS ls o t (k + 1)).den : Int)] := fun e => by
        have e2 := lent_stay e
        exact ⟨rng_more (f := fun j => frB (lentS ls o t (j + 1))) HA.out (by show frB (lentS ls o t (k + 1)) = true; rw [e2]; exact hfr), by rw [e2]; exact hS8⟩
      have hmore : lendB (ls.getD k lr0) o t = true → lentS ls o t (k + 1) = lentS ls o t k + Rat.divInt (ls.getD k lr0).n (ls.getD k lr0).d := fun e => lent_more e
      have hno : frB (lentS ls o t (k + 1)) = false → lentOk ls o t = false := fun e => rng_no (f := fun j => frB (lentS ls o t (j + 1))) hlt e
      have hyes : frB (lentS ls o t (k + 1)) = true → ∀ j, j < k + 1 → frB (lentS ls o t (j + 1)) = true := fun e => rng_more (f := fun j => frB (lentS ls o t (j + 1))) HA.out e
      have hlend : lendB (ls.getD k lr0) o t = (decide ((ls.getD k lr0).ow = o) && atB (ls.getD k lr0) t) := rfl
      generalize ls.getD k lr0 = l at c0 c1 c2 c3 c4 c5 hv hstay hmore hlend
      have IRn := fun W => iruns l t W
      obtain ⟨ow, te, n, d, fr, en⟩ := l
      obtain ⟨bl, hbl⟩ : ∃ bl, lendB ⟨ow, te, n, d, fr, en⟩ o t = bl := ⟨_, rfl⟩
      obtain ⟨ba, hba⟩ : ∃ ba, atB ⟨ow, te, n, d, fr, en⟩ t = ba := ⟨_, rfl⟩
      rw [hbl] at hstay hmore
      rw [hbl, hba] at hlend
      rw [hba] at IRn
      dsimp only at c0 c1 c2 c3 c4 c5 hv hmore hlend IRn
      have PA := part_add hfr hv
      have HST := Lib.hid hstay
      have HMO := Lib.hid hmore
      have HNO := Lib.hid hno
      have HYES := Lib.hid hyes
      have HIR := Lib.hid IRn
      have HPA := Lib.hid PA
      have HLE := Lib.hid hlend
      obtain ⟨q, hq⟩ : ∃ q, lentS ls o t k = q := ⟨_, rfl⟩
      rw [hq] at s0 s1 HPA HMO HSb
      have hBa := hB.alloc hB.size (.cells #[.int .i64 ow, .int .i64 te, .int .i64 n, .int .i64 d, .int .i64 fr, .int .i64 en] 109)
      have HBA := Lib.hid hBa
      clear hfr hv hstay hmore hno hyes hbl hba hlend IRn PA hq hB hS8 hR hBa
      by_cases h1 : ow = o
      · have hl2 : bl = ba := by rw [HLE.out, decide_eq_true h1]; rfl
        subst hl2
        subst h1
        clear HLE
        cases bl with
        | false =>
          obtain ⟨y1, y2⟩ := HST.out rfl
          have Y2 := Lib.hid y2
          clear y2
          go_wp2_with fail
          refine (HIR.out _).mono ?_
          rintro e w2 ⟨rfl, hb⟩
          go_wp2_with fail
          go_roundw
          case rel => exact ⟨k + 1, by omega, by go_num, y1, (HRb.out.alloc _).next hb, (Y2.out.alloc _).next hb, bel_tr HBA.out hb⟩
          case measure => simp [intOf]; omega
        | true =>
          have hmo := HMO.out rfl
          obtain ⟨p1, p2, p3⟩ := HPA.out
          rw [← hmo] at p1 p2 p3
          have K0 := Blk.new wr 109 #[.int .i64 ow, .int .i64 te, .int .i64 n, .int .i64 d, .int .i64 fr, .int .i64 en]
          cases hf : frB (lentS ls ow t (k + 1)) with
          | false =>
            have HN : Hid (lentOk ls ow t = false) := HNO.out hf
            have P1 := Lib.hid (p1.trans hf)
            clear hmo p1 p2 p3 hf
            go_wp2_with fail
            refine (HIR.out _).mono ?_
            rintro e w2 ⟨rfl, hb⟩
            have S2 := (HSb.out.alloc (.cells #[.int .i64 ow, .int .i64 te, .int .i64 n, .int .i64 d, .int .i64 fr, .int .i64 en] 109)).next hb
            have R2 := (HRb.out.alloc (.cells #[.int .i64 ow, .int .i64 te, .int .i64 n, .int .i64 d, .int .i64 fr, .int .i64 en] 109)).next hb
            have K2 := K0.next hb
            have B2 := bel_tr HBA.out hb
            clear s0 s1 s2 s3 s4 r0 r1 r2 r3 r4 c0 c1 c2 c3 c4 c5 K0 hb
            obtain ⟨s0, s1, s2, s3, s4⟩ := blk_two S2
            have f2 := K2.cell 2
            have f3 := K2.cell 3
            dsimp at f2 f3
            go_wp2_with fail
            refine (iAddN _ P1.out).mono ?_
            rintro e w3 ⟨rfl, hb⟩
            have R3 := (R2.next hb).alloc (.cells #[.int .i64 0, .int .i64 0] 31)
            have B3 := (bel_tr B2 hb).alloc (bel_tr B2 hb).size (.cells #[.int .i64 0, .int .i64 0] 31)
            obtain ⟨r0, r1, r2, r3, r4⟩ := blk_two R3
            obtain ⟨x0, x1, _, _, _⟩ := blk_two (R3.two (.int .i64 0) (.int .i64 0))
            clear s0 s1 s2 s3 s4 f2 f3 S2 R2 K2 R3
            go_wp2_with fail
            refine bodyPost_ret (v := .tuple #[.agg #[.int .i64 0, .int .i64 0], .bool false]) (by simp [results, Try.results76, go_sem, x0, x1]) rfl ⟨?_, ?_⟩
            · rw [HN.out]; rfl
            · exact (B3.setCell (p := ⟨w.heap.size, 0, none⟩) (Nat.le_refl _) _).setCell (p := ⟨w.heap.size, 1, none⟩) (Nat.le_refl _) _
          | true =>
            have HY : Hid (∀ j, j < k + 1 → frB (lentS ls ow t (j + 1)) = true) := HYES.out hf
            have P1 := Lib.hid (p1.trans hf)
            have P2 := Lib.hid p2
            have P3 := Lib.hid p3
            clear hmo p1 p2 p3 hf
            go_wp2_with fail
            refine (HIR.out _).mono ?_
            rintro e w2 ⟨rfl, hb⟩
            have S2 := (HSb.out.alloc (.cells #[.int .i64 ow, .int .i64 te, .int .i64 n, .int .i64 d, .int .i64 fr, .int .i64 en] 109)).next hb
            have R2 := (HRb.out.alloc (.cells #[.int .i64 ow, .int .i64 te, .int .i64 n, .int .i64 d, .int .i64 fr, .int .i64 en] 109)).next hb
            have K2 := K0.next hb
            have B2 := bel_tr HBA.out hb
            clear s0 s1 s2 s3 s4 r0 r1 r2 r3 r4 c0 c1 c2 c3 c4 c5 K0 hb
            obtain ⟨s0, s1, s2, s3, s4⟩ := blk_two S2
            have f2 := K2.cell 2
            have f3 := K2.cell 3
            dsimp at f2 f3
            go_wp2_with fail
            refine (iAddQ _ P1.out P2.out P3.out).mono ?_
            rintro e w3 ⟨rfl, hb⟩
            have R3 := R2.next hb
            have S3 := S2.next hb
            have B3 := bel_tr B2 hb
            have ne : w.heap.size ≠ w1.heap.size := Nat.ne_of_lt hSw
            obtain ⟨t0, t1, t2, t3, t4⟩ := blk_two S3
            clear s0 s1 s2 s3 s4 f2 f3 S2 R2 K2
            go_wp2_with fail
            go_roundw
            case rel => exact ⟨k + 1, by omega, by go_num, HY.out, ((R3.far (by exact ne) _).far (by exact ne) _).alloc _, (S3.two _ _).alloc _, ((B3.setCell (by exact Nat.le_of_lt hSw) _).setCell (by exact Nat.le_of_lt hSw) _).alloc (by simpa using B3.size) _⟩
            case measure => simp [intOf]; omega
      · have e1 : (ow == o) = false := by simpa using h1
        have hl2 : bl = false := by rw [HLE.out, decide_eq_false h1]; rfl
        subst hl2
        have e1b : (ow != o) = true := by simpa using h1
        have e1c : decide (ow = o) = false := decide_eq_false h1
        obtain ⟨y1, y2⟩ := HST.out rfl
        have Y2 := Lib.hid y2
        clear y2
        go_wp2_with fail
        go_roundw
        case rel => exact ⟨k + 1, by omega, by go_num, y1, HRb.out.alloc _, Y2.out.alloc _, HBA.out⟩
        case measure => simp [intOf]; omega
    · obtain rfl : ls.length = k := by omega
      have HN : Hid (lentOk ls o t = true) := rng_yes (f := fun j => frB (lentS ls o t (j + 1))) HA.out
      have hx : ∀ q : Rat, Blk ((wr.setCell ⟨w.heap.size, 0, none⟩ (.int .i64 q.num)).setCell ⟨w.heap.size, 1, none⟩ (.int .i64 (q.den : Int))) w.heap.size 31 #[.int .i64 q.num, .int .i64 (q.den : Int)] := fun q => HRb.out.two _ _
      obtain ⟨x0, x1, _, _, _⟩ := blk_two (hx (lentS ls o t ls.length))
      have hB3 := ((hB.setCell (p := ⟨w.heap.size, 0, none⟩) (Nat.le_refl _) (.int .i64 (lentS ls o t ls.length).num)).setCell (p := ⟨w.heap.size, 1, none⟩) (Nat.le_refl _) (.int .i64 ((lentS ls o t ls.length).den : Int)))
      have HB3 := Lib.hid hB3
      clear hR hS8 hB hx hB3
      go_wp2_with fail
      refine bodyPost_ret (v := .tuple #[.agg #[.int .i64 (lentS ls o t ls.length).num, .int .i64 ((lentS ls o t ls.length).den : Int)], .bool true]) (by simp [results, Try.results76, go_sem, x0, x1]) rfl ⟨?_, ?_⟩
      · rw [HN.out]; rfl
      · exact HB3.out
end Go.Proofs.Ytgmmdpdlekpmfac
namespace Go.Proofs.Ytgmmdpdlekpmfac
open Go.RowKit
set_option linter.unusedSimpArgs false

theorem keepZ {W wq v : World} {x y u : Value} {k : Nat} {q : Addr} (hb : Below W.heap.size W wq) (h : W.cell? ⟨k, 0, none⟩ = some x ∧ W.cell? ⟨k, 1, none⟩ = some y ∧ W.cell? q = some u ∧ Below v.heap.size v W) : wq.cell? ⟨k, 0, none⟩ = some x ∧ wq.cell? ⟨k, 1, none⟩ = some y ∧ wq.cell? q = some u ∧ Below v.heap.size v wq :=
  ⟨cell_next hb h.1, cell_next hb h.2.1, cell_next hb h.2.2.1, bel_tr h.2.2.2 hb⟩
theorem keepZB {W v : World} {x y u : Value} {k : Nat} {q : Addr} (h : W.cell? ⟨k, 0, none⟩ = some x ∧ W.cell? ⟨k, 1, none⟩ = some y ∧ W.cell? q = some u ∧ Below v.heap.size v W) : Below v.heap.size v W := h.2.2.2
theorem iCmpIs {an ad bn bd c : Int} (w : World) (h : Wsh.cmpF an ad bn bd = c) :
    Calls Try.prog 77 #[.agg #[.int .i64 an, .int .i64 ad], .agg #[.int .i64 bn, .int .i64 bd]] w fun e w' => e = .returned (.int .i64 c) ∧ Below w.heap.size w w' := by
  rw [← h]; exact iCompare an ad bn bd w
/-- the k-th lease: what its owner lends when it begins is a fraction, and no more than his share -/
def lzK (hs : List Hd) (ls : List Lr) (k : Nat) : Bool := lentOk ls (ls.getD k lr0).ow (ls.getD k lr0).fr && !decide (0 < Wsh.cmpF (lentS ls (ls.getD k lr0).ow (ls.getD k lr0).fr ls.length).num ((lentS ls (ls.getD k lr0).ow (ls.getD k lr0).fr ls.length).den : Int) (shareL (ledOf hs) (ls.getD k lr0).ow).num ((shareL (ledOf hs) (ls.getD k lr0).ow).den : Int))
def lzB (hs : List Hd) (ls : List Lr) : Bool := vlR hs && decide (ls.length ≤ 10) && termsB ls && (List.range ls.length).all (lzK hs ls)
theorem lz_no {hs : List Hd} {ls : List Lr} (h : vlR hs = false ∨ 10 < ls.length ∨ termsB ls = false) : lzB hs ls = false := by
  unfold lzB
  rcases h with h | h | h
  · rw [h]; rfl
  · rw [decide_eq_false (by omega : ¬ ls.length ≤ 10)]; simp
  · rw [h]; simp
theorem lz_eq {hs : List Hd} {ls : List Lr} (h1 : vlR hs = true) (h2 : ls.length ≤ 10) (h3 : termsB ls = true) : lzB hs ls = (List.range ls.length).all (lzK hs ls) := by
  unfold lzB; rw [h1, h3, decide_eq_true h2]; rfl

set_option maxRecDepth 100000 in
set_option maxHeartbeats 1500000 in
/-- impl.ValidLeases -/
theorem iLeases (a : Option Addr) (cap : Nat) (hs : List Hd) (A : Option Addr) (capz : Nat) (ls : List Lr) (w : World) (h : IsHs w a hs) (hn : hs.length ≤ 1048576) (hz : IsLs w A ls) (hzn : ls.length ≤ 1048576) :
    Calls Try.prog 41 #[.slice a hs.length cap, .slice A ls.length capz] w fun e w' => e = .returned (.bool (lzB hs ls)) ∧ Below w.heap.size w w' := by
  have hv := iVL a cap hs w h hn
  have HI := Lib.hid h
  have HZ := Lib.hid hz
  clear h hz
  cases hvl : vlR hs with
  | false =>
    have HN : Hid (lzB hs ls = false) := lz_no (.inl hvl)
    rw [hvl] at hv
    clear hvl
    go_enter Try.func41, Try.ntmps41
    go_wp2_with fail
    refine hv.mono ?_
    rintro e w1 ⟨rfl, hb⟩
    go_wp2_with fail
    go_ret
    exact ⟨ret_bool HN.out.symm, hb⟩
  | true =>
    rw [hvl] at hv
    by_cases h10 : 10 < ls.length
    · have HN : Hid (lzB hs ls = false) := lz_no (.inr (.inl h10))
      clear hvl
      go_enter Try.func41, Try.ntmps41
      go_wp2_with fail
      refine hv.mono ?_
      rintro e w1 ⟨rfl, hb⟩
      go_wp2_with fail
      go_ret
      exact ⟨ret_bool HN.out.symm, hb⟩
    · have e10 : decide (10 < (ls.length : Int)) = false := by simp; omega
      have l10 : ls.length ≤ 10 := by omega
      cases ht : termsB ls with
      | false =>
        have HN : Hid (lzB hs ls = false) := lz_no (.inr (.inr ht))
        have HT := Lib.hid ht
        clear hvl ht h10
        go_enter Try.func41, Try.ntmps41
        go_wp2_with fail
        refine hv.mono ?_
        rintro e w1 ⟨rfl, hb⟩
        go_wp2_with fail
        have IT := iterms A capz ls _ (ls_below HZ.out hb) hzn
        rw [HT.out] at IT
        refine IT.mono ?_
        rintro e w2 ⟨rfl, hb2⟩
        clear IT
        go_wp2_with fail
        go_ret
        exact ⟨ret_bool HN.out.symm, bel_tr hb hb2⟩
      | true =>
        have HE : Hid (lzB hs ls = (List.range ls.length).all (lzK hs ls)) := lz_eq hvl l10 ht
        have HT := Lib.hid ht
        have HV := Lib.hid hvl
        clear hvl ht h10
        go_enter Try.func41, Try.ntmps41
        go_wp2_with fail
        refine hv.mono ?_
        rintro e w1 ⟨rfl, hb⟩
        go_wp2_with fail
        have IT := iterms A capz ls _ (ls_below HZ.out hb) hzn
        rw [HT.out] at IT
        refine IT.mono ?_
        rintro e w2 ⟨rfl, hb2⟩
        have hB2 := bel_tr hb hb2
        clear IT hb hb2
        go_wp2_with fail
        go_loopw [24] (fun i wr => ∃ k : Nat, k ≤ ls.length ∧ i = .int .i64 k ∧ Hid (∀ j, j < k → lzK hs ls j = true) ∧ Below w.heap.size w wr) (fun i _ => ls.length - (intOf i).toNat)
        case atStart => exact ⟨0, Nat.zero_le _, rfl, fun j hj => by omega, hB2⟩
        case round =>
          clear hB2
          obtain ⟨k, hk, rfl, HA, hB⟩ := hrel
          by_cases hlt : k < ls.length
          · have hcz : ∃ g u, A = some ⟨g, u, none⟩ ∧ wr.cell? ⟨g, u + k * 6, none⟩ = some (.int .i64 (ls.getD k lr0).ow) ∧ wr.cell? ⟨g, u + k * 6 + 1, none⟩ = some (.int .i64 (ls.getD k lr0).te) ∧ wr.cell? ⟨g, u + k * 6 + 2, none⟩ = some (.int .i64 (ls.getD k lr0).n) ∧ wr.cell? ⟨g, u + k * 6 + 3, none⟩ = some (.int .i64 (ls.getD k lr0).d) ∧ wr.cell? ⟨g, u + k * 6 + 4, none⟩ = some (.int .i64 (ls.getD k lr0).fr) ∧ wr.cell? ⟨g, u + k * 6 + 5, none⟩ = some (.int .i64 (ls.getD k lr0).en) := by
              rcases ls_below HZ.out hB with he | ⟨g, u, hA, hc⟩
              · rw [he] at hlt; simp at hlt
              · exact ⟨g, u, hA, hc k hlt⟩
            obtain ⟨g, u, hAe, c0, c1, c2, c3, c4, c5⟩ := hcz
            have hno : lzK hs ls k = false → (List.range ls.length).all (lzK hs ls) = false := fun e => rng_no hlt e
            have hyes : lzK hs ls k = true → ∀ j, j < k + 1 → lzK hs ls j = true := fun e => rng_more HA.out e
            have hdef : lzK hs ls k = (lentOk ls (ls.getD k lr0).ow (ls.getD k lr0).fr && !decide (0 < Wsh.cmpF (lentS ls (ls.getD k lr0).ow (ls.getD k lr0).fr ls.length).num ((lentS ls (ls.getD k lr0).ow (ls.getD k lr0).fr ls.length).den : Int) (shareL (ledOf hs) (ls.getD k lr0).ow).num ((shareL (ledOf hs) (ls.getD k lr0).ow).den : Int))) := rfl
            generalize ls.getD k lr0 = l at c0 c1 c2 c3 c4 c5 hdef
            obtain ⟨ow, te, n, d, fr, en⟩ := l
            dsimp only at c0 c1 c2 c3 c4 c5 hdef
            have IL := fun W hW => ilent A capz ls ow fr W hW hzn HT.out
            obtain ⟨b, hb⟩ : ∃ b, lentOk ls ow fr = b := ⟨_, rfl⟩
            obtain ⟨q, hq⟩ : ∃ q, lentS ls ow fr ls.length = q := ⟨_, rfl⟩
            rw [hb, hq] at IL hdef
            have HIL := Lib.hid IL
            have HD := Lib.hid hdef
            have HNO := Lib.hid hno
            have HYES := Lib.hid hyes
            have K0 := Blk.new wr 109 #[.int .i64 ow, .int .i64 te, .int .i64 n, .int .i64 d, .int .i64 fr, .int .i64 en]
            have hBa := hB.alloc hB.size (.cells #[.int .i64 ow, .int .i64 te, .int .i64 n, .int .i64 d, .int .i64 fr, .int .i64 en] 109)
            clear IL hdef hno hyes hb hq hB
            subst hAe
            cases b with
            | false =>
              have HN : Hid (lzB hs ls = false) := HE.out.trans (HNO.out (by rw [HD.out]; rfl))
              go_wp2_with fail
              refine (HIL.out _ (ls_below HZ.out hBa)).mono ?_
              rintro e w3 ⟨rfl, hb⟩
              have hB3 := bel_tr hBa hb
              have hB4 := hB3.alloc hB3.size (.cells #[.int .i64 (Wsh.qn false q.num), .int .i64 (Wsh.qn false (q.den : Int))] 31)
              clear c0 c1 c2 c3 c4 c5 K0 hb
              go_wp2_with fail
              go_quiet (fail)
              go_wp2_with fail
              go_ret
              exact ⟨ret_bool HN.out.symm, below_drewN hB4 _⟩
            | true =>
              have HIL2 : ∀ W : World, IsLs W (some ⟨g, u, none⟩) ls → Calls Try.prog 76 #[.slice (some ⟨g, u, none⟩) ls.length capz, .int .i64 ow, .int .i64 fr] W fun e w' => e = .returned (.tuple #[.agg #[.int .i64 q.num, .int .i64 (q.den : Int)], .bool true]) ∧ Below W.heap.size W w' := HIL.out
              obtain ⟨c, hc⟩ : ∃ c, Wsh.cmpF q.num (q.den : Int) (shareL (ledOf hs) ow).num ((shareL (ledOf hs) ow).den : Int) = c := ⟨_, rfl⟩
              have HC := Lib.hid hc
              have HD2 : Hid (lzK hs ls k = !decide (0 < c)) := by show _ = _; rw [HD.out, hc]; rfl
              clear hc
              go_wp2_with fail
              refine (HIL2 _ (ls_below HZ.out hBa)).mono ?_
              rintro e w3 ⟨rfl, hb⟩
              have hB3 := bel_tr hBa hb
              have K3 := K0.next hb
              have hB4 := hB3.alloc hB3.size (.cells #[.int .i64 q.num, .int .i64 (q.den : Int)] 31)
              have S4 := Blk.new w3 31 #[.int .i64 q.num, .int .i64 (q.den : Int)]
              have L4 := K3.alloc (.cells #[.int .i64 q.num, .int .i64 (q.den : Int)] 31)
              obtain ⟨s0, s1, s2, s3, s4⟩ := blk_two S4
              have f0 := L4.cell 0
              dsimp at f0
              clear c0 c1 c2 c3 c4 c5 K0 hb K3 S4 L4
              obtain ⟨W4, hW4⟩ : ∃ W4, W4 = w3.alloc (.cells #[.int .i64 q.num, .int .i64 (q.den : Int)] 31) := ⟨_, rfl⟩
              rw [← hW4] at s0 s1 f0 hB4
              clear s2 s3 s4
              go_upto_region 7 with fail
              rw [← hW4]
              clear hW4
              go_region_held3 (fun w' => w'.cell? ⟨w3.heap.size, 0, none⟩ = some (.int .i64 q.num) ∧ w'.cell? ⟨w3.heap.size, 1, none⟩ = some (.int .i64 (q.den : Int)) ∧ w'.cell? ⟨wr.heap.size, 0, none⟩ = some (.int .i64 ow) ∧ Below W4.heap.size W4 w') (first | (exact keepZ hb (by assumption)) | (refine ⟨?_, ?_, ?_, ?_⟩ <;> first | (go_keep; done) | exact (Below.refl _ _).drew))
                (first | (go_at_call 78; refine (ishareL a cap (ledOf hs) hs ow _ (hs_below (hs_below HI.out hB4) (keepZB (by assumption))) (led_eq HV.out) hn).mono ?_; rintro e wq ⟨rfl, hb⟩) | (go_at_call 77; refine (iCmpIs _ HC.out).mono ?_; rintro e wq2 ⟨rfl, hb⟩))
              have hB5 := bel_tr hB4 (keepZB (by assumption))
              have HB5 := Lib.hid hB5
              clear hB5
              by_cases h0 : 0 < c
              · have HN : Hid (lzB hs ls = false) := HE.out.trans (HNO.out (by rw [HD2.out, decide_eq_true h0]; rfl))
                have e0 : decide (0 < c) = true := decide_eq_true h0
                go_wp2_with fail
                go_ret
                exact ⟨ret_bool HN.out.symm, HB5.out⟩
              · have HY : Hid (∀ j, j < k + 1 → lzK hs ls j = true) := HYES.out (by rw [HD2.out, decide_eq_false h0]; rfl)
                have e0 : decide (0 < c) = false := decide_eq_false h0
                go_wp2_with fail
                go_roundw
                case rel => exact ⟨k + 1, by omega, by go_num, HY.out, HB5.out⟩
                case measure => simp [intOf]; omega
          · obtain rfl : ls.length = k := by omega
            have HN : Hid (lzB hs ls = true) := HE.out.trans (rng_yes HA.out)
            have HB := Lib.hid hB
            clear hB
            go_wp2_with fail
            go_ret
            exact ⟨ret_bool HN.out.symm, HB.out⟩
end Go.Proofs.Ytgmmdpdlekpmfac
