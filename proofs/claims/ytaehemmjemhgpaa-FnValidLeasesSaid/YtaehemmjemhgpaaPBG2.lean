/- Contracts and facts of functions of this program, in build order. Conditions: those stated in each. -/
import Derived.Test.YtaehemmjemhgpaaPBG1
import Derived.Test.YtaehemmjemhgpaaPBHoldW
import Derived.Test.YtaehemmjemhgpaaPBSetI
set_option maxRecDepth 100000
set_option maxHeartbeats 16000000
namespace Go.Proofs.Ytaehemmjemhgpaa
open Go.RowKit
set_option linter.unusedSimpArgs false
set_option linter.unusedVariables false
def shV (hs : List Hd) (o : Int) : Int × Int := if vlR hs then shR hs o else (0, 0)
def ShareO (w : World) (hs : List Hd) (o : Int) (e : Ending) (w' : World) : Prop := e = .returned (.agg #[.int .i64 (shV hs o).1, .int .i64 (shV hs o).2]) ∧ Below w.heap.size w w'
theorem iShareOf (a : Option Addr) (cap : Nat) (hs : List Hd) (o : Int) (w : World) (h : IsHs w a hs) (hn : hs.length ≤ 1048576) :
    Calls Try.prog 163 #[.slice a hs.length cap, .int .i64 o] w (ShareO w hs o) := by
  have HI := Lib.hid h
  clear h
  cases hv : vlR hs with
  | false =>
    have CV := iVL a cap hs (w.alloc (.cells #[.int .i64 0, .int .i64 0] 58)) (hs_below HI.out (by go_grown)) hn
    rw [hv] at CV
    have HS : Hid (shV hs o = (0, 0)) := by show shV hs o = (0, 0); unfold shV; rw [hv]; rfl
    clear hv
    go_enter Try.func163, Try.ntmps163
    go_wp2_with fail
    refine CV.mono ?_
    rintro e w1 ⟨rfl, hb⟩
    obtain ⟨t0, t1, t2, t3, t4⟩ := blk_two ((Blk.new w 58 #[.int .i64 0, .int .i64 0]).next hb)
    have hB := bel_tr ((Below.refl w.heap.size w).alloc (Nat.le_refl _) _) hb
    clear hb CV
    go_wp2_with fail
    exact bodyPost_ret (v := .agg #[.int .i64 0, .int .i64 0]) (by simp [results, Try.results163, go_sem, t0, t1]) rfl ⟨by rw [HS.out], (hB.setCell (by simp) _).setCell (by simp) _⟩
  | true =>
    have CV := iVL a cap hs (w.alloc (.cells #[.int .i64 0, .int .i64 0] 58)) (hs_below HI.out (by go_grown)) hn
    rw [hv] at CV
    have HS : Hid (shV hs o = shR hs o) := by show shV hs o = shR hs o; unfold shV; rw [hv]; rfl
    clear hv
    go_enter Try.func163, Try.ntmps163
    go_wp2_with fail
    refine CV.mono ?_
    rintro e w1 ⟨rfl, hb⟩
    have hS := (Blk.new w 58 #[.int .i64 0, .int .i64 0]).next hb
    have hB := bel_tr ((Below.refl w.heap.size w).alloc (Nat.le_refl _) _) hb
    clear hb CV
    go_wp2_with fail
    refine (ishare a cap hs o _ (hs_below HI.out hB) hn).mono ?_
    rintro e w2 ⟨rfl, hb2⟩
    obtain ⟨t0, t1, t2, t3, t4⟩ := blk_two (hS.next hb2)
    have hB2 := bel_tr hB hb2
    clear hb2 hS hB
    obtain ⟨x, hx⟩ : ∃ x, x = (shR hs o).1 := ⟨_, rfl⟩
    obtain ⟨y, hy⟩ : ∃ y, y = (shR hs o).2 := ⟨_, rfl⟩
    rw [← hx, ← hy]
    have HX := Lib.hid hx
    have HY := Lib.hid hy
    clear hx hy
    go_wp2_with fail
    exact bodyPost_ret (v := .agg #[.int .i64 x, .int .i64 y]) (by simp [results, Try.results163, go_sem, t0, t1]) rfl ⟨by rw [HS.out, HX.out, HY.out], (hB2.setCell (by simp) _).setCell (by simp) _⟩
theorem own_snoc {w : World} {base : Nat} {v : Value} {A : List Hd} {o n d : Int} (h : w.ownsRow base 91 3 v (A.length + 1) (valsH A ++ [.int .i64 o, .int .i64 n, .int .i64 d])) : OwnH w base v (A ++ [(o, n, d)]) := by
  unfold OwnH
  rw [List.length_append, vals_append]; exact h
theorem setTo_not (L : Led) (o : Int) (q : Rat) : ∀ k, k ≤ L.length → (setTo L o q k).2 = false → q ≠ 0 := by
  intro k
  induction k with
  | zero => intro _ h; rw [setTo_zero] at h; simpa using h
  | succ k ih =>
    intro hk h
    rw [setTo_succ o q (by omega)] at h
    simp only [Bool.or_eq_false_iff] at h
    exact ih (by omega) h.1
theorem setTo_raw {L : Led} {hs : List Hd} (hh : hs = rawL L) {n d : Int} {q : Rat} (hq : shareIs n d q) (o : Int) {k : Nat} (hk : k < hs.length) {c : Bool} (hc : (setTo L o q k).2 = c) {x xn xd : Int} (hx : hs.getD k hd0 = (x, xn, xd)) :
    rawL (setTo L o q (k + 1)).1 = rawL (setTo L o q k).1 ++ ((if !c && decide (o ≤ x) then [(o, n, d)] else []) ++ (if x ≠ o then [(x, xn, xd)] else [])) ∧ (setTo L o q (k + 1)).2 = (c || decide (o ≤ x)) := by
  subst hh
  rw [raw_len] at hk
  rw [raw_get L hk] at hx
  have e1 : (L.getD k (0, 0)).1 = x := congrArg Prod.fst hx
  have e3 : rawL [L.getD k (0, 0)] = [(x, xn, xd)] := by show [rawH (L.getD k (0, 0))] = _; rw [hx]
  rw [setTo_succ o q hk, hc, e1]
  refine ⟨?_, rfl⟩
  dsimp only
  rw [raw_append, raw_append]
  congr 2
  · by_cases h : (!c && decide (o ≤ x)) = true
    · rw [if_pos h, if_pos h]
      have hcf : c = false := by cases c with | true => simp at h | false => rfl
      have := setTo_not L o q k (by omega) (by rw [hc, hcf])
      show [rawH (o, q)] = _
      rw [shareIs_raw hq this]
    · rw [if_neg h, if_neg h]; rfl
  · by_cases h : x ≠ o
    · rw [if_pos h, if_pos h, e3]
    · rw [if_neg h, if_neg h]; rfl
theorem sset (a : Option Addr) (cap : Nat) (L : Led) (hs : List Hd) (o n d : Int) (q : Rat) (w : World) (h : IsHs w a hs) (hhs : hs = rawL L) (hn : hs.length ≤ 1000) (hq : shareIs n d q) :
    Calls Try.prog 161 #[.slice a hs.length cap, .int .i64 o, .agg #[.int .i64 n, .int .i64 d]] w (NewH w (rawL (setL L o q))) := by
  obtain ⟨i0, hi0, hz0, hz1, hz2⟩ := info_parts infoH
  have HQ := Lib.hid hq
  have HZ : Hid (decide (q = 0) = (n == 0)) := by show _ = _; rw [shareIs_zero hq]; by_cases e : n = 0 <;> simp [e]
  have HE : Hid (rawL (setL L o q) = rawL (setTo L o q hs.length).1 ++ (if (setTo L o q hs.length).2 then [] else [(o, n, d)])) := by
    show _ = _
    rw [setTo_end, raw_append, hhs, raw_len]
    congr 1
    cases hc : (setTo L o q L.length).2 with
    | true => rfl
    | false =>
      show [rawH (o, q)] = _
      rw [shareIs_raw hq (setTo_not L o q _ (Nat.le_refl _) hc)]; rfl
  have HLn : Hid (∀ k, k ≤ hs.length → (rawL (setTo L o q k).1).length ≤ 2 * k) := fun k hk => by rw [raw_len]; exact setTo_len L o q k (by rw [hhs, raw_len] at hk; exact hk)
  rcases h with he | ⟨g, off, rfl, hc⟩
  · have e0 : hs.length = 0 := by rw [he]; rfl
    rw [e0] at HE ⊢
    clear he hhs hq
    have hq0 := HE.out
    have hl0 : (rawL (setTo L o q 0).1) = [] := rfl
    have hs0 : (setTo L o q 0).2 = (n == 0) := by show decide (q = 0) = _; exact HZ.out
    rw [hl0, hs0] at hq0
    by_cases hz : n = 0
    · have hzb : (n == 0) = true := by simpa using hz
      have HW : Hid (rawL (setL L o q) = []) := by show _ = _; rw [hq0, hzb]; rfl
      clear hz hq0 hl0 hs0 HZ
      go_enter Try.func161, Try.ntmps161
      go_wp2_with fail
      refine wp_loop_rounds 1 ?_
      rw [rounds_succ]
      go_wp2_with fail
      go_ret
      refine ⟨_, rfl, ?_, by go_grown⟩
      rw [HW.out]
      exact ⟨rfl, .inr ⟨w.heap.size + 1, 0, #[], rfl, by omega, by have := Blk.new (w.alloc (.cells #[.int .i64 n, .int .i64 d] 58)) 91 #[]; rw [World.size_alloc] at this; exact this, Nat.le_refl _, by unfold maxLen; omega, rfl, rfl⟩⟩
    · have hzb : (n == 0) = false := by simpa using hz
      have HW : Hid (rawL (setL L o q) = [(o, n, d)]) := by show _ = _; rw [hq0, hzb]; rfl
      have hown : ((w.alloc (.cells #[.int .i64 n, .int .i64 d] 58)).alloc (.cells #[] 91)).ownsRow (w.heap.size + 1) 91 3 (.slice (some ⟨w.heap.size + 1, 0, none⟩) 0 0) 0 (valsH []) := ⟨rfl, .inr ⟨w.heap.size + 1, 0, #[], rfl, by omega, by have := Blk.new (w.alloc (.cells #[.int .i64 n, .int .i64 d] 58)) 91 #[]; rw [World.size_alloc] at this; exact this, Nat.le_refl _, by unfold maxLen; omega, rfl, rfl⟩⟩
      have HO := Lib.hid hown
      clear hz hq0 hl0 hs0 HZ hown
      go_enter Try.func161, Try.ntmps161
      go_wp2_with fail
      refine wp_loop_rounds 1 ?_
      rw [rounds_succ]
      go_wp2_with (first | (at_builtin; refine wpList_append_own _ rfl (.tmp 53) (.tmp 57) _ rfl (w.heap.size + 1) 91 i0 _ 3 24 Try.underlying23 hi0 hz0 hz1 hz2 rfl (by decide) _ _ (valsH []) rfl (HO.out.alloc _) ⟨w.heap.size + 2, 0, none⟩ 1 1 [.int .i64 o, .int .i64 n, .int .i64 d] rfl rfl (by have := new_cells ((w.alloc (.cells #[.int .i64 n, .int .i64 d] 58)).alloc (.cells #[] 91)) [.int .i64 o, .int .i64 n, .int .i64 d] 91; rw [World.size_alloc, World.size_alloc] at this; exact this) (vals_one [(o, n, d)]) (by unfold maxLen; omega) (by omega) (by simp <;> omega) ?_; intro v3 w3 h3 g3 n3))
      have O3 : OwnH w3 (w.heap.size + 1) v3 ([] ++ [(o, n, d)]) := own_snoc h3
      go_ret
      exact ⟨v3, rfl, by rw [HW.out]; exact own_base O3, ((((Below.refl _ _).alloc (Nat.le_refl _) _).alloc (by simp) _).alloc (by simp; omega) _).grown g3 (by simp; omega) (fun q hq => by have e : w.heap.size + 1 = q := Option.some.inj hq; omega)⟩
  · have HC := Lib.hid hc
    have HS := Lib.hid hhs
    clear hc hhs hq
    go_enter Try.func161, Try.ntmps161
    go_wp2_with fail
    go_loopw [7, 8, 9] (fun v b i wr => ∃ k : Nat, i = .int .i64 k ∧ b = .bool (setTo L o q k).2 ∧ k ≤ hs.length ∧ OwnH wr (w.heap.size + 1) v (rawL (setTo L o q k).1) ∧ Blk wr w.heap.size 58 #[.int .i64 n, .int .i64 d] ∧ Below w.heap.size w wr ∧ w.heap.size + 2 ≤ wr.heap.size) (fun _ _ i _ => hs.length - (intOf i).toNat)
    case atStart => exact ⟨0, rfl, by show _ = Value.bool (decide (q = 0)); rw [HZ.out], Nat.zero_le _, ⟨rfl, .inr ⟨w.heap.size + 1, 0, #[], rfl, Nat.le_refl _, by have := Blk.new (w.alloc (.cells #[.int .i64 n, .int .i64 d] 58)) 91 #[]; rw [World.size_alloc] at this; exact this, Nat.le_refl _, by unfold maxLen; omega, rfl, rfl⟩⟩, (Blk.new _ _ _).alloc _, by go_grown, by simp⟩
    case round =>
      obtain ⟨k, rfl, rfl, hk, hown, hS, hB, hsz⟩ := hrel
      unfold OwnH at hown
      obtain ⟨c, hcc⟩ : ∃ c, (setTo L o q k).2 = c := ⟨_, rfl⟩
      have hal := HLn.out k hk
      by_cases hlt : k < hs.length
      · obtain ⟨c0, c1, c2⟩ := cells_at HC.out hB hlt
        have ht := fun x xn xd => setTo_raw HS.out HQ.out o hlt hcc (x := x) (xn := xn) (xd := xd)
        obtain ⟨hh, hhe⟩ : ∃ hh, hs.getD k hd0 = hh := ⟨_, rfl⟩
        obtain ⟨x, xn, xd⟩ := hh
        rw [hhe] at c0 c1 c2
        dsimp only at c0 c1 c2
        have ht := ht x xn xd hhe
        rw [hcc]
        generalize rawL (setTo L o q k).1 = A at hown hal ht
        obtain ⟨t0, t1, t2, t3, t4⟩ := blk_two hS
        have HH := Lib.hid hhe
        clear hcc hhe
        by_cases hp : (!c && decide (o ≤ x)) = true
        · rw [if_pos hp] at ht
          simp only [Bool.and_eq_true, Bool.not_eq_true', decide_eq_true_eq] at hp
          obtain ⟨rfl, hox⟩ := hp
          by_cases hx : x = o
          · rw [if_neg (fun e => e hx)] at ht
            have HT := Lib.hid ht
            have hxb : (x == o) = true := by simpa using hx
            have hxn : (x != o) = false := by simp [hx]
            clear ht hx
            go_wp2_with (first | (at_builtin; refine wpList_append_own _ rfl (.tmp 31) (.tmp 35) _ rfl (w.heap.size + 1) 91 i0 _ 3 24 Try.underlying23 hi0 hz0 hz1 hz2 rfl (by decide) _ _ (valsH A) rfl (hown.alloc _) ⟨wr.heap.size, 0, none⟩ 1 1 [.int .i64 o, .int .i64 n, .int .i64 d] rfl rfl (new_cells wr _ _) (vals_one [(o, n, d)]) (by unfold maxLen; omega) (by omega) (by simp; omega) ?_; intro v2 w2 h2 g2 n2; have O2 : OwnH w2 (w.heap.size + 1) v2 (A ++ [(o, n, d)]) := own_snoc h2; have B2 : Below w.heap.size w w2 := (hB.alloc hB.size _).grown g2 (by simp; omega) (fun q hq => by have := (hown.lt q hq).1; omega); have S2 : Blk w2 w.heap.size 58 #[.int .i64 n, .int .i64 d] := (hS.alloc _).grown g2 (fun e => by have := (hown.lt _ e.symm).1; omega); have Z2 : (A ++ [(o, n, d)]).length ≤ 2 * k + 1 := (by rw [List.length_append]; simp; omega); have z2 : w.heap.size + 2 ≤ w2.heap.size := (by have := g2.size; simp at this; omega); obtain ⟨c0, c1, c2⟩ := cells_at HC.out B2 hlt; rw [HH.out] at c0 c1 c2; dsimp only at c0 c1 c2; clear h2 g2 n2; unfold OwnH at O2))
            go_roundw
            case rel => exact ⟨k + 1, by go_num, by rw [HT.out.2]; first | rfl | (simp; omega) | simp [hox], by omega, by rw [HT.out.1]; simp only [List.append_nil, List.nil_append, ← List.append_assoc]; exact O2, S2, B2, z2⟩
            case measure => simp [intOf]; omega
          · rw [if_pos hx] at ht
            have HT := Lib.hid ht
            have hxb : (x == o) = false := by simpa using hx
            have hxn : (x != o) = true := by simp [hx]
            clear ht hx
            go_wp2_with (first | (at_builtin; refine wpList_append_own _ rfl (.tmp 31) (.tmp 35) _ rfl (w.heap.size + 1) 91 i0 _ 3 24 Try.underlying23 hi0 hz0 hz1 hz2 rfl (by decide) _ _ (valsH A) rfl (hown.alloc _) ⟨wr.heap.size, 0, none⟩ 1 1 [.int .i64 o, .int .i64 n, .int .i64 d] rfl rfl (new_cells wr _ _) (vals_one [(o, n, d)]) (by unfold maxLen; omega) (by omega) (by simp; omega) ?_; intro v2 w2 h2 g2 n2; have O2 : OwnH w2 (w.heap.size + 1) v2 (A ++ [(o, n, d)]) := own_snoc h2; have B2 : Below w.heap.size w w2 := (hB.alloc hB.size _).grown g2 (by simp; omega) (fun q hq => by have := (hown.lt q hq).1; omega); have S2 : Blk w2 w.heap.size 58 #[.int .i64 n, .int .i64 d] := (hS.alloc _).grown g2 (fun e => by have := (hown.lt _ e.symm).1; omega); have Z2 : (A ++ [(o, n, d)]).length ≤ 2 * k + 1 := (by rw [List.length_append]; simp; omega); have z2 : w.heap.size + 2 ≤ w2.heap.size := (by have := g2.size; simp at this; omega); obtain ⟨c0, c1, c2⟩ := cells_at HC.out B2 hlt; rw [HH.out] at c0 c1 c2; dsimp only at c0 c1 c2; clear h2 g2 n2; unfold OwnH at O2) | (at_builtin; refine wpList_append_own _ rfl (.tmp 44) (.tmp 49) _ rfl (w.heap.size + 1) 91 i0 _ 3 24 Try.underlying23 hi0 hz0 hz1 hz2 rfl (by decide) v2 _ (valsH (A ++ [(o, n, d)])) rfl (O2.alloc _) ⟨w2.heap.size, 0, none⟩ 1 1 [.int .i64 x, .int .i64 xn, .int .i64 xd] rfl rfl (new_cells w2 _ _) (vals_one [(x, xn, xd)]) (by unfold maxLen; omega) (by omega) (by simp; omega) ?_; intro v3 w3 h3 g3 n3))
            have O3 : OwnH w3 (w.heap.size + 1) v3 ((A ++ [(o, n, d)]) ++ [(x, xn, xd)]) := own_snoc h3
            have B3 : Below w.heap.size w w3 := (B2.alloc B2.size _).grown g3 (by simp; omega) (fun q hq => by have := (O2.lt q hq).1; omega)
            have S3 : Blk w3 w.heap.size 58 #[.int .i64 n, .int .i64 d] := (S2.alloc _).grown g3 (fun e => by have := (O2.lt _ e.symm).1; omega)
            have z3 : w.heap.size + 2 ≤ w3.heap.size := (by have := g3.size; simp at this; omega)
            go_roundw
            case rel => exact ⟨k + 1, by go_num, by rw [HT.out.2]; first | rfl | (simp; omega) | simp [hox], by omega, by rw [HT.out.1]; simp only [List.append_nil, List.nil_append, ← List.append_assoc]; exact O3, S3, B3, z3⟩
            case measure => simp [intOf]; omega
        · rw [if_neg hp] at ht
          have hp2 : c = true ∨ ¬ o ≤ x := by
            cases c with
            | true => exact .inl rfl
            | false => right; simpa using hp
          clear hp
          by_cases hx : x = o
          · rw [if_neg (fun e => e hx)] at ht
            have HT := Lib.hid ht
            have hxb : (x == o) = true := by simpa using hx
            have hxn : (x != o) = false := by simp [hx]
            have hc1 : c = true := by rcases hp2 with h | h; exact h; exact absurd (by omega) h
            subst hc1
            clear ht hx hp2
            go_wp2_with fail
            go_roundw
            case rel => exact ⟨k + 1, by go_num, by rw [HT.out.2]; first | rfl | (simp; omega) | simp [hox], by omega, by rw [HT.out.1]; simp only [List.append_nil, List.nil_append, ← List.append_assoc]; exact hown, hS, hB, hsz⟩
            case measure => simp [intOf]; omega
          · rw [if_pos hx] at ht
            have HT := Lib.hid ht
            have hxb : (x == o) = false := by simpa using hx
            have hxn : (x != o) = true := by simp [hx]
            clear ht hx
            rcases hp2 with hp2 | hp2
            · subst hp2
              go_wp2_with (first | (at_builtin; refine wpList_append_own _ rfl (.tmp 44) (.tmp 49) _ rfl (w.heap.size + 1) 91 i0 _ 3 24 Try.underlying23 hi0 hz0 hz1 hz2 rfl (by decide) _ _ (valsH A) rfl (hown.alloc _) ⟨wr.heap.size, 0, none⟩ 1 1 [.int .i64 x, .int .i64 xn, .int .i64 xd] rfl rfl (new_cells wr _ _) (vals_one [(x, xn, xd)]) (by unfold maxLen; omega) (by omega) (by simp; omega) ?_; intro v3 w3 h3 g3 n3))
              have O3 : OwnH w3 (w.heap.size + 1) v3 (A ++ [(x, xn, xd)]) := own_snoc h3
              have B3 : Below w.heap.size w w3 := (hB.alloc hB.size _).grown g3 (by simp; omega) (fun q hq => by have := (hown.lt q hq).1; omega)
              have S3 : Blk w3 w.heap.size 58 #[.int .i64 n, .int .i64 d] := (hS.alloc _).grown g3 (fun e => by have := (hown.lt _ e.symm).1; omega)
              have z3 : w.heap.size + 2 ≤ w3.heap.size := (by have := g3.size; simp at this; omega)
              go_roundw
              case rel => exact ⟨k + 1, by go_num, by rw [HT.out.2]; first | rfl | (simp; omega) | simp [hox], by omega, by rw [HT.out.1]; simp only [List.append_nil, List.nil_append, ← List.append_assoc]; exact O3, S3, B3, z3⟩
              case measure => simp [intOf]; omega
            · have hox : decide (o ≤ x) = false := by simpa using hp2
              cases c with
              | false =>
                go_wp2_with (first | (at_builtin; refine wpList_append_own _ rfl (.tmp 44) (.tmp 49) _ rfl (w.heap.size + 1) 91 i0 _ 3 24 Try.underlying23 hi0 hz0 hz1 hz2 rfl (by decide) _ _ (valsH A) rfl (hown.alloc _) ⟨wr.heap.size, 0, none⟩ 1 1 [.int .i64 x, .int .i64 xn, .int .i64 xd] rfl rfl (new_cells wr _ _) (vals_one [(x, xn, xd)]) (by unfold maxLen; omega) (by omega) (by simp; omega) ?_; intro v3 w3 h3 g3 n3))
                have O3 : OwnH w3 (w.heap.size + 1) v3 (A ++ [(x, xn, xd)]) := own_snoc h3
                have B3 : Below w.heap.size w w3 := (hB.alloc hB.size _).grown g3 (by simp; omega) (fun q hq => by have := (hown.lt q hq).1; omega)
                have S3 : Blk w3 w.heap.size 58 #[.int .i64 n, .int .i64 d] := (hS.alloc _).grown g3 (fun e => by have := (hown.lt _ e.symm).1; omega)
                have z3 : w.heap.size + 2 ≤ w3.heap.size := (by have := g3.size; simp at this; omega)
                go_roundw
                case rel => exact ⟨k + 1, by go_num, by rw [HT.out.2]; first | rfl | (simp; omega) | simp [hox], by omega, by rw [HT.out.1]; simp only [List.append_nil, List.nil_append, ← List.append_assoc]; exact O3, S3, B3, z3⟩
                case measure => simp [intOf]; omega
              | true =>
                go_wp2_with (first | (at_builtin; refine wpList_append_own _ rfl (.tmp 44) (.tmp 49) _ rfl (w.heap.size + 1) 91 i0 _ 3 24 Try.underlying23 hi0 hz0 hz1 hz2 rfl (by decide) _ _ (valsH A) rfl (hown.alloc _) ⟨wr.heap.size, 0, none⟩ 1 1 [.int .i64 x, .int .i64 xn, .int .i64 xd] rfl rfl (new_cells wr _ _) (vals_one [(x, xn, xd)]) (by unfold maxLen; omega) (by omega) (by simp; omega) ?_; intro v3 w3 h3 g3 n3))
                have O3 : OwnH w3 (w.heap.size + 1) v3 (A ++ [(x, xn, xd)]) := own_snoc h3
                have B3 : Below w.heap.size w w3 := (hB.alloc hB.size _).grown g3 (by simp; omega) (fun q hq => by have := (hown.lt q hq).1; omega)
                have S3 : Blk w3 w.heap.size 58 #[.int .i64 n, .int .i64 d] := (hS.alloc _).grown g3 (fun e => by have := (hown.lt _ e.symm).1; omega)
                have z3 : w.heap.size + 2 ≤ w3.heap.size := (by have := g3.size; simp at this; omega)
                go_roundw
                case rel => exact ⟨k + 1, by go_num, by rw [HT.out.2]; first | rfl | (simp; omega) | simp [hox], by omega, by rw [HT.out.1]; simp only [List.append_nil, List.nil_append, ← List.append_assoc]; exact O3, S3, B3, z3⟩
                case measure => simp [intOf]; omega
      · obtain rfl : hs.length = k := by omega
        have he := HE.out
        rw [hcc] at he ⊢
        generalize rawL (setTo L o q hs.length).1 = A at hown hal he
        obtain ⟨t0, t1, t2, t3, t4⟩ := blk_two hS
        clear hcc
        cases c with
        | true =>
          have HW : Hid (rawL (setL L o q) = A) := by show _ = _; rw [he]; simp
          clear he
          go_wp2_with fail
          go_ret
          refine ⟨_, rfl, ?_, hB⟩
          rw [HW.out]
          exact own_base hown
        | false =>
          have HW : Hid (rawL (setL L o q) = A ++ [(o, n, d)]) := he
          clear he
          go_wp2_with (first | (at_builtin; refine wpList_append_own _ rfl (.tmp 53) (.tmp 57) _ rfl (w.heap.size + 1) 91 i0 _ 3 24 Try.underlying23 hi0 hz0 hz1 hz2 rfl (by decide) _ _ (valsH A) rfl (hown.alloc _) ⟨wr.heap.size, 0, none⟩ 1 1 [.int .i64 o, .int .i64 n, .int .i64 d] rfl rfl (new_cells wr _ _) (vals_one [(o, n, d)]) (by unfold maxLen; omega) (by omega) (by simp; omega) ?_; intro v3 w3 h3 g3 n3))
          have O3 : OwnH w3 (w.heap.size + 1) v3 (A ++ [(o, n, d)]) := own_snoc h3
          go_ret
          exact ⟨v3, rfl, by rw [HW.out]; exact own_base O3, (hB.alloc hB.size _).grown g3 (by simp; omega) (fun q hq => by have := (hown.lt q hq).1; omega)⟩
end Go.Proofs.Ytaehemmjemhgpaa
