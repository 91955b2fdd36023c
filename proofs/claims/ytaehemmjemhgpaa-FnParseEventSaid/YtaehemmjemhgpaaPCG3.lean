/- Contracts and facts of functions of this program, in build order. Conditions: those stated in each. -/
import Derived.Test.YtaehemmjemhgpaaPCG0
import Derived.Test.YtaehemmjemhgpaaPCHoldW
import Derived.Test.YtaehemmjemhgpaaPCSetI
import Derived.Test.YtaehemmjemhgpaaPCG1
import Derived.Test.YtaehemmjemhgpaaPCG2
import Derived.IntWalk
import Derived.Deep.RegionHeld3
import Derived.Deep.DeepCutAuto
import Derived.Maps.AppendAt
import Derived.BigRegion
import Derived.Deep.RegionWith
import Derived.Deep.QuietTactic
import Derived.BigQuiet
import Derived.RegionTactic
set_option maxRecDepth 100000
set_option maxHeartbeats 16000000
namespace Go.Proofs.Ytaehemmjemhgpaa
open Go.RowKit
set_option linter.unusedSimpArgs false
set_option linter.unusedVariables false
def shV (hs : List Hd) (o : Int) : Int × Int := if vlR hs then shR hs o else (0, 0)
theorem own_snoc {w : World} {base : Nat} {v : Value} {A : List Hd} {o n d : Int} (h : w.ownsRow base 91 3 v (A.length + 1) (jv1 A ++ [.int .i64 o, .int .i64 n, .int .i64 d])) : OwnH w base v (A ++ [(o, n, d)]) := by
 unfold OwnH; rw [List.length_append, vals_append]; exact h
theorem setTo_not (L : Led) (o : Int) (q : Rat) : ∀ k, k ≤ L.length → (setTo L o q k).2 = false → q ≠ 0 := by
  intro k
  induction k with
  | zero => intro _ h; rw [setTo_zero] at h; simpa using h
  | succ k ih =>
    intro hk h; rw [setTo_succ o q (by omega)] at h; simp only [Bool.or_eq_false_iff] at h; exact ih (by omega) h.1
theorem setTo_raw {L : Led} {hs : List Hd} (hh : hs = rawL L) {n d : Int} {q : Rat} (hq : shareIs n d q) (o : Int) {k : Nat} (hk : k < hs.length) {c : Bool} (hc : (setTo L o q k).2 = c) {x xn xd : Int} (hx : hs.getD k hd0 = (x, xn, xd)) :
  rawL (setTo L o q (k + 1)).1 = rawL (setTo L o q k).1 ++ ((if !c && decide (o ≤ x) then [(o, n, d)] else []) ++ (if x ≠ o then [(x, xn, xd)] else [])) ∧ (setTo L o q (k + 1)).2 = (c || decide (o ≤ x)) := by
 subst hh; rw [jjb] at hk; rw [raw_get L hk] at hx; have e1 : (L.getD k (0, 0)).1 = x := congrArg Prod.fst hx
 have e3 : rawL [L.getD k (0, 0)] = [(x, xn, xd)] := by show [rawH (L.getD k (0, 0))] = _; rw [hx]
 rw [setTo_succ o q hk, hc, e1]; refine ⟨?_, rfl⟩; dsimp only; rw [raw_append, raw_append]
 congr 2
 ·by_cases h : (!c && decide (o ≤ x)) = true
  ·rw [if_pos h, if_pos h]
   have hcf : c = false := by cases c with | true => simp at h | false => rfl
   have := setTo_not L o q k (by omega) (by rw [hc, hcf])
   show [rawH (o, q)] = _
   rw [shareIs_raw hq this]
  ·rw [if_neg h, if_neg h]; rfl
 ·by_cases h : x ≠ o
  ·rw [if_pos h, if_pos h, e3]
  ·rw [if_neg h, if_neg h]; rfl
theorem sset (a : Option Addr) (cap : Nat) (L : Led) (hs : List Hd) (o n d : Int) (q : Rat) (w : World) (h : IsHs w a hs) (hhs : hs = rawL L) (hn : hs.length ≤ 1000) (hq : shareIs n d q) :
    Calls Try.prog 161 #[.slice a hs.length cap, .int .i64 o, .agg #[.int .i64 n, .int .i64 d]] w (NewH w (rawL (setL L o q))) := by
  obtain ⟨i0, hi0, hz0, hz1, hz2⟩ := info_parts infoH; have HQ := Lib.hid hq
  have HZ : Hid (decide (q = 0) = (n == 0)) := by show _ = _; rw [shareIs_zero hq]; by_cases e : n = 0 <;> simp [e]
  have HE : Hid (rawL (setL L o q) = rawL (setTo L o q hs.length).1 ++ (if (setTo L o q hs.length).2 then [] else [(o, n, d)])) := by
    show _ = _
    rw [setTo_end, raw_append, hhs, jjb]
    congr 1
    cases hc : (setTo L o q L.length).2 with
    | true => rfl
    | false =>
      show [rawH (o, q)] = _
      rw [shareIs_raw hq (setTo_not L o q _ (Nat.le_refl _) hc)]; rfl
  have HLn : Hid (∀ k, k ≤ hs.length → (rawL (setTo L o q k).1).length ≤ 2 * k) := fun k hk => by rw [jjb]; exact setTo_len L o q k (by rw [hhs, jjb] at hk; exact hk)
  rcases h with he | ⟨g, off, rfl, hc⟩
  · have e0 : hs.length = 0 := by rw [he]; rfl
    rw [e0] at HE ⊢; clear he hhs hq; have hq0 := HE.out; have hl0 : (rawL (setTo L o q 0).1) = [] := rfl
    have hs0 : (setTo L o q 0).2 = (n == 0) := by show decide (q = 0) = _; exact HZ.out
    rw [hl0, hs0] at hq0
    by_cases hz : n = 0
    · have hzb : (n == 0) = true := by simpa using hz
      have HW : Hid (rawL (setL L o q) = []) := by show _ = _; rw [hq0, hzb]; rfl
      clear hz hq0 hl0 hs0 HZ; go_enter Try.func161, Try.ntmps161; go_wp2_with fail; refine wp_loop_rounds 1 ?_; rw [rounds_succ]; go_wp2_with fail; go_ret; refine ⟨_, rfl, ?_, by go_grown⟩; rw [HW.out]; exact ⟨rfl, .inr ⟨w.heap.size + 1, 0, #[], rfl, by omega, by have := Blk.new (w.alloc (.cells #[.int .i64 n, .int .i64 d] 58)) 91 #[]; rw [World.size_alloc] at this; exact this, Nat.le_refl _, by unfold maxLen; omega, rfl, rfl⟩⟩
    · have hzb : (n == 0) = false := by simpa using hz
      have HW : Hid (rawL (setL L o q) = [(o, n, d)]) := by show _ = _; rw [hq0, hzb]; rfl
      have hown : ((w.alloc (.cells #[.int .i64 n, .int .i64 d] 58)).alloc (.cells #[] 91)).ownsRow (w.heap.size + 1) 91 3 (.slice (some ⟨w.heap.size + 1, 0, none⟩) 0 0) 0 (jv1 []) := ⟨rfl, .inr ⟨w.heap.size + 1, 0, #[], rfl, by omega, by have := Blk.new (w.alloc (.cells #[.int .i64 n, .int .i64 d] 58)) 91 #[]; rw [World.size_alloc] at this; exact this, Nat.le_refl _, by unfold maxLen; omega, rfl, rfl⟩⟩
      have HO := Lib.hid hown; clear hz hq0 hl0 hs0 HZ hown; go_enter Try.func161, Try.ntmps161; go_wp2_with fail; refine wp_loop_rounds 1 ?_; rw [rounds_succ]
      go_wp2_with (first | (at_builtin; refine wpList_append_own _ rfl (.tmp 53) (.tmp 57) _ rfl (w.heap.size + 1) 91 i0 _ 3 24 Try.underlying23 hi0 hz0 hz1 hz2 rfl (by decide) _ _ (jv1 []) rfl (HO.out.alloc _) ⟨w.heap.size + 2, 0, none⟩ 1 1 [.int .i64 o, .int .i64 n, .int .i64 d] rfl rfl (by have := jxg ((w.alloc (.cells #[.int .i64 n, .int .i64 d] 58)).alloc (.cells #[] 91)) [.int .i64 o, .int .i64 n, .int .i64 d] 91; rw [World.size_alloc, World.size_alloc] at this; exact this) (vals_one [(o, n, d)]) (by unfold maxLen; omega) (by omega) (by simp <;> omega) ?_; intro v3 w3 h3 g3 n3))
      have O3 : OwnH w3 (w.heap.size + 1) v3 ([] ++ [(o, n, d)]) := own_snoc h3; go_ret; exact ⟨v3, rfl, by rw [HW.out]; exact own_base O3, ((((Below.refl _ _).alloc (Nat.le_refl _) _).alloc (by simp) _).alloc (by simp; omega) _).grown g3 (by simp; omega) (fun q hq => by have e : w.heap.size + 1 = q := Option.some.inj hq; omega)⟩
  · have HC := Lib.hid hc
    have HS := Lib.hid hhs; clear hc hhs hq; go_enter Try.func161, Try.ntmps161; go_wp2_with fail
    go_loopw [7, 8, 9] (fun v b i wr => ∃ k : Nat, i = .int .i64 k ∧ b = .bool (setTo L o q k).2 ∧ k ≤ hs.length ∧ OwnH wr (w.heap.size + 1) v (rawL (setTo L o q k).1) ∧ Blk wr w.heap.size 58 #[.int .i64 n, .int .i64 d] ∧ Below w.heap.size w wr ∧ w.heap.size + 2 ≤ wr.heap.size) (fun _ _ i _ => hs.length - (intOf i).toNat)
    case atStart => exact ⟨0, rfl, by show _ = Value.bool (decide (q = 0)); rw [HZ.out], Nat.zero_le _, ⟨rfl, .inr ⟨w.heap.size + 1, 0, #[], rfl, Nat.le_refl _, by have := Blk.new (w.alloc (.cells #[.int .i64 n, .int .i64 d] 58)) 91 #[]; rw [World.size_alloc] at this; exact this, Nat.le_refl _, by unfold maxLen; omega, rfl, rfl⟩⟩, (Blk.new _ _ _).alloc _, by go_grown, by simp⟩
    case round =>
      obtain ⟨k, rfl, rfl, hk, hown, hS, hB, hsz⟩ := hrel; unfold OwnH at hown
      obtain ⟨c, hcc⟩ : ∃ c, (setTo L o q k).2 = c := ⟨_, rfl⟩
      have hal := HLn.out k hk
      by_cases hlt : k < hs.length
      · obtain ⟨c0, c1, c2⟩ := jjg HC.out hB hlt
        have ht := fun x xn xd => setTo_raw HS.out HQ.out o hlt hcc (x := x) (xn := xn) (xd := xd)
        obtain ⟨hh, hhe⟩ : ∃ hh, hs.getD k hd0 = hh := ⟨_, rfl⟩
        obtain ⟨x, xn, xd⟩ := hh; rw [hhe] at c0 c1 c2; dsimp only at c0 c1 c2; have ht := ht x xn xd hhe; rw [hcc]; generalize rawL (setTo L o q k).1 = A at hown hal ht; obtain ⟨t0, t1, t2, t3, t4⟩ := jx1 hS; have HH := Lib.hid hhe; clear hcc hhe
        by_cases hp : (!c && decide (o ≤ x)) = true
        · rw [if_pos hp] at ht
          simp only [Bool.and_eq_true, Bool.not_eq_true', decide_eq_true_eq] at hp; obtain ⟨rfl, hox⟩ := hp
          by_cases hx : x = o
          · rw [if_neg (fun e => e hx)] at ht
            have HT := Lib.hid ht
            have hxb : (x == o) = true := by simpa using hx
            have hxn : (x != o) = false := by simp [hx]
            clear ht hx
            go_wp2_with (first | (at_builtin; refine wpList_append_own _ rfl (.tmp 31) (.tmp 35) _ rfl (w.heap.size + 1) 91 i0 _ 3 24 Try.underlying23 hi0 hz0 hz1 hz2 rfl (by decide) _ _ (jv1 A) rfl (hown.alloc _) ⟨wr.heap.size, 0, none⟩ 1 1 [.int .i64 o, .int .i64 n, .int .i64 d] rfl rfl (jxg wr _ _) (vals_one [(o, n, d)]) (by unfold maxLen; omega) (by omega) (by simp; omega) ?_; intro v2 w2 h2 g2 n2; have O2 : OwnH w2 (w.heap.size + 1) v2 (A ++ [(o, n, d)]) := own_snoc h2; have B2 : Below w.heap.size w w2 := (hB.alloc hB.size _).grown g2 (by simp; omega) (fun q hq => by have := (hown.lt q hq).1; omega); have S2 : Blk w2 w.heap.size 58 #[.int .i64 n, .int .i64 d] := (hS.alloc _).grown g2 (fun e => by have := (hown.lt _ e.symm).1; omega); have Z2 : (A ++ [(o, n, d)]).length ≤ 2 * k + 1 := (by rw [List.length_append]; simp; omega); have z2 : w.heap.size + 2 ≤ w2.heap.size := (by have := g2.size; simp at this; omega); obtain ⟨c0, c1, c2⟩ := jjg HC.out B2 hlt; rw [HH.out] at c0 c1 c2; dsimp only at c0 c1 c2; clear h2 g2 n2; unfold OwnH at O2))
            go_roundw
            case rel => exact ⟨k + 1, by go_num, by rw [HT.out.2]; first | rfl | (simp; omega) | simp [hox], by omega, by rw [HT.out.1]; simp only [List.append_nil, List.nil_append, ← List.append_assoc]; exact O2, S2, B2, z2⟩
            case measure => simp [intOf]; omega
          · rw [if_pos hx] at ht
            have HT := Lib.hid ht
            have hxb : (x == o) = false := by simpa using hx
            have hxn : (x != o) = true := by simp [hx]
            clear ht hx
            go_wp2_with (first | (at_builtin; refine wpList_append_own _ rfl (.tmp 31) (.tmp 35) _ rfl (w.heap.size + 1) 91 i0 _ 3 24 Try.underlying23 hi0 hz0 hz1 hz2 rfl (by decide) _ _ (jv1 A) rfl (hown.alloc _) ⟨wr.heap.size, 0, none⟩ 1 1 [.int .i64 o, .int .i64 n, .int .i64 d] rfl rfl (jxg wr _ _) (vals_one [(o, n, d)]) (by unfold maxLen; omega) (by omega) (by simp; omega) ?_; intro v2 w2 h2 g2 n2; have O2 : OwnH w2 (w.heap.size + 1) v2 (A ++ [(o, n, d)]) := own_snoc h2; have B2 : Below w.heap.size w w2 := (hB.alloc hB.size _).grown g2 (by simp; omega) (fun q hq => by have := (hown.lt q hq).1; omega); have S2 : Blk w2 w.heap.size 58 #[.int .i64 n, .int .i64 d] := (hS.alloc _).grown g2 (fun e => by have := (hown.lt _ e.symm).1; omega); have Z2 : (A ++ [(o, n, d)]).length ≤ 2 * k + 1 := (by rw [List.length_append]; simp; omega); have z2 : w.heap.size + 2 ≤ w2.heap.size := (by have := g2.size; simp at this; omega); obtain ⟨c0, c1, c2⟩ := jjg HC.out B2 hlt; rw [HH.out] at c0 c1 c2; dsimp only at c0 c1 c2; clear h2 g2 n2; unfold OwnH at O2) | (at_builtin; refine wpList_append_own _ rfl (.tmp 44) (.tmp 49) _ rfl (w.heap.size + 1) 91 i0 _ 3 24 Try.underlying23 hi0 hz0 hz1 hz2 rfl (by decide) v2 _ (jv1 (A ++ [(o, n, d)])) rfl (O2.alloc _) ⟨w2.heap.size, 0, none⟩ 1 1 [.int .i64 x, .int .i64 xn, .int .i64 xd] rfl rfl (jxg w2 _ _) (vals_one [(x, xn, xd)]) (by unfold maxLen; omega) (by omega) (by simp; omega) ?_; intro v3 w3 h3 g3 n3))
            have O3 : OwnH w3 (w.heap.size + 1) v3 ((A ++ [(o, n, d)]) ++ [(x, xn, xd)]) := own_snoc h3; have B3 : Below w.heap.size w w3 := (B2.alloc B2.size _).grown g3 (by simp; omega) (fun q hq => by have := (O2.lt q hq).1; omega); have S3 : Blk w3 w.heap.size 58 #[.int .i64 n, .int .i64 d] := (S2.alloc _).grown g3 (fun e => by have := (O2.lt _ e.symm).1; omega)
            have z3 : w.heap.size + 2 ≤ w3.heap.size := (by have := g3.size; simp at this; omega)
            go_roundw
            case rel => exact ⟨k + 1, by go_num, by rw [HT.out.2]; first | rfl | (simp; omega) | simp [hox], by omega, by rw [HT.out.1]; simp only [List.append_nil, List.nil_append, ← List.append_assoc]; exact O3, S3, B3, z3⟩
            case measure => simp [intOf]; omega
        · rw [if_neg hp] at ht
          have hp2 : c = true ∨ ¬ o ≤ x := by
            cases c with
            | true => exact .inl rfl
            | false => right; simpa using hp
          clear hp
          by_cases hx : x = o
          · rw [if_neg (fun e => e hx)] at ht
            have HT := Lib.hid ht
            have hxb : (x == o) = true := by simpa using hx
            have hxn : (x != o) = false := by simp [hx]
            have hc1 : c = true := by rcases hp2 with h | h; exact h; exact absurd (by omega) h
            subst hc1; clear ht hx hp2; go_wp2_with fail
            go_roundw
            case rel => exact ⟨k + 1, by go_num, by rw [HT.out.2]; first | rfl | (simp; omega) | simp [hox], by omega, by rw [HT.out.1]; simp only [List.append_nil, List.nil_append, ← List.append_assoc]; exact hown, hS, hB, hsz⟩
            case measure => simp [intOf]; omega
          · rw [if_pos hx] at ht
            have HT := Lib.hid ht
            have hxb : (x == o) = false := by simpa using hx
            have hxn : (x != o) = true := by simp [hx]
            clear ht hx
            rcases hp2 with hp2 | hp2
            · subst hp2
              go_wp2_with (first | (at_builtin; refine wpList_append_own _ rfl (.tmp 44) (.tmp 49) _ rfl (w.heap.size + 1) 91 i0 _ 3 24 Try.underlying23 hi0 hz0 hz1 hz2 rfl (by decide) _ _ (jv1 A) rfl (hown.alloc _) ⟨wr.heap.size, 0, none⟩ 1 1 [.int .i64 x, .int .i64 xn, .int .i64 xd] rfl rfl (jxg wr _ _) (vals_one [(x, xn, xd)]) (by unfold maxLen; omega) (by omega) (by simp; omega) ?_; intro v3 w3 h3 g3 n3))
              have O3 : OwnH w3 (w.heap.size + 1) v3 (A ++ [(x, xn, xd)]) := own_snoc h3; have B3 : Below w.heap.size w w3 := (hB.alloc hB.size _).grown g3 (by simp; omega) (fun q hq => by have := (hown.lt q hq).1; omega); have S3 : Blk w3 w.heap.size 58 #[.int .i64 n, .int .i64 d] := (hS.alloc _).grown g3 (fun e => by have := (hown.lt _ e.symm).1; omega)
              have z3 : w.heap.size + 2 ≤ w3.heap.size := (by have := g3.size; simp at this; omega)
              go_roundw
              case rel => exact ⟨k + 1, by go_num, by rw [HT.out.2]; first | rfl | (simp; omega) | simp [hox], by omega, by rw [HT.out.1]; simp only [List.append_nil, List.nil_append, ← List.append_assoc]; exact O3, S3, B3, z3⟩
              case measure => simp [intOf]; omega
            · have hox : decide (o ≤ x) = false := by simpa using hp2
              cases c with
              | false =>
                go_wp2_with (first | (at_builtin; refine wpList_append_own _ rfl (.tmp 44) (.tmp 49) _ rfl (w.heap.size + 1) 91 i0 _ 3 24 Try.underlying23 hi0 hz0 hz1 hz2 rfl (by decide) _ _ (jv1 A) rfl (hown.alloc _) ⟨wr.heap.size, 0, none⟩ 1 1 [.int .i64 x, .int .i64 xn, .int .i64 xd] rfl rfl (jxg wr _ _) (vals_one [(x, xn, xd)]) (by unfold maxLen; omega) (by omega) (by simp; omega) ?_; intro v3 w3 h3 g3 n3))
                have O3 : OwnH w3 (w.heap.size + 1) v3 (A ++ [(x, xn, xd)]) := own_snoc h3; have B3 : Below w.heap.size w w3 := (hB.alloc hB.size _).grown g3 (by simp; omega) (fun q hq => by have := (hown.lt q hq).1; omega); have S3 : Blk w3 w.heap.size 58 #[.int .i64 n, .int .i64 d] := (hS.alloc _).grown g3 (fun e => by have := (hown.lt _ e.symm).1; omega)
                have z3 : w.heap.size + 2 ≤ w3.heap.size := (by have := g3.size; simp at this; omega)
                go_roundw
                case rel => exact ⟨k + 1, by go_num, by rw [HT.out.2]; first | rfl | (simp; omega) | simp [hox], by omega, by rw [HT.out.1]; simp only [List.append_nil, List.nil_append, ← List.append_assoc]; exact O3, S3, B3, z3⟩
                case measure => simp [intOf]; omega
              | true =>
                go_wp2_with (first | (at_builtin; refine wpList_append_own _ rfl (.tmp 44) (.tmp 49) _ rfl (w.heap.size + 1) 91 i0 _ 3 24 Try.underlying23 hi0 hz0 hz1 hz2 rfl (by decide) _ _ (jv1 A) rfl (hown.alloc _) ⟨wr.heap.size, 0, none⟩ 1 1 [.int .i64 x, .int .i64 xn, .int .i64 xd] rfl rfl (jxg wr _ _) (vals_one [(x, xn, xd)]) (by unfold maxLen; omega) (by omega) (by simp; omega) ?_; intro v3 w3 h3 g3 n3))
                have O3 : OwnH w3 (w.heap.size + 1) v3 (A ++ [(x, xn, xd)]) := own_snoc h3; have B3 : Below w.heap.size w w3 := (hB.alloc hB.size _).grown g3 (by simp; omega) (fun q hq => by have := (hown.lt q hq).1; omega); have S3 : Blk w3 w.heap.size 58 #[.int .i64 n, .int .i64 d] := (hS.alloc _).grown g3 (fun e => by have := (hown.lt _ e.symm).1; omega)
                have z3 : w.heap.size + 2 ≤ w3.heap.size := (by have := g3.size; simp at this; omega)
                go_roundw
                case rel => exact ⟨k + 1, by go_num, by rw [HT.out.2]; first | rfl | (simp; omega) | simp [hox], by omega, by rw [HT.out.1]; simp only [List.append_nil, List.nil_append, ← List.append_assoc]; exact O3, S3, B3, z3⟩
                case measure => simp [intOf]; omega
      · obtain rfl : hs.length = k := by omega
        have he := HE.out; rw [hcc] at he ⊢; generalize rawL (setTo L o q hs.length).1 = A at hown hal he; obtain ⟨t0, t1, t2, t3, t4⟩ := jx1 hS; clear hcc
        cases c with
        | true =>
          have HW : Hid (rawL (setL L o q) = A) := by show _ = _; rw [he]; simp
          clear he; go_wp2_with fail; go_ret; refine ⟨_, rfl, ?_, hB⟩; rw [HW.out]; exact own_base hown
        | false =>
          have HW : Hid (rawL (setL L o q) = A ++ [(o, n, d)]) := he; clear he
          go_wp2_with (first | (at_builtin; refine wpList_append_own _ rfl (.tmp 53) (.tmp 57) _ rfl (w.heap.size + 1) 91 i0 _ 3 24 Try.underlying23 hi0 hz0 hz1 hz2 rfl (by decide) _ _ (jv1 A) rfl (hown.alloc _) ⟨wr.heap.size, 0, none⟩ 1 1 [.int .i64 o, .int .i64 n, .int .i64 d] rfl rfl (jxg wr _ _) (vals_one [(o, n, d)]) (by unfold maxLen; omega) (by omega) (by simp; omega) ?_; intro v3 w3 h3 g3 n3))
          have O3 : OwnH w3 (w.heap.size + 1) v3 (A ++ [(o, n, d)]) := own_snoc h3; go_ret; exact ⟨v3, rfl, by rw [HW.out]; exact own_base O3, (hB.alloc hB.size _).grown g3 (by simp; omega) (fun q hq => by have := (hown.lt q hq).1; omega)⟩
def cdR (hs : List Hd) : Int := if vlR hs && decide (jz7 (jqa hs) hs.length ≤ 1000000) then (jz7 (jqa hs) hs.length : Int) else -1
theorem cd_no1 {hs : List Hd} (h : vlR hs = false) : cdR hs = -1 := by unfold cdR; rw [h]; rfl
theorem cd_no2 {hs : List Hd} {k : Nat} (hk : k ≤ hs.length) (h : 1000000 < jz7 (jqa hs) k) : cdR hs = -1 := by
 have := lcm_mono' (jqa hs) (hs.length - k) k; rw [show k + (hs.length - k) = hs.length from by omega] at this; unfold cdR; rw [decide_eq_false (by omega), Bool.and_false]; rfl
theorem cd_yes {hs : List Hd} (h : vlR hs = true) (h2 : jz7 (jqa hs) hs.length ≤ 1000000) : cdR hs = (jz7 (jqa hs) hs.length : Int) := by
 unfold cdR; rw [h, decide_eq_true h2]; rfl
theorem lcm_div (n d : Nat) (_hn : 0 < n) : ((n : Int) / (Int.gcd (n : Int) (d : Int) : Int)) * (d : Int) = (Nat.lcm n d : Int) := by
 have hg : Int.gcd (n : Int) (d : Int) = Nat.gcd n d := rfl; rw [hg]; have hd : Nat.gcd n d ∣ n := Nat.gcd_dvd_left n d
 have e : Nat.lcm n d = n / Nat.gcd n d * d := by
  unfold Nat.lcm; rw [Nat.div_mul_right_comm hd]
 rw [e, Int.natCast_mul, Int.natCast_ediv]
theorem cd_step {hs : List Hd} (hv : vlR hs = true) {k : Nat} (hk : k < hs.length) (hn : jz7 (jqa hs) k ≤ 1000000) :
  1 ≤ (hs.getD k hd0).2.2 ∧ (hs.getD k hd0).2.2 ≤ 10000 ∧ (jz7 (jqa hs) k : Int) / (Int.gcd (jz7 (jqa hs) k : Int) (hs.getD k hd0).2.2 : Int) * (hs.getD k hd0).2.2 = (jz7 (jqa hs) (k + 1) : Int) ∧ 0 < (Int.gcd (jz7 (jqa hs) k : Int) (hs.getD k hd0).2.2 : Int) ∧ 0 ≤ (jz7 (jqa hs) k : Int) / (Int.gcd (jz7 (jqa hs) k : Int) (hs.getD k hd0).2.2 : Int) ∧ (jz7 (jqa hs) k : Int) / (Int.gcd (jz7 (jqa hs) k : Int) (hs.getD k hd0).2.2 : Int) ≤ 1000000 ∧ (jz7 (jqa hs) (k + 1) : Int) ≤ 10000000000 := by
 obtain ⟨he, hV⟩ := vlR_is hv
 have hkl : k < (jqa hs).length := by rw [led_len]; exact hk
 have hg : (hs.getD k hd0).2.2 = (((jqa hs).getD k (0, 0)).2.den : Int) := by
  conv => lhs; rw [← he]
  rw [raw_get _ hkl]; rfl
 have hfr := hV.fr _ (List.getElem_mem hkl); rw [← jjd _ hkl (0, 0)] at hfr; have hb := (frB_iff _).1 hfr; have hdp := den_pos ((jqa hs).getD k (0, 0)).2; have hlp := lcm_pos (jqa hs) k; rw [hg]
 have hgp : 0 < (Int.gcd (jz7 (jqa hs) k : Int) (((jqa hs).getD k (0, 0)).2.den : Int) : Int) := by
  have : Int.gcd (jz7 (jqa hs) k : Int) (((jqa hs).getD k (0, 0)).2.den : Int) ≠ 0 := fun c => by
   have := Int.gcd_eq_zero_iff.1 c
   omega
  omega
 have hq0 : 0 ≤ (jz7 (jqa hs) k : Int) / (Int.gcd (jz7 (jqa hs) k : Int) (((jqa hs).getD k (0, 0)).2.den : Int) : Int) := Int.ediv_nonneg (by omega) (by omega); have hq1 : (jz7 (jqa hs) k : Int) / (Int.gcd (jz7 (jqa hs) k : Int) (((jqa hs).getD k (0, 0)).2.den : Int) : Int) ≤ 1000000 := Int.le_trans (Int.ediv_le_self _ (by omega)) (by omega); have hs' := lcm_div (jz7 (jqa hs) k) ((jqa hs).getD k (0, 0)).2.den hlp; refine ⟨hdp, hb.2.2, ?_, hgp, hq0, hq1, ?_⟩
 ·rw [hs', lcm_succ]
 ·rw [lcm_succ, ← hs']
  exact Int.le_trans (Int.mul_le_mul hq1 hb.2.2 (by omega) (by omega)) (by decide)
theorem iCD (a : Option Addr) (cap : Nat) (hs : List Hd) (w : World) (h : IsHs w a hs) (hn : hs.length ≤ 1048576) :
    Calls Try.prog 128 #[.slice a hs.length cap] w fun e w' => e = .returned (.int .i64 (cdR hs)) ∧ Below w.heap.size w w' := by
  have CV := iVL a cap hs w h hn
  cases hv : vlR hs with
  | false =>
    rw [hv] at CV; have HN := Lib.hid (cd_no1 hv); clear hv; go_enter Try.func128, Try.ntmps128; go_wp2_with fail; refine CV.mono ?_; rintro e w1 ⟨rfl, hb⟩; go_wp2_with fail; go_ret; exact ⟨jze HN.out.symm, hb⟩
  | true =>
    rw [hv] at CV; have HV := Lib.hid hv; clear hv
    rcases h with rfl | ⟨g, off, rfl, hc⟩
    · exact absurd (vlR_is HV.out).2.one (by decide)
    · have HC := Lib.hid hc
      clear hc; go_enter Try.func128, Try.ntmps128; go_wp2_with fail; refine CV.mono ?_; rintro e w1 ⟨rfl, hb⟩; have HB1 := Lib.hid hb; clear CV hb; go_wp2_with fail
      go_loopw [3, 11] (fun n i wr => ∃ k : Nat, k ≤ hs.length ∧ i = .int .i64 k ∧ n = .int .i64 (jz7 (jqa hs) k : Int) ∧ Hid (jz7 (jqa hs) k ≤ 1000000) ∧ Below w.heap.size w wr) (fun _ i _ => hs.length - (intOf i).toNat)
      case atStart => exact ⟨0, Nat.zero_le _, rfl, rfl, (by show (1 : Nat) ≤ 1000000; omega), HB1.out⟩
      case round =>
        obtain ⟨k, hk, rfl, rfl, HL, hB⟩ := hrel
        by_cases hlt : k < hs.length
        · obtain ⟨c0, c1, c2⟩ := jjg HC.out hB hlt
          obtain ⟨d0, d1, d2, d3, d4, d5, d6⟩ := cd_step HV.out hlt HL.out
          have hno : 1000000 < jz7 (jqa hs) (k + 1) → cdR hs = -1 := fun c => cd_no2 (by omega) c
          have hpos := lcm_pos (jqa hs) k; have hle := HL.out
          have hnn : (0 : Int) ≤ (jz7 (jqa hs) (k + 1) : Int) := by omega
          have hyes : (jz7 (jqa hs) (k + 1) : Int) ≤ 1000000 → jz7 (jqa hs) (k + 1) ≤ 1000000 := fun c => by omega
          have hno2 : 1000000 < (jz7 (jqa hs) (k + 1) : Int) → cdR hs = -1 := fun c => hno (by omega)
          generalize hs.getD k hd0 = hh at c0 c1 c2 d0 d1 d2 d3 d4 d5; obtain ⟨x, n, d⟩ := hh; dsimp only at c0 c1 c2 d0 d1 d2 d3 d4 d5
          have hcm : (1 : Int) ≤ (jz7 (jqa hs) k : Int) := by omega
          have hcm2 : (jz7 (jqa hs) k : Int) ≤ 1000000 := by omega
          generalize (jz7 (jqa hs) k : Int) = cm at d2 d3 d4 d5 hcm hcm2
          obtain ⟨nx, hnx⟩ : ∃ nx, nx = (jz7 (jqa hs) (k + 1) : Int) := ⟨_, rfl⟩
          rw [← hnx] at d2 d6 hyes hno2 hnn; have KG := Lib.hid (fun (W : World) (j : Nat) => Calls.quiet_of_same (w := W) (n := j) ((igcd cm d _ (by omega) (by omega) (by omega) (by omega)).mono (fun _ _ h => ⟨h.1, h.2.symm⟩)))
          have hg0 : ((Int.gcd cm d : Int) == 0) = false := by simp; omega
          have D2 := Lib.hid d2; have HNX := Lib.hid hnx; have HB := Lib.hid hB; have HNO := Lib.hid hno2; have HYES := Lib.hid hyes
          have hw : IntKind.i64.wrap (cm / (Int.gcd cm d : Int) * d) = nx := by rw [d2]; exact IntWalk.i64_in _ (by omega)
          clear hno hnx hB hno2 hyes hpos hle d2; go_wp2_with fail
          go_quiet (first | (go_at_call_of 167 (Value.int .i64 cm); exact KG.out _ _))
          by_cases hb : 1000000 < nx
          · go_wp2_with fail
            go_ret; exact ⟨jze (HNO.out hb).symm, jqc (HB.out.alloc HB.out.size _) _⟩
          · go_wp2_with fail
            go_roundw
            case rel => exact ⟨k + 1, by omega, by go_num, by rw [HNX.out], HYES.out (by omega), jqc (HB.out.alloc HB.out.size _) _⟩
            case measure => simp [intOf]; omega
        · obtain rfl : hs.length = k := by omega
          have HN := Lib.hid (cd_yes HV.out HL.out); go_wp2_with fail; go_ret; exact ⟨jze HN.out.symm, hB⟩
def SDen (w : World) (hs : List Hd) (e : Ending) (w' : World) : Prop := ∃ v : Int, e = .returned (.int .i64 v) ∧ (v ≤ 1000000 → cdR hs = v) ∧ (1000000 < v → cdR hs = -1) ∧ 0 ≤ v ∧ v ≤ 10000000000 ∧ Below w.heap.size w w'
theorem scd (a : Option Addr) (cap : Nat) (hs : List Hd) (w : World) (h : IsHs w a hs) (hn : hs.length ≤ 1048576) (hv : vlR hs = true) :
  Calls Try.prog 192 #[.slice a hs.length cap] w (SDen w hs) := by
 have HV := Lib.hid hv; clear hv
 rcases h with rfl | ⟨g, off, rfl, hc⟩
 ·exact absurd (vlR_is HV.out).2.one (by decide)
 ·have HC := Lib.hid hc
  clear hc; go_enter Try.func192, Try.ntmps192; go_wp2_with fail
  go_loopw [3, 4] (fun n i wr => ∃ k : Nat, k ≤ hs.length ∧ i = .int .i64 k ∧ n = .int .i64 (jz7 (jqa hs) k : Int) ∧ Hid (jz7 (jqa hs) k ≤ 10000000000) ∧ Below w.heap.size w wr) (fun _ i _ => hs.length - (intOf i).toNat)
  case atStart => exact ⟨0, Nat.zero_le _, rfl, rfl, (by show (1 : Nat) ≤ 10000000000; omega), by go_grown⟩
  case round =>
   obtain ⟨k, hk, rfl, rfl, HL, hB⟩ := hrel; have hle := HL.out
   by_cases hlt : k < hs.length
   ·by_cases hbig : 1000000 < jz7 (jqa hs) k
    ·have HN := Lib.hid (cd_no2 hk hbig)
     obtain ⟨cm, hcm⟩ : ∃ cm, cm = (jz7 (jqa hs) k : Int) := ⟨_, rfl⟩
     rw [← hcm]
     have q1 : 1000000 < cm := by omega
     have q2 : cm ≤ 10000000000 := by omega
     have q3 : decide (cm ≤ 1000000) = false := by simp; omega
     clear hcm hle hbig; go_wp2_with fail; go_ret; exact ⟨cm, rfl, (fun c => by omega), (fun _ => HN.out), by omega, q2, hB⟩
    ·obtain ⟨c0, c1, c2⟩ := jjg HC.out hB hlt
     obtain ⟨d0, d1, d2, d3, d4, d5, d6⟩ := cd_step HV.out hlt (by omega); have hpos := lcm_pos (jqa hs) k
     have hnn : (0 : Int) ≤ (jz7 (jqa hs) (k + 1) : Int) := by omega
     have hyes : (jz7 (jqa hs) (k + 1) : Int) ≤ 10000000000 → jz7 (jqa hs) (k + 1) ≤ 10000000000 := fun c => by omega
     generalize hs.getD k hd0 = hh at c0 c1 c2 d0 d1 d2 d3 d4 d5; obtain ⟨x, n, d⟩ := hh; dsimp only at c0 c1 c2 d0 d1 d2 d3 d4 d5
     have hcm : (1 : Int) ≤ (jz7 (jqa hs) k : Int) := by omega
     have hcm2 : (jz7 (jqa hs) k : Int) ≤ 1000000 := by omega
     clear hle hbig hpos; generalize (jz7 (jqa hs) k : Int) = cm at d2 d3 d4 d5 hcm hcm2
     obtain ⟨nx, hnx⟩ : ∃ nx, nx = (jz7 (jqa hs) (k + 1) : Int) := ⟨_, rfl⟩
     rw [← hnx] at d2 d6 hyes hnn; have KG := Lib.hid (fun (W : World) (j : Nat) => Calls.quiet_of_same (w := W) (n := j) ((sgcd cm d _ (by omega) (by omega) (by omega) (by omega)).mono (fun _ _ h => ⟨h.1, h.2.symm⟩)))
     have hg0 : ((Int.gcd cm d : Int) == 0) = false := by simp; omega
     have D2 := Lib.hid d2; have HNX := Lib.hid hnx; have HB := Lib.hid hB; have HYES := Lib.hid hyes
     have i0 : (0 : Int) ≤ (k : Int) := by omega
     have i1 : (k : Int) < (hs.length : Int) := by omega
     have hw : IntKind.i64.wrap (cm / (Int.gcd cm d : Int) * d) = nx := by rw [d2]; exact IntWalk.i64_in _ (by omega)
     clear hnx hB hyes d2; go_wp2_with fail
     go_quiet (first | (go_at_call_of 159 (Value.int .i64 cm); exact KG.out _ _))
     go_wp2_with fail
     go_roundw
     case rel => exact ⟨k + 1, by omega, by go_num, by rw [HNX.out], HYES.out d6, jqc HB.out _⟩
     case measure => simp [intOf]; omega
   ·obtain rfl : hs.length = k := by omega
    have h1 : jz7 (jqa hs) hs.length ≤ 1000000 → cdR hs = (jz7 (jqa hs) hs.length : Int) := fun c => cd_yes HV.out c
    have h2 : 1000000 < jz7 (jqa hs) hs.length → cdR hs = -1 := fun c => cd_no2 (Nat.le_refl _) c
    have H1 : Hid ((jz7 (jqa hs) hs.length : Int) ≤ 1000000 → cdR hs = (jz7 (jqa hs) hs.length : Int)) := fun c => h1 (by omega)
    have H2 : Hid (1000000 < (jz7 (jqa hs) hs.length : Int) → cdR hs = -1) := fun c => h2 (by omega)
    have q0 : (0 : Int) ≤ (jz7 (jqa hs) hs.length : Int) := by omega
    have q2 : (jz7 (jqa hs) hs.length : Int) ≤ 10000000000 := by omega
    clear h1 h2 hle; generalize (jz7 (jqa hs) hs.length : Int) = cm at q0 q2 H1 H2; go_wp2_with fail; go_ret; exact ⟨cm, rfl, H1.out, H2.out, q0, q2, hB⟩
def unR (hs : List Hd) : List Int := hs.map fun h => (jz7 (jqa hs) hs.length : Int) / h.2.2 * h.2.1
theorem un_len (hs : List Hd) : (unR hs).length = hs.length := by unfold unR; simp
theorem un_get (hs : List Hd) {k : Nat} (h : k < hs.length) : (unR hs).getD k 0 = (jz7 (jqa hs) hs.length : Int) / (hs.getD k hd0).2.2 * (hs.getD k hd0).2.1 := by
 unfold unR; rw [List.getD_eq_getElem?_getD, List.getElem?_map, jjd hs h, List.getElem?_eq_getElem h]; rfl
theorem cd_pos {hs : List Hd} (h : cdR hs ≠ -1) : vlR hs = true ∧ jz7 (jqa hs) hs.length ≤ 1000000 ∧ cdR hs = (jz7 (jqa hs) hs.length : Int) := by
 unfold cdR at h ⊢
 by_cases c : (vlR hs && decide (jz7 (jqa hs) hs.length ≤ 1000000)) = true
 ·rw [if_pos c]
  simp only [Bool.and_eq_true, decide_eq_true_eq] at c; exact ⟨c.1, c.2, rfl⟩
 ·rw [if_neg c] at h; exact absurd rfl h
theorem un_bd {hs : List Hd} (h : vlR hs = true) (h2 : jz7 (jqa hs) hs.length ≤ 1000000) {k : Nat} (hk : k < hs.length) : 1 ≤ (hs.getD k hd0).2.2 ∧ 0 ≤ (hs.getD k hd0).2.1 ∧ 0 ≤ (jz7 (jqa hs) hs.length : Int) / (hs.getD k hd0).2.2 ∧ (jz7 (jqa hs) hs.length : Int) / (hs.getD k hd0).2.2 ≤ 1000000 ∧ 0 ≤ (jz7 (jqa hs) hs.length : Int) / (hs.getD k hd0).2.2 * (hs.getD k hd0).2.1 ∧ (jz7 (jqa hs) hs.length : Int) / (hs.getD k hd0).2.2 * (hs.getD k hd0).2.1 ≤ 10000000000 := by
 have hs1 : allS hs = true := by unfold vlR at h; simp only [Bool.and_eq_true, decide_eq_true_eq] at h; exact h.1.2
 unfold allS at hs1; rw [jji] at hs1; have := (Wsh.vfB_iff _ _).1 (okF_is (okS_is (hs1 k hk)).1).1; have q0 : 0 ≤ (jz7 (jqa hs) hs.length : Int) / (hs.getD k hd0).2.2 := Int.ediv_nonneg (by omega) (by omega); have q1 : (jz7 (jqa hs) hs.length : Int) / (hs.getD k hd0).2.2 ≤ 1000000 := Int.le_trans (Int.ediv_le_self _ (by omega)) (by omega); exact ⟨this.1, this.2.2.1, q0, q1, Int.mul_nonneg q0 this.2.2.1, Int.le_trans (Int.mul_le_mul q1 (by omega : (hs.getD k hd0).2.1 ≤ 10000) this.2.2.1 (by omega)) (by decide)⟩
theorem sUnits_no (a : Option Addr) (cap : Nat) (hs : List Hd) (w : World) (h : IsHs w a hs) (hn : hs.length ≤ 1048576) (hcd : cdR hs = -1) :
    Calls Try.prog 185 #[.slice a hs.length cap] w fun e w' => e = .returned (.slice none 0 0) ∧ Below w.heap.size w w' := by
  have CV := svl a cap hs w h hn; have HI := Lib.hid h; clear h
  cases hv : vlR hs with
  | false =>
    rw [hv] at CV; clear hcd hv; go_enter Try.func185, Try.ntmps185; go_wp2_with fail; refine CV.mono ?_; rintro e w1 ⟨rfl, hb⟩; go_wp2_with fail; go_ret; exact ⟨rfl, hb⟩
  | true =>
    rw [hv] at CV; have HV := Lib.hid hv; have HC := Lib.hid hcd; clear hcd hv; go_enter Try.func185, Try.ntmps185; go_wp2_with fail; refine CV.mono ?_; rintro e w1 ⟨rfl, hb⟩; go_wp2_with fail; refine (scd a cap hs _ (jx3 HI.out hb) hn HV.out).mono ?_; rintro e w2 ⟨v, rfl, e1, e2, q0, q2, hb2⟩
    have hbig : 1000000 < v := by
      rcases Int.lt_or_le 1000000 v with h | h
      · exact h
      · have := e1 h; rw [HC.out] at this; omega
    clear e1 e2; go_wp2_with fail; go_ret; exact ⟨rfl, jq2 hb hb2⟩
theorem keepU {w W : World} {g off k : Nat} {hs : List Hd} {x n d : Int} (hc : ∀ i, i < hs.length → w.cell? ⟨g, off + i * 3, none⟩ = some (.int .i64 (hs.getD i hd0).1) ∧ w.cell? ⟨g, off + i * 3 + 1, none⟩ = some (.int .i64 (hs.getD i hd0).2.1) ∧ w.cell? ⟨g, off + i * 3 + 2, none⟩ = some (.int .i64 (hs.getD i hd0).2.2)) (hk : k < hs.length) (hx : hs.getD k hd0 = (x, n, d)) (hB : Below w.heap.size w W) :
  W.cell? ⟨g, off + k * 3 + 1, none⟩ = some (.int .i64 n) ∧ W.cell? ⟨g, off + k * 3 + 2, none⟩ = some (.int .i64 d) ∧ Below w.heap.size w W := by
 obtain ⟨_, c1, c2⟩ := jjg hc hB hk; rw [hx] at c1 c2; exact ⟨c1, c2, hB⟩
theorem take_mapI (l : List Int) (k : Nat) (h : k < l.length) : (l.take (k + 1)).map (Value.int .i64) = (l.take k).map (Value.int .i64) ++ [.int .i64 (l.getD k 0)] := by
 rw [List.take_succ_eq_append_getElem h, List.map_append, List.getD_eq_getElem?_getD, List.getElem?_eq_getElem h]; rfl
theorem new_reads (w : World) (u : Value) (t : TypeId) : Reads (w.alloc (.cells #[u] t)) (w.heap.size + 1) 1 (some ⟨w.heap.size, 0, none⟩) 1 [u] :=
 ⟨rfl, fun _ => ⟨_, rfl, Nat.lt_succ_self _, jxg w [u] t⟩⟩
def UnitsS (w : World) (hs : List Hd) (e : Ending) (w' : World) : Prop := ∃ v, e = .returned v ∧ w'.ownsRow w.heap.size 3 1 v hs.length ((unR hs).map (Value.int .i64)) ∧ Below w.heap.size w w'
theorem sUnits (a : Option Addr) (cap : Nat) (hs : List Hd) (w : World) (h : IsHs w a hs) (hn : hs.length ≤ 1048576) (hcd : cdR hs ≠ -1) :
  Calls Try.prog 185 #[.slice a hs.length cap] w (UnitsS w hs) := by
 obtain ⟨hv, hl, hce⟩ := cd_pos hcd; have CV := svl a cap hs w h hn; rw [hv] at CV; have HI := Lib.hid h; obtain ⟨i0, hi, hz0, hz1, hz2⟩ := info_parts infoInt; have HV := Lib.hid hv; have HL := Lib.hid hl
 rcases h with rfl | ⟨g, off, rfl, hc⟩
 ·exact absurd (vlR_is hv).2.one (by decide)
 ·have HC := Lib.hid hc
  have cm0 : (0 : Int) ≤ (jz7 (jqa hs) hs.length : Int) := by omega
  have cm1 : (jz7 (jqa hs) hs.length : Int) ≤ 1000000 := by omega
  obtain ⟨cm, hcm⟩ : ∃ cm, cm = (jz7 (jqa hs) hs.length : Int) := ⟨_, rfl⟩
  rw [← hcm] at hce cm0 cm1; have HCM := Lib.hid hcm; have HCE := Lib.hid hce
  have scm : ∀ (W : World), IsHs W (some ⟨g, off, none⟩) hs → Calls Try.prog 192 #[.slice (some ⟨g, off, none⟩) hs.length cap] W fun e w' => e = .returned (.int .i64 cm) ∧ Below W.heap.size W w' := fun W hW => (scd _ cap hs W hW hn hv).mono (by
   rintro e w2 ⟨v, rfl, e1, e2, q0, q2, hb2⟩
   rcases Int.lt_or_le 1000000 v with h | h
   ·have := e2 h; rw [hce] at this; omega
   ·have := e1 h; rw [hce] at this; rw [this]; exact ⟨rfl, hb2⟩)
  have SCM := Lib.hid scm; clear hc hv hl hce hcd hcm scm; go_enter Try.func185, Try.ntmps185; go_wp2_with fail; refine CV.mono ?_; rintro e w1 ⟨rfl, hb⟩; clear CV; go_wp2_with fail; refine (SCM.out _ (jx3 HI.out hb)).mono ?_; rintro e w2 ⟨rfl, hb2⟩; have hB2 := jq2 hb hb2; clear hb hb2; go_wp2_with fail; have hB2a := hB2.alloc hB2.size (.cells #[] 3); refine (SCM.out _ (jx3 HI.out hB2a)).mono ?_; rintro e w3 ⟨rfl, hb3⟩; have hB3 := jq2 hB2a hb3; have hblk := (Blk.new w2 3 #[]).next hb3
  have hown0 : w3.ownsRow w.heap.size 3 1 (.slice (some ⟨w2.heap.size, 0, none⟩) 0 0) 0 (((unR hs).take 0).map (Value.int .i64)) := ⟨by simp, .inr ⟨w2.heap.size, 0, #[], rfl, hB2.size, hblk, Nat.le_refl _, by unfold maxLen; omega, rfl, rfl⟩⟩
  clear hb3 hblk hB2a; go_wp2_with fail
  go_loopw [3, 5] (fun v i wr => ∃ k : Nat, k ≤ hs.length ∧ i = .int .i64 k ∧ wr.ownsRow w.heap.size 3 1 v k (((unR hs).take k).map (Value.int .i64)) ∧ Below w.heap.size w wr) (fun _ i _ => hs.length - (intOf i).toNat)
  case atStart => exact ⟨0, Nat.zero_le _, rfl, hown0, hB3⟩
  case round =>
   clear hown0 hB3 hB2; obtain ⟨k, hk, rfl, hown, hB⟩ := hrel
   by_cases hlt : k < hs.length
   ·obtain ⟨b0, b1, b2, b3, b4, b5⟩ := un_bd HV.out HL.out hlt
    have hg := un_get hs hlt; have ht := take_mapI (unR hs) k (by rw [un_len]; exact hlt); rw [hg] at ht; rw [← HCM.out] at b2 b3 b4 b5 ht
    obtain ⟨hh, hhe⟩ : ∃ hh, hs.getD k hd0 = hh := ⟨_, rfl⟩
    obtain ⟨x, n, d⟩ := hh; rw [hhe] at b0 b1 b2 b3 b4 b5 ht; dsimp only at b0 b1 b2 b3 b4 b5 ht; have HHE := Lib.hid hhe; have HT := Lib.hid ht
    have hd0' : (d == 0) = false := by simp; omega
    have hw : IntKind.i64.wrap (cm / d * n) = cm / d * n := IntWalk.i64_in _ (by omega); have hq1 : cm.tdiv d = cm / d := Int.tdiv_eq_ediv_of_nonneg cm0; have hq2 : IntKind.i64.wrap (cm / d) = cm / d := IntWalk.i64_in _ (by omega)
    have hdz : ¬ d = 0 := by omega
    have i0' : (0 : Int) ≤ (k : Int) := by omega
    have i1 : (k : Int) < (hs.length : Int) := by omega
    have HB := Lib.hid hB; have hBd := hB.drew; clear hg ht hB hhe; go_wp2_with fail
    have hownD := (show World.ownsRow wr.drew _ _ _ _ _ _ from hown)
    have hownA := hownD.alloc (.cells #[.int .i64 (cm / d * n)] 3); have hnew : Reads (wr.drew.alloc (.cells #[.int .i64 (cm / d * n)] 3)) (wr.heap.size + 1) 1 (some ⟨wr.heap.size, 0, none⟩) 1 [.int .i64 (cm / d * n)] := new_reads wr.drew _ _
    have hbs : w.heap.size ≤ (wr.drew.alloc (.cells #[.int .i64 (cm / d * n)] 3)).heap.size := by have := hBd.size; simp at this ⊢; omega
    go_region_held3 (fun w' => w'.cell? ⟨g, off + k * 3 + 1, none⟩ = some (.int .i64 n) ∧ w'.cell? ⟨g, off + k * 3 + 2, none⟩ = some (.int .i64 d) ∧ Below w.heap.size w w') (first | (exact keepU HC.out hlt HHE.out hBd) | (exact keepU HC.out hlt HHE.out (hBd.alloc hBd.size _)) | (exact keepU HC.out hlt HHE.out ((hBd.alloc hBd.size _).grown hg3 (hBd.alloc hBd.size _).size (fun q hq => (hown.lt q hq).1))))
     ((refine step_append_any _ rfl (.tmp 23) (.tmp 39) 59 (by rfl) w.heap.size 3 i0 (.int .i64 0) 1 8 Try.underlying59 hi hz0 hz1 hz2 rfl (by decide) _ k (((unR hs).take k).map (Value.int .i64)) (by rfl) hownA (wr.heap.size + 1) (some ⟨wr.heap.size, 0, none⟩) 1 1 [.int .i64 (cm / d * n)] (by rfl) hnew (fun x hx => by simp at hx; subst hx; rfl) (by unfold maxLen; omega) (by omega) hbs ?_; intro v' w3 hown' hg3 hat3))
    have hB3 : Below w.heap.size w w3 := (And.right (And.right (by assumption)))
    have hown3 : w3.ownsRow w.heap.size 3 1 v' (k + 1) (((unR hs).take (k + 1)).map (Value.int .i64)) := by rw [HT.out]; exact hown'
    go_wp2_with fail
    go_roundw
    case rel => exact ⟨k + 1, by omega, by go_num, hown3, hB3⟩
    case measure => simp [intOf]; omega
   ·obtain rfl : hs.length = k := by omega
    have HO := Lib.hid hown; have HB := Lib.hid hB; clear hown hB; go_wp2_with fail; go_ret; refine ⟨_, rfl, ?_, HB.out⟩; have ho := HO.out; rw [List.take_of_length_le (by rw [un_len]; exact Nat.le_refl _)] at ho; exact ho
def tfTo (hs : List Hd) (gs : List Int) : Nat → List Tn
 | 0 => []
 | k + 1 => if 0 < gs.getD k 0 then tfTo hs gs k ++ [((hs.getD k hd0).1, gs.getD k 0)] else tfTo hs gs k
theorem tfTo_yes {hs : List Hd} {gs : List Int} {k : Nat} (h : 0 < gs.getD k 0) : tfTo hs gs (k + 1) = tfTo hs gs k ++ [((hs.getD k hd0).1, gs.getD k 0)] := if_pos h
theorem tfTo_no {hs : List Hd} {gs : List Int} {k : Nat} (h : ¬ 0 < gs.getD k 0) : tfTo hs gs (k + 1) = tfTo hs gs k := if_neg h
theorem tfTo_len (hs : List Hd) (gs : List Int) : ∀ k, (tfTo hs gs k).length ≤ k := by
  intro k
  induction k with
  | zero => exact Nat.le_refl _
  | succ k ih =>
    by_cases h : 0 < gs.getD k 0
    · rw [tfTo_yes h, List.length_append]; show _ + 1 ≤ _; omega
    · rw [tfTo_no h]; omega
theorem tfTo_some (hs : List Hd) (gs : List Int) : ∀ k, (∃ j, j < k ∧ 0 < gs.getD j 0) → 0 < (tfTo hs gs k).length := by
  intro k
  induction k with
  | zero => rintro ⟨j, h, _⟩; omega
  | succ k ih =>
    rintro ⟨j, h, hj⟩
    by_cases c : 0 < gs.getD k 0
    · rw [tfTo_yes c, List.length_append]; show 0 < _ + 1; omega
    · rw [tfTo_no c]
      refine ih ⟨j, ?_, hj⟩
      by_cases e : j = k
      · subst e; exact absurd hj c
      · omega
theorem sum_pos_at : ∀ l : List Int, 0 < l.sum → ∃ j, j < l.length ∧ 0 < l.getD j 0 := by
  intro l
  induction l with
  | nil => intro h; simp at h
  | cons z t ih =>
    intro h; rw [List.sum_cons] at h
    by_cases c : 0 < z
    · exact ⟨0, by simp, c⟩
    · obtain ⟨j, a, b⟩ := ih (by omega)
      exact ⟨j + 1, by simpa using a, b⟩
def tfB (hs : List Hd) (n : Int) : Bool := decide (cdR hs ≠ -1) && (decide (1 ≤ n) && decide (n ≤ 336)) && vwB (unR hs)
def tfL (hs : List Hd) (n : Int) : List Tn := tfTo hs (sr n (unR hs)) hs.length
theorem tf_no {hs : List Hd} {n : Int} (h : cdR hs = -1 ∨ (n < 1 ∨ 336 < n) ∨ vwB (unR hs) = false) : tfB hs n = false := by
 unfold tfB
 rcases h with h | h | h
 ·rw [h]; rfl
 ·rcases h with h | h
  ·rw [decide_eq_false (by omega : ¬ 1 ≤ n)]; simp
  ·rw [decide_eq_false (by omega : ¬ n ≤ 336)]; simp
 ·rw [h]; simp
theorem tf_yes {hs : List Hd} {n : Int} (h1 : cdR hs ≠ -1) (h2 : 1 ≤ n) (h3 : n ≤ 336) (h4 : vwB (unR hs) = true) : tfB hs n = true := by
 unfold tfB; rw [h4, decide_eq_true h1, decide_eq_true h2, decide_eq_true h3]; rfl
theorem tf_cs {hs : List Hd} {n : Int} (h2 : 1 ≤ n) (h3 : n ≤ 336) (h4 : vwB (unR hs) = true) : csB n (unR hs) = true := by
 unfold csB; rw [h4, decide_eq_true (by omega : 0 ≤ n), decide_eq_true (by omega : n ≤ 500)]; rfl
theorem tf_some {hs : List Hd} {n : Int} (h2 : 1 ≤ n) (hc : csB n (unR hs) = true) : 0 < (tfL hs n).length := by
 obtain ⟨j, a, b⟩ := sum_pos_at (sr n (unR hs)) (by rw [sr_sum hc]; omega)
 rw [sr_len, un_len] at a; exact tfTo_some _ _ _ ⟨j, a, b⟩
theorem tf_len (hs : List Hd) (n : Int) : (tfL hs n).length ≤ hs.length := tfTo_len _ _ _
def OutTT (w : World) (b : Bool) (L : List Tn) (e : Ending) (w' : World) : Prop := (b = false → e = .returned (.tuple #[.slice none 0 0, .bool false])) ∧ (b = true → ∃ g cap, e = .returned (.tuple #[.slice (some ⟨g, 0, none⟩) L.length cap, .bool true]) ∧ w.heap.size ≤ g ∧ Flat w' g 110 (jx0 L) ∧ L.length ≤ cap) ∧ Below w.heap.size w w'
theorem tt_no {w w' : World} {L : List Tn} {e : Ending} (he : e = .returned (.tuple #[.slice none 0 0, .bool false])) (h : Below w.heap.size w w') : OutTT w false L e w' := ⟨fun _ => he, (fun c => by cases c), h⟩
theorem tt_yes {w w' : World} {L : List Tn} {g cap n : Nat} {e : Ending} (he : e = .returned (.tuple #[.slice (some ⟨g, 0, none⟩) n cap, .bool true])) (hn : n = L.length) (hg : w.heap.size ≤ g) (hF : Flat w' g 110 (jx0 L)) (hc : L.length ≤ cap) (h : Below w.heap.size w w') : OutTT w true L e w' := ⟨(fun c => by cases c), fun _ => ⟨g, cap, by rw [he, hn], hg, hF, hc⟩, h⟩
theorem own_nextT {w w' : World} {base n : Nat} {v : Value} {xs : List Value} (h : w.ownsRow base 110 2 v n xs) (hb : Below w.heap.size w w') : w'.ownsRow base 110 2 v n xs := by
 refine ⟨h.1, ?_⟩
 rcases h.2 with h0 | ⟨g, cap, cur, a, b, c, d⟩
 ·exact .inl h0
 ·refine .inr ⟨g, cap, cur, a, b, ?_, d⟩
  have hg : g < w.heap.size := (World.ownsRow.lt h g (by rw [a]; rfl)).2; rw [hb.block g hg]; exact c
theorem own_unitsT {w : World} {base : Nat} {v : Value} {hs : List Hd} (h : w.ownsRow base 3 1 v hs.length ((unR hs).map (Value.int .i64))) : ∃ (b : Option Addr) (cap : Nat), v = .slice b hs.length cap ∧ jqf w b (unR hs) := by
 have hl := un_len hs; rw [← hl] at h; obtain ⟨b, cap, e, i⟩ := own_ints h; exact ⟨b, cap, by rw [e, hl], i⟩
theorem hs_atF {w wr : World} {g o : Nat} {hs : List Hd} (h : ∀ i, i < hs.length → w.cell? ⟨g, o + i * 3, none⟩ = some (.int .i64 (hs.getD i hd0).1) ∧ w.cell? ⟨g, o + i * 3 + 1, none⟩ = some (.int .i64 (hs.getD i hd0).2.1) ∧ w.cell? ⟨g, o + i * 3 + 2, none⟩ = some (.int .i64 (hs.getD i hd0).2.2)) (hB : Below w.heap.size w wr) {k : Nat} (hk : k < hs.length) : wr.cell? ⟨g, o + k * 3, none⟩ = some (.int .i64 (hs.getD k hd0).1) :=
 (hB.cell (p := ⟨g, o + k * 3, none⟩) (World.block_lt_of_cell? w _ (h k hk).1)).trans (h k hk).1

theorem sareA (a : Option Addr) (cap : Nat) (ac : List Ac) (w : World) (h : IsAc w a ac) (hn : ac.length ≤ 1048576) :
    Calls Try.prog 139 #[.slice a ac.length cap] w fun e w' => e = .returned (.bool (acB ac)) ∧ Below w.heap.size w w' := by
  rcases h with rfl | ⟨g, o, rfl, hc⟩
  · go_enter Try.func139, Try.ntmps139
    go_wp2_with fail
    go_rounds 1
    go_ret; exact ⟨rfl, by go_grown⟩
  · have HC := Lib.hid hc
    clear hc; go_enter Try.func139, Try.ntmps139; go_wp2_with fail
    go_loopw [3] (fun i wr => ∃ k : Nat, k ≤ ac.length ∧ i = .int .i64 k ∧ Hid (∀ j, j < k → okAc ac j = true) ∧ Below w.heap.size w wr) (fun i _ => ac.length - (intOf i).toNat)
    case atStart => exact ⟨0, Nat.zero_le _, rfl, (fun j hj => absurd hj (Nat.not_lt_zero _)), by go_grown⟩
    case round =>
      obtain ⟨k, hk, rfl, HA, hB⟩ := hrel
      by_cases hlt : k < ac.length
      · obtain ⟨x0, x1⟩ := ac_at HC.out hB hlt
        have HN := Lib.hid (acB_no (ac := ac) hlt); have HY := Lib.hid (fun e => rng_more (f := okAc ac) HA.out ((okAc_last ac k).2 e))
        have hk0 : (0 : Int) ≤ (k : Int) := by omega
        have hk1 : (k : Int) < (ac.length : Int) := by omega
        have HB := Lib.hid hB
        by_cases hz : k = 0
        · have e0 : decide ((0 : Int) < (k : Int)) = false := decide_eq_false (by omega)
          have e0' : decide (0 < k) = false := decide_eq_false (by omega)
          have HL : Hid (lastA ac k = 0) := by subst hz; rfl
          rw [HL.out] at HN HY; generalize ac.getD k ac0 = q at x0 x1 HN HY; obtain ⟨x, y⟩ := q; dsimp only at x0 x1; clear hB hz; have K1 := Lib.hid (fun (W : World) (n : Nat) => Calls.quiet_of_same (w := W) (n := n) ((srange3 x 1 999 _).mono (fun _ _ h => ⟨h.1, h.2.symm⟩))); have K2 := Lib.hid (fun (W : World) (n : Nat) => Calls.quiet_of_same (w := W) (n := n) ((srange3 y 1 1000000 _).mono (fun _ _ h => ⟨h.1, h.2.symm⟩)))
          obtain ⟨b1, hb1⟩ : ∃ b, inB3 x 1 999 = b := ⟨_, rfl⟩
          obtain ⟨b2, hb2⟩ : ∃ b, inB3 y 1 1000000 = b := ⟨_, rfl⟩
          rw [hb1] at K1; rw [hb2] at K2; have H1 := Lib.hid hb1; have H2 := Lib.hid hb2; clear hb1 hb2
          cases b1 with
          | false =>
            have hv : Hid (acB ac = false) := HN.out (fun c => by dsimp only at c; have h3 := inB3_no H1.out; omega); go_wp2_with fail
            go_quiet (first | (go_at_call_of 112 (Value.int .i64 x); exact K1.out _ _))
            go_wp2_with fail; go_ret; exact ⟨jq8 hv.out.symm, jqc HB.out _⟩
          | true =>
          cases b2 with
          | false =>
            have hv : Hid (acB ac = false) := HN.out (fun c => by dsimp only at c; have h3 := inB3_no H2.out; omega); go_wp2_with fail
            go_quiet (first | (go_at_call_of 112 (Value.int .i64 x); exact K1.out _ _) | (go_at_call_of 112 (Value.int .i64 y); exact K2.out _ _))
            go_wp2_with fail; go_ret; exact ⟨jq8 hv.out.symm, jqc HB.out _⟩
          | true =>
          have HY2 := Lib.hid (HY.out (by dsimp only; have h3 := jxf H1.out; have h4 := jxf H2.out; omega)); clear HY HN; go_wp2_with fail
          go_quiet (first | (go_at_call_of 112 (Value.int .i64 x); exact K1.out _ _) | (go_at_call_of 112 (Value.int .i64 y); exact K2.out _ _))
          go_wp2_with fail
          go_roundw
          case rel => exact ⟨k + 1, by omega, by go_num, HY2.out, jqc HB.out _⟩
          case measure => simp [intOf]; omega
        · obtain ⟨m, hm⟩ : ∃ m, k = m + 1 := ⟨k - 1, by omega⟩
          have e0 : decide ((0 : Int) < (k : Int)) = true := decide_eq_true (by omega); have e0' : decide (0 < k) = true := decide_eq_true (by omega); obtain ⟨y0, y1⟩ := ac_at HC.out hB (k := m) (by omega)
          have hw : IntKind.i64.wrap ((k : Int) - 1) = (m : Int) := by rw [IntKind.wrap_i64]; omega
          have hm0 : (0 : Int) ≤ (m : Int) := by omega
          have hm1 : (m : Int) < (ac.length : Int) := by omega
          have HL : Hid (lastA ac k = (ac.getD m ac0).1) := by subst hm; rfl
          rw [HL.out] at HN HY; generalize ac.getD k ac0 = q at x0 x1 HN HY; generalize (ac.getD m ac0).1 = l at y0 HN HY; obtain ⟨x, y⟩ := q; dsimp only at x0 x1; clear hB y1 hz hm HL; have K1 := Lib.hid (fun (W : World) (n : Nat) => Calls.quiet_of_same (w := W) (n := n) ((srange3 x 1 999 _).mono (fun _ _ h => ⟨h.1, h.2.symm⟩))); have K2 := Lib.hid (fun (W : World) (n : Nat) => Calls.quiet_of_same (w := W) (n := n) ((srange3 y 1 1000000 _).mono (fun _ _ h => ⟨h.1, h.2.symm⟩)))
          obtain ⟨b1, hb1⟩ : ∃ b, inB3 x 1 999 = b := ⟨_, rfl⟩
          obtain ⟨b2, hb2⟩ : ∃ b, inB3 y 1 1000000 = b := ⟨_, rfl⟩
          rw [hb1] at K1; rw [hb2] at K2; have H1 := Lib.hid hb1; have H2 := Lib.hid hb2; clear hb1 hb2
          cases b1 with
          | false =>
            have hv : Hid (acB ac = false) := HN.out (fun c => by dsimp only at c; have h3 := inB3_no H1.out; omega); go_wp2_with fail
            go_quiet (first | (go_at_call_of 112 (Value.int .i64 x); exact K1.out _ _))
            go_wp2_with fail; go_ret; exact ⟨jq8 hv.out.symm, jqc HB.out _⟩
          | true =>
          cases b2 with
          | false =>
            have hv : Hid (acB ac = false) := HN.out (fun c => by dsimp only at c; have h3 := inB3_no H2.out; omega); go_wp2_with fail
            go_quiet (first | (go_at_call_of 112 (Value.int .i64 x); exact K1.out _ _) | (go_at_call_of 112 (Value.int .i64 y); exact K2.out _ _))
            go_wp2_with fail; go_ret; exact ⟨jq8 hv.out.symm, jqc HB.out _⟩
          | true =>
          by_cases h5 : x ≤ l
          · have e5 : decide (x ≤ l) = true := decide_eq_true h5
            have hv : Hid (acB ac = false) := HN.out (fun c => by dsimp only at c; omega); go_wp2_with fail
            go_quiet (first | (go_at_call_of 112 (Value.int .i64 x); exact K1.out _ _) | (go_at_call_of 112 (Value.int .i64 y); exact K2.out _ _))
            go_wp2_with fail; go_ret; exact ⟨jq8 hv.out.symm, jqc HB.out _⟩
          have e5 : decide (x ≤ l) = false := decide_eq_false h5; have HY2 := Lib.hid (HY.out (by dsimp only; have h3 := jxf H1.out; have h4 := jxf H2.out; omega)); clear HY HN; go_wp2_with fail
          go_quiet (first | (go_at_call_of 112 (Value.int .i64 x); exact K1.out _ _) | (go_at_call_of 112 (Value.int .i64 y); exact K2.out _ _))
          go_wp2_with fail
          go_roundw
          case rel => exact ⟨k + 1, by omega, by go_num, HY2.out, jqc HB.out _⟩
          case measure => simp [intOf]; omega
      · have HE : Hid (acB ac = true) := rng_yes (fun j hj => HA.out j (by omega))
        go_wp2_with fail; go_ret; exact ⟨jq8 HE.out.symm, hB⟩
theorem sgiven (a : Option Addr) (cap : Nat) (ac : List Ac) (w : World) (h : IsAc w a ac) (hn : ac.length ≤ 1048576) (hv : acB ac = true) :
  Calls Try.prog 140 #[.slice a ac.length cap] w fun e w' => e = .returned (.int .i64 (acS ac ac.length)) ∧ w = w' := by
 rcases h with rfl | ⟨g, o, rfl, hc⟩
 ·go_enter Try.func140, Try.ntmps140
  go_wp2_with fail
  go_rounds 1
  go_ret; exact ⟨rfl, rfl⟩
 ·have HC := Lib.hid hc
  have HB := Lib.hid (acS_bd hv); have HV := Lib.hid hv; clear hc hv; go_enter Try.func140, Try.ntmps140; go_wp2_with fail
  go_loop [3, 4] (fun s i => ∃ k : Nat, k ≤ ac.length ∧ i = .int .i64 k ∧ s = .int .i64 (acS ac k)) (fun _ i => ac.length - (intOf i).toNat)
  case atStart => exact ⟨0, Nat.zero_le _, rfl, rfl⟩
  case round =>
   obtain ⟨k, hk, rfl, rfl⟩ := hrel; obtain ⟨b0, b1⟩ := HB.out k hk
   by_cases hlt : k < ac.length
   ·obtain ⟨x0, x1⟩ := HC.out k hlt
    have ht : acS ac (k + 1) = acS ac k + (ac.getD k ac0).2 := rfl; obtain ⟨_, _, z0, z1, _⟩ := (okAc_iff ac k).1 (acB_at HV.out hlt); generalize ac.getD k ac0 = hh at x0 x1 ht z0 z1; obtain ⟨x, y⟩ := hh; dsimp only at x0 x1 ht z0 z1; generalize acS ac k = s at ht b0 b1; have HT := Lib.hid ht
    
    clear ht 
    go_wp2
    go_round
    case rel => exact ⟨k + 1, by omega, by go_num, by rw [HT.out]⟩
    case measure => simp [intOf]; omega
   ·obtain rfl : k = ac.length := by omega
    go_wp2
    go_ret; exact ⟨rfl, rfl⟩
theorem svtw (p : TA) (t : Tw) (w : World) (h : IsTw w p t) :
    Calls Try.prog 86 #[twV p t] w fun e w' => e = .returned (.bool (twB t)) ∧ Below w.heap.size w w' := by
  obtain ⟨a1, c1, a2, c2, a3, c3, a4, c4⟩ := p; obtain ⟨hs, ts, ns, r, hd, ac, rt, tm, ls, cm⟩ := t; obtain ⟨h1, h2, h3, h4, n1, n2, n3, n4, k1, k2, k3, k4⟩ := h; dsimp only at h1 h2 h3 h4 n1 n2 n3 n4 k1 k2 k3 k4
  have C1 := fun W (hW : Below w.heap.size w W) => svl a1 c1 hs W (jx3 h1 hW) n1
  have C2 := fun W (hW : Below w.heap.size w W) => svt a2 c2 ts W (tn_below h2 hW) n2
  have C3 := fun W (hW : Below w.heap.size w W) => svn a3 c3 ns W (nd_below h3 hW) n3
  have C4 := fun W => svb r hd W
  have C5 := fun W (hW : Below w.heap.size w W) => sareA a4 c4 ac W (ac_below h4 hW) n4
  have C6 := fun W (hW : Below w.heap.size w W) (hv : acB ac = true) => sgiven a4 c4 ac W (ac_below h4 hW) n4 hv
  obtain ⟨R, hR⟩ : ∃ R, twB ⟨hs, ts, ns, r, hd, ac, rt, tm, ls, cm⟩ = R := ⟨_, rfl⟩
  rw [hR]; unfold twB at hR; dsimp only at hR; have HS5 := Lib.hid (fun (hv : acB ac = true) => acS_bd hv ac.length (Nat.le_refl _))
  obtain ⟨s, hs_⟩ : ∃ s, acS ac ac.length = s := ⟨_, rfl⟩
  rw [hs_] at HS5 C6 hR
  obtain ⟨b1, e1⟩ : ∃ b, vlR hs = b := ⟨_, rfl⟩
  obtain ⟨b2, e2⟩ : ∃ b, vtB ts = b := ⟨_, rfl⟩
  obtain ⟨b3, e3⟩ : ∃ b, vnB ns = b := ⟨_, rfl⟩
  obtain ⟨b4, e4⟩ : ∃ b, vbB r hd = b := ⟨_, rfl⟩
  obtain ⟨b5, e5⟩ : ∃ b, acB ac = b := ⟨_, rfl⟩
  obtain ⟨b6, e6⟩ : ∃ b, inB3 rt 0 500 = b := ⟨_, rfl⟩
  obtain ⟨b7, e7⟩ : ∃ b, inB3 tm 0 5000 = b := ⟨_, rfl⟩
  obtain ⟨b8, e8⟩ : ∃ b, inB3 ls 0 1000000 = b := ⟨_, rfl⟩
  obtain ⟨b9, e9⟩ : ∃ b, inB3 cm 0 1000000 = b := ⟨_, rfl⟩
  rw [e1] at C1 hR; rw [e2] at C2 hR; rw [e3] at C3 hR; rw [e4] at C4 hR; rw [e5] at C5 hR; rw [e6, e7, e8, e9] at hR; have E4 := Lib.hid e4; have E5 := Lib.hid e5; have E6 := Lib.hid e6; have E7 := Lib.hid e7; have E8 := Lib.hid e8; have E9 := Lib.hid e9; have HR := Lib.hid hR; have H1 := Lib.hid C1; have H2 := Lib.hid C2; have H3 := Lib.hid C3; have H4 := Lib.hid C4; have H5 := Lib.hid C5; have H6 := Lib.hid C6; clear h1 h2 h3 h4 k1 k2 k3 k4 e1 e2 e3 e4 e5 e6 e7 e8 e9 hR C1 C2 C3 C4 C5 C6 hs_ n1 n2 n3
  show Calls _ _ #[.agg #[.slice a1 hs.length c1, .slice a2 ts.length c2, .slice a3 ns.length c3, .int .i64 r, .int .i64 hd, .slice a4 ac.length c4, .int .i64 rt, .int .i64 tm, .int .i64 ls, .int .i64 cm]] _ _
  go_enter Try.func86, Try.ntmps86; have K := Blk.new w 49 #[.slice a1 hs.length c1, .slice a2 ts.length c2, .slice a3 ns.length c3, .int .i64 r, .int .i64 hd, .slice a4 ac.length c4, .int .i64 rt, .int .i64 tm, .int .i64 ls, .int .i64 cm]; have B := (Below.refl w.heap.size w).alloc (Nat.le_refl _) (.cells #[.slice a1 hs.length c1, .slice a2 ts.length c2, .slice a3 ns.length c3, .int .i64 r, .int .i64 hd, .slice a4 ac.length c4, .int .i64 rt, .int .i64 tm, .int .i64 ls, .int .i64 cm] 49); obtain ⟨q0, q1, q2, q3, q4, q5, q6, q7, q8, q9⟩ := jq0 K; go_wp2_with fail; generalize w.alloc (.cells #[.slice a1 hs.length c1, .slice a2 ts.length c2, .slice a3 ns.length c3, .int .i64 r, .int .i64 hd, .slice a4 ac.length c4, .int .i64 rt, .int .i64 tm, .int .i64 ls, .int .i64 cm] 49) = U at K B q0 q1 q2 q3 q4 q5 q6 q7 q8 q9 ⊢; refine (H1.out _ B).mono ?_; rintro e u ⟨rfl, C⟩; replace K := K.next C; replace B := jq2 B C; clear C q0 q1 q2 q3 q4 q5 q6 q7 q8 q9; obtain ⟨q0, q1, q2, q3, q4, q5, q6, q7, q8, q9⟩ := jq0 K
  cases b1 with
  | false =>
    go_wp2_with fail; go_ret; exact ⟨jq8 HR.out, B⟩
  | true =>
  go_wp2_with fail; refine (H2.out _ B).mono ?_; rintro e u ⟨rfl, rfl⟩
  cases b2 with
  | false =>
    go_wp2_with fail; go_ret; exact ⟨jq8 HR.out, B⟩
  | true =>
  go_wp2_with fail; refine (H3.out _ B).mono ?_; rintro e u ⟨rfl, C⟩; replace K := K.next C; replace B := jq2 B C; clear C q0 q1 q2 q3 q4 q5 q6 q7 q8 q9; obtain ⟨q0, q1, q2, q3, q4, q5, q6, q7, q8, q9⟩ := jq0 K
  cases b3 with
  | false =>
    go_wp2_with fail; go_ret; exact ⟨jq8 HR.out, B⟩
  | true =>
  go_wp2_with fail; refine (H4.out _).mono ?_; rintro e u ⟨rfl, C⟩; replace K := K.next C; replace B := jq2 B C; clear C q0 q1 q2 q3 q4 q5 q6 q7 q8 q9; obtain ⟨q0, q1, q2, q3, q4, q5, q6, q7, q8, q9⟩ := jq0 K
  cases b4 with
  | false =>
    go_wp2_with fail; go_ret; exact ⟨jq8 HR.out, B⟩
  | true =>
  go_wp2_with fail; refine (H5.out _ B).mono ?_; rintro e u ⟨rfl, C⟩; replace K := K.next C; replace B := jq2 B C; clear C q0 q1 q2 q3 q4 q5 q6 q7 q8 q9; obtain ⟨q0, q1, q2, q3, q4, q5, q6, q7, q8, q9⟩ := jq0 K
  cases b5 with
  | false =>
    go_wp2_with fail; go_ret; exact ⟨jq8 HR.out, B⟩
  | true =>
  have K6 := Lib.hid (fun (W : World) (n : Nat) => Calls.quiet_of_same (w := W) (n := n) ((srange3 rt 0 500 _).mono (fun _ _ h => ⟨h.1, h.2.symm⟩))); rw [E6.out] at K6; have K7 := Lib.hid (fun (W : World) (n : Nat) => Calls.quiet_of_same (w := W) (n := n) ((srange3 tm 0 5000 _).mono (fun _ _ h => ⟨h.1, h.2.symm⟩))); rw [E7.out] at K7; have K8 := Lib.hid (fun (W : World) (n : Nat) => Calls.quiet_of_same (w := W) (n := n) ((srange3 ls 0 1000000 _).mono (fun _ _ h => ⟨h.1, h.2.symm⟩))); rw [E8.out] at K8; have K9 := Lib.hid (fun (W : World) (n : Nat) => Calls.quiet_of_same (w := W) (n := n) ((srange3 cm 0 1000000 _).mono (fun _ _ h => ⟨h.1, h.2.symm⟩))); rw [E9.out] at K9; have K10 := Lib.hid (fun (n : Nat) => Calls.quiet_of_same (w := u) (n := n) ((H6.out (World.drewN u n) (jqc B n) E5.out).mono (fun _ _ h => ⟨h.1, h.2.symm⟩)))
  cases b6 with
  | false =>
    go_wp2_with fail
    go_quiet (first | (go_at_call_of 112 (Value.int .i64 rt); exact K6.out _ _))
    go_wp2_with fail; go_ret; exact ⟨jq8 HR.out, jqc B _⟩
  | true =>
  cases b7 with
  | false =>
    go_wp2_with fail
    go_quiet (first | (go_at_call_of 112 (Value.int .i64 rt); exact K6.out _ _) | (go_at_call_of 112 (Value.int .i64 tm); exact K7.out _ _))
    go_wp2_with fail; go_ret; exact ⟨jq8 HR.out, jqc B _⟩
  | true =>
  cases b8 with
  | false =>
    go_wp2_with fail
    go_quiet (first | (go_at_call_of 112 (Value.int .i64 rt); exact K6.out _ _) | (go_at_call_of 112 (Value.int .i64 tm); exact K7.out _ _) | (go_at_call_of 112 (Value.int .i64 ls); exact K8.out _ _))
    go_wp2_with fail; go_ret; exact ⟨jq8 HR.out, jqc B _⟩
  | true =>
  cases b9 with
  | false =>
    go_wp2_with fail
    go_quiet (first | (go_at_call_of 112 (Value.int .i64 rt); exact K6.out _ _) | (go_at_call_of 112 (Value.int .i64 tm); exact K7.out _ _) | (go_at_call_of 112 (Value.int .i64 ls); exact K8.out _ _) | (go_at_call_of 112 (Value.int .i64 cm); exact K9.out _ _))
    go_wp2_with fail; go_ret; exact ⟨jq8 HR.out, jqc B _⟩
  | true =>
  obtain ⟨s0, s1⟩ := HS5.out E5.out
  have v4 : 0 ≤ hd ∧ hd ≤ 20000 := by have := vb_iff.1 E4.out; omega
  obtain ⟨v5, v6⟩ := jxf E8.out; obtain ⟨v7, v8⟩ := v4
  have hlen : (ac.length : Int) ≤ 1048576 := by omega
  have w1 : IntKind.i64.wrap (s + hd) = s + hd := by rw [IntKind.wrap_i64]; omega
  have w2 : IntKind.i64.wrap (s + hd + ls) = s + hd + ls := by rw [IntKind.wrap_i64]; omega
  clear HS5 hlen n4 s0 s1 v5 v6 v7 v8; go_wp2_with fail
  go_quiet (first | (go_at_call_of 112 (Value.int .i64 rt); exact K6.out _ _) | (go_at_call_of 112 (Value.int .i64 tm); exact K7.out _ _) | (go_at_call_of 112 (Value.int .i64 ls); exact K8.out _ _) | (go_at_call_of 112 (Value.int .i64 cm); exact K9.out _ _) | (go_at_call_of 140 (Value.slice a4 ac.length c4); exact K10.out _))
  go_wp2_with fail; go_ret; exact ⟨itown_last R HR.out.symm, jqc B _⟩
def newT (o r rt : Int) : Tw := if inB3 o 1 999 && (inB3 r 0 20000 && inB3 rt 0 500) then ⟨[(o, 1, 1)], [(o, 24)], [(-1, 0, 0, 500, 0)], r, 0, [], rt, 0, 0, 0⟩ else Tw.zero
theorem sinRangeT (n l h : Int) (w : World) :
  Calls Try.prog 112 #[.int .i64 n, .int .i64 l, .int .i64 h] w fun e w' => e = .returned (.bool (decide (l ≤ n) && decide (n ≤ h))) ∧ w = w' := by
 by_cases c : n < l ∨ h < n
 ·have e : (decide (l ≤ n) && decide (n ≤ h)) = false := by
   rcases c with c | c
   ·rw [decide_eq_false (by omega : ¬ l ≤ n)]; rfl
   ·rw [decide_eq_false (by omega : ¬ n ≤ h)]; simp
  rw [e]; exact jz6 n l h w c
 ·rw [decide_eq_true (by omega : l ≤ n), decide_eq_true (by omega : n ≤ h)]; exact jqh n l h w (by omega) (by omega)
theorem own_drewT {w : World} {base n : Nat} {v : Value} {xs : List Value} (h : w.ownsRow base 110 2 v n xs) : w.drew.ownsRow base 110 2 v n xs := h
theorem g_transO {a b c : World} {row : Option Nat} (h : a.grownBy b row) (k : b.grownBy c row) : a.grownBy c row :=
 ⟨k.os.trans h.os, k.tape.trans h.tape, k.output.trans h.output, Nat.le_trans h.size k.size, fun i hi hne => (k.block i (Nat.lt_of_lt_of_le hi h.size) hne).trans (h.block i hi hne)⟩
theorem kp2g {W wq v : World} {row : Option Nat} {g0 g5 a0 a1 : Nat} {v0 v1 : Value} (hg : W.grownBy wq row) (n0 : row ≠ some g0) (n5 : row ≠ some g5)
  (h : (W.cell? ⟨g0, a0, none⟩ = some v0 ∧ W.cell? ⟨g5, a1, none⟩ = some v1) ∧ v.grownBy W row) : (wq.cell? ⟨g0, a0, none⟩ = some v0 ∧ wq.cell? ⟨g5, a1, none⟩ = some v1) ∧ v.grownBy wq row := by
 obtain ⟨⟨a, b⟩, g⟩ := h
 have k : ∀ {q o : Nat} {u : Value}, row ≠ some q → W.cell? ⟨q, o, none⟩ = some u → wq.cell? ⟨q, o, none⟩ = some u := fun hn hp => (World.cell?_of_block (hg.block _ (World.block_lt_of_cell? W _ hp) (fun e => hn e.symm))).trans hp
 exact ⟨⟨k n0 a, k n5 b⟩, g_transO g hg⟩
theorem sTurnsFor (a : Option Addr) (cap : Nat) (hs : List Hd) (n : Int) (w : World) (h : IsHs w a hs) (hn : hs.length ≤ 1048576) :
    Calls Try.prog 179 #[.slice a hs.length cap, .int .i64 n] w (OutTT w (tfB hs n) (tfL hs n)) := by
  by_cases hcd : cdR hs = -1
  · have CU := sUnits_no a cap hs w h hn hcd
    rw [tf_no (.inl hcd)]; clear h hcd; go_enter Try.func179, Try.ntmps179; go_wp2_with fail; refine CU.mono ?_; rintro e w1 ⟨rfl, C⟩; go_wp2_with fail
    go_returns
    exact tt_no rfl C
  have CU := sUnits a cap hs w h hn hcd; have hul := un_len hs
  have hl1 : 1 ≤ hs.length := by
    rcases hs with _ | ⟨x, t⟩
    · exact absurd (vlR_is (cd_pos hcd).1).2.one (by decide)
    · simp
  have q0 : ((hs.length : Int) == 0) = false := beq_eq_false_iff_ne.2 (by omega); have q1 : (hs.length == 0) = false := beq_eq_false_iff_ne.2 (by omega); have CW := Lib.hid (fun (b : Option Addr) (c : Nat) W (hW : jqf W b (unR hs)) => (by have := svalidSplit n b c (unR hs) W hW (by rw [hul]; exact hn); rw [hul] at this; exact this : Calls Try.prog 186 #[.int .i64 n, .slice b hs.length c] W fun e w' => e = .returned (.bool (csB n (unR hs))) ∧ W = w'))
  have CN := fun W => sinRangeT n 1 336 W
  cases hv : csB n (unR hs) with
  | false =>
    have hno : tfB hs n = false := by
      cases c : tfB hs n with
      | false => rfl
      | true =>
        unfold tfB at c; simp only [Bool.and_eq_true, decide_eq_true_eq] at c; rw [tf_cs c.1.2.1 c.1.2.2 c.2] at hv; cases hv
    rw [hno]; rw [hv] at CW; clear h hcd hv hul hno CN; go_enter Try.func179, Try.ntmps179; go_wp2_with fail; refine CU.mono ?_; rintro e w1 ⟨v, rfl, R1, C⟩; obtain ⟨b1, cp1, rfl, I1⟩ := own_unitsT R1; go_wp2_with fail; refine (CW.out _ _ _ I1).mono ?_; rintro e w' ⟨rfl, rfl⟩; clear R1 I1; go_wp2_with fail
    go_returns
    exact tt_no rfl C
  | true =>
  rw [hv] at CW
  cases hr : (decide (1 ≤ n) && decide (n ≤ 336)) with
  | false =>
    have hno : tfB hs n = false := by unfold tfB; rw [hr]; simp
    rw [hno]; rw [hr] at CN; clear h hcd hv hul hno hr; go_enter Try.func179, Try.ntmps179; go_wp2_with fail; refine CU.mono ?_; rintro e w1 ⟨v, rfl, R1, C⟩; obtain ⟨b1, cp1, rfl, I1⟩ := own_unitsT R1; go_wp2_with fail; refine (CW.out _ _ _ I1).mono ?_; rintro e w' ⟨rfl, rfl⟩; clear R1 I1; go_wp2_with fail; refine (CN _).mono ?_; rintro e w' ⟨rfl, rfl⟩; go_wp2_with fail
    go_returns
    exact tt_no rfl C
  | true =>
    have hr2 := hr; simp only [Bool.and_eq_true, decide_eq_true_eq] at hr2
    have hvw : vwB (unR hs) = true := by
      unfold csB at hv; rw [Bool.and_eq_true] at hv; exact hv.2
    have hcs := hv; rw [tf_yes hcd hr2.1 hr2.2 hvw]; rw [hr] at CN; have HS := Lib.hid (tf_some (hs := hs) hr2.1 hcs); have CR := Lib.hid (fun (b : Option Addr) (c : Nat) W (hW : jqf W b (unR hs)) => (by have := sbyRest n b c (unR hs) W hW (by rw [hul]; exact hn) hcs; rw [hul] at this; exact this : Calls Try.prog 187 #[.int .i64 n, .slice b hs.length c] W (DivS hs.length (sr n (unR hs)) W)))
    have hgl : (sr n (unR hs)).length = hs.length := by rw [sr_len, hul]
    have hL : tfL hs n = tfTo hs (sr n (unR hs)) hs.length := rfl; rw [hL] at HS ⊢; have HTL := Lib.hid (fun k => tfTo_len hs (sr n (unR hs)) k); obtain ⟨i0, hi0, hz0, hz1, hz2⟩ := info_parts infoTn
    rcases h with rfl | ⟨g0, o, rfl, hcl⟩
    · exact absurd HS.out (by show ¬ 0 < 0; omega)
    have hg0 : g0 < w.heap.size := World.block_lt_of_cell? w _ (hcl 0 (by omega)).1; have HC := Lib.hid hcl; clear hv hcd hcl hcs hL hr hr2 hvw hul; go_enter Try.func179, Try.ntmps179; go_wp2_with fail; refine CU.mono ?_; rintro e w1 ⟨v, rfl, R1, C⟩; obtain ⟨b1, cp1, rfl, I1⟩ := own_unitsT R1; clear R1; go_wp2_with fail; refine (CW.out _ _ _ I1).mono ?_; rintro e w' ⟨rfl, rfl⟩; go_wp2_with fail; refine (CN _).mono ?_; rintro e w' ⟨rfl, rfl⟩
    have hO : (w1.alloc (.cells #[] 110)).ownsRow w1.heap.size 110 2 (.slice (some ⟨w1.heap.size, 0, none⟩) 0 0) 0 [] := ⟨by simp, .inr ⟨w1.heap.size, 0, #[], rfl, Nat.le_refl _, Go.Deep.blk_alloc_new _ _, Nat.le_refl _, by unfold maxLen; omega, rfl, rfl⟩⟩
    have HOw := Lib.hid hO; have hS := C.size; have CRa := CR.out _ cp1 _ (jq9 I1 ((Below.refl w1.heap.size w1).alloc (Nat.le_refl _) (.cells #[] 110))); have HB := Lib.hid (C.alloc C.size (.cells #[] 110)); have HK := Lib.hid (Blk.new w1 110 #[])
    have hszA : w1.heap.size < (w1.alloc (.cells #[] 110)).heap.size := by simp
    clear C hO I1 CR CW CU CN; generalize unR hs = us at *; generalize sr n us = gs at *; go_wp2_with fail; refine CRa.mono ?_; rintro e w2 ⟨b2, cp2, rfl, I2, C2⟩
    rcases I2 with rfl | ⟨g2, o2, rfl, hc2⟩
    · simp at hgl; omega
    have hne : w1.heap.size ≠ g2 := fun e => by
      have a := hc2 0 (by omega); rw [← e, (HK.out.next C2).cell] at a
      simp at a
    have HR2 : Hid (w2.ownsRow w1.heap.size 110 2 (.slice (some ⟨w1.heap.size, 0, none⟩) 0 0) 0 [] ∧ (∀ i, i < hs.length → w2.cell? ⟨g2, o2 + i, none⟩ = some (.int .i64 (gs.getD i 0))) ∧ Below w.heap.size w w2) := ⟨own_nextT HOw.out C2, fun i hi => hc2 i (by omega), jq2 HB.out C2⟩
    have hs12 : w1.heap.size < w2.heap.size := by have := C2.size; omega
    clear CRa hc2 C2 HOw HB HK; go_wp2_with fail
    go_loopw [7, 9] (fun v i wr => ∃ k : Nat, k ≤ hs.length ∧ i = .int .i64 k ∧ Hid (wr.ownsRow w1.heap.size 110 2 v (tfTo hs gs k).length (jj6 (tfTo hs gs k)) ∧ (∀ i, i < hs.length → wr.cell? ⟨g2, o2 + i, none⟩ = some (.int .i64 (gs.getD i 0))) ∧ Below w.heap.size w wr ∧ v.ownBlock ≠ some g2) ∧ w1.heap.size < wr.heap.size) (fun _ i _ => hs.length - (intOf i).toNat)
    case atStart => exact ⟨0, Nat.zero_le _, rfl, ⟨HR2.out.1, HR2.out.2.1, HR2.out.2.2, fun c => hne (Option.some.inj c)⟩, hs12⟩
    case round =>
      clear HR2; obtain ⟨k, hk, rfl, HR, hsw⟩ := hrel
      by_cases hlt : k < hs.length
      · have c0 := hs_atF HC.out HR.out.2.2.1 hlt
        have c1 := HR.out.2.1 k hlt; have hll := HTL.out k
        have ny := fun h => tfTo_yes (hs := hs) (gs := gs) (k := k) h
        have nn := fun h => tfTo_no (hs := hs) (gs := gs) (k := k) h
        have hszr := World.block_lt_of_cell? wr _ c1; generalize (hs.getD k hd0).1 = x0 at c0 ny; generalize gs.getD k 0 = y at c1 ny nn
        have b0 : (0 : Int) ≤ (k : Int) := by omega
        have b1_ : (k : Int) < (hs.length : Int) := by omega
        by_cases hy0 : 0 < y
        · have e3 : decide (0 < y) = true := decide_eq_true hy0
          have HN := Lib.hid (ny hy0); clear ny nn hy0; have HRR := HR
          obtain ⟨out, hout⟩ : ∃ out, tfTo hs gs k = out := ⟨_, rfl⟩
          have HN2 : Hid (tfTo hs gs (k + 1) = out ++ [(x0, y)]) := by show _ = _; rw [HN.out, hout]
          have HO : Hid (wr.ownsRow w1.heap.size 110 2 u7 out.length (jj6 out)) := by show World.ownsRow _ _ _ _ _ _ _; rw [← hout]; exact HR.out.1
          have n0 : u7.ownBlock ≠ some g0 := fun e => by have := (HO.out.lt g0 e).1; omega
          have n5 : u7.ownBlock ≠ some g2 := HR.out.2.2.2; rw [hout] at hll; clear HN hout HR; go_wp2_with fail; refine wp_region_held_drew (S := (fun W' => (W'.cell? ⟨g0, o + k * 3, none⟩ = some (.int .i64 x0) ∧ W'.cell? ⟨g2, o2 + k, none⟩ = some (.int .i64 y)) ∧ wr.grownBy W' u7.ownBlock)) (by kernel_rfl) ?_ (fun hHeld => ?_)
          · exact ⟨⟨c0, c1⟩, g_drewN (g_of (Below.refl _ _) _) 1⟩
          refine tk (i := 0) (v := ?v199) rfl ?c199 ?d_199
          case c199 => (refine .inl ⟨by rfl, ?_⟩; intro w h; (try dsimp only at h); go_simp <;> with_reducible rfl)
          try simp only [pt]
          refine tk (i := 1) (v := ?v19a) rfl ?c19a ?d_19a
          case c19a => (refine .inl ⟨by rfl, ?_⟩; intro w h; (try dsimp only at h); go_simp <;> with_reducible rfl)
          try simp only [pt]
          refine tk (i := 2) (v := ?v19b) rfl ?c19b ?d_19b
          case c19b => (refine .inl ⟨by rfl, ?_⟩; intro w h; (try dsimp only at h); go_simp <;> with_reducible rfl)
          try simp only [pt]
          refine tk (i := 3) (v := ?v19c) rfl ?c19c ?d_19c
          case c19c => (refine .inl ⟨by rfl, ?_⟩; intro w h; (try dsimp only at h); go_simp <;> with_reducible rfl)
          try simp only [pt]
          refine tk (i := 4) (v := ?v19d) rfl ?c19d ?d_19d
          case c19d => (refine .inl ⟨by rfl, ?_⟩; intro w h; (try dsimp only at h); go_simp <;> with_reducible rfl)
          try simp only [pt]
          refine tk (i := 5) (v := ?v19e) rfl ?c19e ?d_19e
          case c19e => (refine .inl ⟨by rfl, ?_⟩; intro w h; (try dsimp only at h); go_simp <;> with_reducible rfl)
          try simp only [pt]
          refine tk (i := 6) (v := ?v19f) rfl ?c19f ?d_19f
          case c19f => (refine .inl ⟨by rfl, ?_⟩; intro w h; (try dsimp only at h); go_simp <;> with_reducible rfl)
          try simp only [pt]
          refine tk (i := 7) (v := ?v1a0) rfl ?c1a0 ?d_1a0
          case c1a0 => (refine .inl ⟨by rfl, ?_⟩; intro w h; (try dsimp only at h); go_simp <;> with_reducible rfl)
          try simp only [pt]
          refine tk (i := 8) (v := ?v1a1) rfl ?c1a1 ?d_1a1
          case c1a1 => (refine .inl ⟨by rfl, ?_⟩; intro w h; (try dsimp only at h); go_simp <;> with_reducible rfl)
          try simp only [pt]
          refine tk (i := 9) (v := ?v1a2) rfl ?c1a2 ?d_1a2
          case c1a2 => (refine .inl ⟨by rfl, ?_⟩; intro w h; (try dsimp only at h); go_simp <;> with_reducible rfl)
          try simp only [pt]
          refine tk (i := 10) (v := ?v1a3) rfl ?c1a3 ?d_1a3
          case c1a3 => (refine .inl ⟨by rfl, ?_⟩; intro w h; (try dsimp only at h); go_simp <;> with_reducible rfl)
          try simp only [pt]
          refine wpAnyH_ready (rs := [11]) (by kernel_rfl) (by simp) (AllReadyH.cons (o := ?ooa11) ?hia11 (fun K hK => ?hka11) AllReadyH.nil)
          rotate_left
          case hia11 => (simp only [List.getElem?_toArray, List.getElem?_cons_succ, List.getElem?_cons_zero]; rfl)
          (rw [if_pos (by rfl)]; go_simp; refine hK.out _ _ (kp2g (g_of ((Below.refl _ _).alloc (Nat.le_refl _) _) _) n0 n5 hHeld) (fun hHeld => ?_); clear hK K)
          try simp only [pt]
          refine wpAnyH_ready (rs := [12]) (by kernel_rfl) (by simp) (AllReadyH.cons (o := ?ooa12) ?hia12 (fun K hK => ?hka12) AllReadyH.nil)
          rotate_left
          case hia12 => (simp only [List.getElem?_toArray, List.getElem?_cons_succ, List.getElem?_cons_zero]; rfl)
          (rw [if_pos (by rfl)]; refine wp_append_any _ (.tmp 41) (.tmp 52) _ rfl w1.heap.size 110 i0 _ 2 16 Try.underlying39 hi0 hz0 hz1 hz2 rfl (by decide) _ _ _ rfl (World.ownsRow.alloc (own_drewT HO.out) _) (wr.heap.size + 1) (some ⟨wr.heap.size, 0, none⟩) 1 1 [.int .i64 x0, .int .i64 y] rfl ⟨by simp, fun _ => ⟨⟨wr.heap.size, 0, none⟩, rfl, Nat.lt_succ_self _, jxg wr.drew _ _⟩⟩ (valsTn_one [(x0, y)]) (by unfold maxLen; omega) (by omega) (by simp <;> omega) ?_; intro v3 w5 hown3 hgrow3 hat3; refine hK.out _ _ (kp2g hgrow3 n0 n5 hHeld) (fun hHeld => ?_); clear hK K)
          try simp only [pt]
          refine tk (i := 13) (v := ?v1a4) rfl ?c1a4 ?d_1a4
          case c1a4 => (refine .inl ⟨by rfl, ?_⟩; intro w h; (try dsimp only at h); go_simp <;> with_reducible rfl)
          try simp only [pt]
          refine wpAnyH_done (by kernel_rfl) ?_ _
          have HF : Hid (w5.ownsRow w1.heap.size 110 2 v3 (tfTo hs gs (k + 1)).length (jj6 (tfTo hs gs (k + 1))) ∧ (∀ i, i < hs.length → w5.cell? ⟨g2, o2 + i, none⟩ = some (.int .i64 (gs.getD i 0))) ∧ Below w.heap.size w w5 ∧ v3.ownBlock ≠ some g2) := by
            have hB := HRR.out.2.2.1; have hsz := hB.size; refine ⟨by rw [HN2.out, List.length_append, valsTn_append]; exact hown3, fun i hi => (World.cell?_of_block (hHeld.2.block _ (World.block_lt_of_cell? wr _ (HRR.out.2.1 i hi)) (fun e => n5 e.symm))).trans (HRR.out.2.1 i hi), hB.grown hHeld.2 hsz (fun q hq => by have := (HO.out.lt q hq).1; omega), ?_⟩
            rcases hat3 with e | e
            · rw [e]; exact n5
            · rw [e]; intro c; have c := Option.some.inj c; have hszr2 : g2 < wr.heap.size := hszr; simp at c; omega
          have hs5 : w1.heap.size < w5.heap.size := by have := hHeld.2.size; omega
          clear HO HRR hown3 hgrow3 hat3 hHeld n0 n5 c0 c1; go_wp2_with fail
          go_roundw
          case rel => exact ⟨k + 1, by omega, by go_num, HF.out, hs5⟩
          case measure => simp [intOf]; omega
        · have e3 : decide (0 < y) = false := decide_eq_false hy0
          have HN := Lib.hid (nn hy0); clear ny nn hy0
          have HF : Hid (wr.ownsRow w1.heap.size 110 2 u7 (tfTo hs gs (k + 1)).length (jj6 (tfTo hs gs (k + 1))) ∧ (∀ i, i < hs.length → wr.cell? ⟨g2, o2 + i, none⟩ = some (.int .i64 (gs.getD i 0))) ∧ Below w.heap.size w wr ∧ u7.ownBlock ≠ some g2) := by show _ ∧ _; rw [HN.out]; exact HR.out
          clear HR HN; go_wp2_with fail
          go_roundw
          case rel => exact ⟨k + 1, by omega, by go_num, HF.out, hsw⟩
          case measure => simp [intOf]; omega
      · obtain rfl : k = hs.length := by omega
        rcases Flat.own (zs := jx0 (tfTo hs gs hs.length)) HR.out.1 with ⟨_, hz⟩ | ⟨g, cp, rfl, lg, F, hcp⟩
        · have := HS.out; omega
        have HF := Lib.hid (And.intro F HR.out.2.2.1); clear HR F; go_wp2_with fail
        go_returns
        exact tt_yes rfl rfl (by omega) HF.out.1 hcp HF.out.2
theorem new_vl {o : Int} (h1 : 1 ≤ o) (h2 : o ≤ 999) : vlR [(o, 1, 1)] = true := by
 have h : VL [(o, (1 : Rat))] := by
  refine ⟨by simp, ?_, ?_, ?_, ?_, ?_, ?_⟩
  ·intro x hx; rw [List.mem_singleton] at hx; subst hx; exact ⟨h1, h2⟩
  ·intro x hx; rw [List.mem_singleton] at hx; subst hx; show frB 1 = true; decide
  ·intro x hx; rw [List.mem_singleton] at hx; subst hx; show (0 : Rat) < 1; decide
  ·exact List.pairwise_singleton _ _
  ·intro k hk
   have : k = 0 ∨ k = 1 := by simp at hk; omega
   rcases this with rfl | rfl
   ·show frB 0 = true; decide
   ·show frB ((1 : Rat) + 0) = true; rw [Rat.add_zero]; decide
  ·show (1 : Rat) + 0 = 1; exact Rat.add_zero _
 exact vlR_raw h
theorem new_vt {o : Int} (h1 : 1 ≤ o) (h2 : o ≤ 999) : vtB [(o, 24)] = true := by
 unfold vtB allT
 have : (List.range [((o, 24) : Tn)].length).all (okT [(o, 24)]) = true := by
  rw [jji]; intro j hj
  have : j = 0 := by simp at hj; omega
  subst this; exact (okT_iff _ _).2 ⟨h1, h2, (by show (1 : Int) ≤ 24; decide), (by show (24 : Int) ≤ 336; decide)⟩
 rw [this]; rfl
theorem new_ok {o r rt : Int} (h : (inB3 o 1 999 && (inB3 r 0 20000 && inB3 rt 0 500)) = true) : newT o r rt = ⟨[(o, 1, 1)], [(o, 24)], [(-1, 0, 0, 500, 0)], r, 0, [], rt, 0, 0, 0⟩ ∧ twB (newT o r rt) = true := by
 have e : newT o r rt = ⟨[(o, 1, 1)], [(o, 24)], [(-1, 0, 0, 500, 0)], r, 0, [], rt, 0, 0, 0⟩ := by unfold newT; rw [if_pos h]
 refine ⟨e, ?_⟩; simp only [Bool.and_eq_true] at h; obtain ⟨a1, a2, a3⟩ := h; obtain ⟨o1, o2⟩ := jxf a1; obtain ⟨r1, r2⟩ := jxf a2; rw [e]; unfold twB; dsimp only; rw [new_vl o1 o2, new_vt o1 o2, show vnB [(-1, 0, 0, 500, 0)] = true from by decide, vb_iff.2 ⟨r1, r2, by omega, r1⟩, show acB [] = true from rfl, a3]
 rfl
theorem sNewTown (o r rt : Int) (w : World) :
    Calls Try.prog 172 #[.int .i64 o, .int .i64 r, .int .i64 rt] w (OutTw w (newT o r rt)) := by
  obtain ⟨b1, e1⟩ : ∃ b, inB3 o 1 999 = b := ⟨_, rfl⟩
  obtain ⟨b2, e2⟩ : ∃ b, inB3 r 0 20000 = b := ⟨_, rfl⟩
  obtain ⟨b3, e3⟩ : ∃ b, inB3 rt 0 500 = b := ⟨_, rfl⟩
  have E1 := Lib.hid e1; have E2 := Lib.hid e2; have E3 := Lib.hid e3
  obtain ⟨R, hR⟩ : ∃ R, newT o r rt = R := ⟨_, rfl⟩
  rw [hR]; unfold newT at hR; rw [e1, e2, e3] at hR; have HR := Lib.hid hR; clear e1 e2 e3 hR; have B : Below w.heap.size w (w.alloc (.cells #[.slice none 0 0, .slice none 0 0, .slice none 0 0, .int .i64 0, .int .i64 0, .slice none 0 0, .int .i64 0, .int .i64 0, .int .i64 0, .int .i64 0] 49)) := (Below.refl _ w).alloc (Nat.le_refl _) _; have K := Blk.new w 49 #[.slice none 0 0, .slice none 0 0, .slice none 0 0, .int .i64 0, .int .i64 0, .slice none 0 0, .int .i64 0, .int .i64 0, .int .i64 0, .int .i64 0]; go_enter Try.func172, Try.ntmps172; go_wp2_with fail; refine (srange3 o 1 999 _).mono ?_; rintro e u ⟨rfl, rfl⟩; rw [E1.out]
  cases b1 with
  | false =>
    go_wp2_with fail; obtain ⟨q0, q1, q2, q3, q4, q5, q6, q7, q8, q9⟩ := jq0 K; refine bodyPost_ret (v := twV TA.zero Tw.zero) (by simp [results, Try.results172, go_sem, q0, q1, q2, q3, q4, q5, q6, q7, q8, q9, twV, TA.zero, Tw.zero]) rfl ⟨TA.zero, by rw [← HR.out]; rfl, by rw [← HR.out]; exact TwO.zero _ _, B⟩
  | true =>
    go_wp2_with fail; refine (srange3 r 0 20000 _).mono ?_; rintro e u ⟨rfl, rfl⟩; rw [E2.out]
    cases b2 with
    | false =>
      go_wp2_with fail; obtain ⟨q0, q1, q2, q3, q4, q5, q6, q7, q8, q9⟩ := jq0 K; refine bodyPost_ret (v := twV TA.zero Tw.zero) (by simp [results, Try.results172, go_sem, q0, q1, q2, q3, q4, q5, q6, q7, q8, q9, twV, TA.zero, Tw.zero]) rfl ⟨TA.zero, by rw [← HR.out]; rfl, by rw [← HR.out]; exact TwO.zero _ _, B⟩
    | true =>
      go_wp2_with fail; refine (srange3 rt 0 500 _).mono ?_; rintro e u ⟨rfl, rfl⟩; rw [E3.out]
      cases b3 with
      | false =>
        go_wp2_with fail; obtain ⟨q0, q1, q2, q3, q4, q5, q6, q7, q8, q9⟩ := jq0 K; refine bodyPost_ret (v := twV TA.zero Tw.zero) (by simp [results, Try.results172, go_sem, q0, q1, q2, q3, q4, q5, q6, q7, q8, q9, twV, TA.zero, Tw.zero]) rfl ⟨TA.zero, by rw [← HR.out]; rfl, by rw [← HR.out]; exact TwO.zero _ _, B⟩
      | true =>
        go_wp2_with fail; have K1 := Blk.new w 49 #[.slice (some ⟨w.heap.size + 1, 0, none⟩) 1 1, .slice (some ⟨w.heap.size + 1 + 1, 0, none⟩) 1 1, .slice (some ⟨w.heap.size + 1 + 1 + 1, 0, none⟩) 1 1, .int .i64 r, .int .i64 0, .slice none 0 0, .int .i64 rt, .int .i64 0, .int .i64 0, .int .i64 0]; have B1 : Below w.heap.size w (w.alloc (.cells #[.slice (some ⟨w.heap.size + 1, 0, none⟩) 1 1, .slice (some ⟨w.heap.size + 1 + 1, 0, none⟩) 1 1, .slice (some ⟨w.heap.size + 1 + 1 + 1, 0, none⟩) 1 1, .int .i64 r, .int .i64 0, .slice none 0 0, .int .i64 rt, .int .i64 0, .int .i64 0, .int .i64 0] 49)) := (Below.refl _ w).alloc (Nat.le_refl _) _
        have z1 : (w.alloc (.cells #[.slice (some ⟨w.heap.size + 1, 0, none⟩) 1 1, .slice (some ⟨w.heap.size + 1 + 1, 0, none⟩) 1 1, .slice (some ⟨w.heap.size + 1 + 1 + 1, 0, none⟩) 1 1, .int .i64 r, .int .i64 0, .slice none 0 0, .int .i64 rt, .int .i64 0, .int .i64 0, .int .i64 0] 49)).heap.size = w.heap.size + 1 := by simp
        generalize w.alloc (.cells #[.slice (some ⟨w.heap.size + 1, 0, none⟩) 1 1, .slice (some ⟨w.heap.size + 1 + 1, 0, none⟩) 1 1, .slice (some ⟨w.heap.size + 1 + 1 + 1, 0, none⟩) 1 1, .int .i64 r, .int .i64 0, .slice none 0 0, .int .i64 rt, .int .i64 0, .int .i64 0, .int .i64 0] 49) = W1 at K1 B1 z1 ⊢; have F1 : Flat (W1.alloc (.cells #[.int .i64 o, .int .i64 1, .int .i64 1] 91)) W1.heap.size 91 [o, 1, 1] := flatN_new W1 _ [o, 1, 1]; rw [z1] at F1; have K2 := K1.alloc (.cells #[.int .i64 o, .int .i64 1, .int .i64 1] 91); have B2 := B1.alloc B1.size (.cells #[.int .i64 o, .int .i64 1, .int .i64 1] 91)
        have z2 : (W1.alloc (.cells #[.int .i64 o, .int .i64 1, .int .i64 1] 91)).heap.size = w.heap.size + 1 + 1 := by simp [z1]
        generalize W1.alloc (.cells #[.int .i64 o, .int .i64 1, .int .i64 1] 91) = W2 at F1 K2 B2 z2 ⊢; have F2 : Flat (W2.alloc (.cells #[.int .i64 o, .int .i64 24] 110)) W2.heap.size 110 [o, 24] := flatN_new W2 _ [o, 24]; rw [z2] at F2; have F1b := flat_alloc F1 (.cells #[.int .i64 o, .int .i64 24] 110); have K3 := K2.alloc (.cells #[.int .i64 o, .int .i64 24] 110); have B3 := B2.alloc B2.size (.cells #[.int .i64 o, .int .i64 24] 110)
        have z3 : (W2.alloc (.cells #[.int .i64 o, .int .i64 24] 110)).heap.size = w.heap.size + 1 + 1 + 1 := by simp [z2]
        generalize W2.alloc (.cells #[.int .i64 o, .int .i64 24] 110) = W3 at F1b F2 K3 B3 z3 ⊢; have F3 : Flat (W3.alloc (.cells #[.int .i64 (-1), .int .i64 0, .int .i64 0, .int .i64 500, .int .i64 0] 149)) W3.heap.size 149 [-1, 0, 0, 500, 0] := flatN_new W3 _ [-1, 0, 0, 500, 0]; rw [z3] at F3; have F1c := flat_alloc F1b (.cells #[.int .i64 (-1), .int .i64 0, .int .i64 0, .int .i64 500, .int .i64 0] 149); have F2c := flat_alloc F2 (.cells #[.int .i64 (-1), .int .i64 0, .int .i64 0, .int .i64 500, .int .i64 0] 149); have K4 := K3.alloc (.cells #[.int .i64 (-1), .int .i64 0, .int .i64 0, .int .i64 500, .int .i64 0] 149); have B4 := B3.alloc B3.size (.cells #[.int .i64 (-1), .int .i64 0, .int .i64 0, .int .i64 500, .int .i64 0] 149); generalize W3.alloc (.cells #[.int .i64 (-1), .int .i64 0, .int .i64 0, .int .i64 500, .int .i64 0] 149) = W4 at F1c F2c F3 K4 B4 ⊢; obtain ⟨q0, q1, q2, q3, q4, q5, q6, q7, q8, q9⟩ := jq0 K4; have HT : (⟨[(o, 1, 1)], [(o, 24)], [(-1, 0, 0, 500, 0)], r, 0, [], rt, 0, 0, 0⟩ : Tw) = R := HR.out; refine bodyPost_ret (v := twV ⟨some ⟨w.heap.size + 1, 0, none⟩, 1, some ⟨w.heap.size + 1 + 1, 0, none⟩, 1, some ⟨w.heap.size + 1 + 1 + 1, 0, none⟩, 1, none, 0⟩ R) (by rw [← HT]; simp [results, Try.results172, go_sem, q0, q1, q2, q3, q4, q5, q6, q7, q8, q9, twV]) rfl ⟨_, rfl, ?_, B4⟩
        rw [← HT]; exact ⟨.inr ⟨_, _, rfl, by omega, F1c, Nat.le_refl _⟩, by simp, .inr ⟨_, _, rfl, by omega, F2c, Nat.le_refl _⟩, by simp, .inr ⟨_, _, rfl, by omega, F3, Nat.le_refl _⟩, by simp, .inl ⟨rfl, rfl⟩, by simp⟩
end Go.Proofs.Ytaehemmjemhgpaa
