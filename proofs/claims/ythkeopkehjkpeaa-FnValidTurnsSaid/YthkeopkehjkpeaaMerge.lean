/- Turns that are merged, by the program and by the model. Condition: at most 1048576 turns. -/
import Derived.Test.YthkeopkehjkpeaaSwap
import Derived.BigRegion
import Derived.Deep.RegionHeld3
import Derived.Deep.DeepCutAuto
import Derived.Maps.AppendAt
namespace Go.Proofs.Ythkeopkehjkpeaa
open Go.RowKit
set_option linter.unusedSimpArgs false
set_option linter.unusedVariables false

/-- turns with one more, merged with the last one or behind it -/
def mrg1 (out : List Tn) (x : Tn) (c : Bool) : List Tn := if c = true then out.set (out.length - 1) ((out.getD (out.length - 1) tn0).1, (out.getD (out.length - 1) tn0).2 + x.2) else out ++ [x]
def prevT (ts : List Tn) (k : Nat) : Bool := decide (0 < k) && decide ((ts.getD (k - 1) tn0).1 = (ts.getD k tn0).1)
def mrgT (ts : List Tn) : Nat → List Tn
  | 0 => []
  | k + 1 => mrg1 (mrgT ts k) (ts.getD k tn0) (prevT ts k)
theorem getD_set_tn {l : List Tn} {i j : Nat} {z : Tn} (hi : i < l.length) : (l.set i z).getD j tn0 = if j = i then z else l.getD j tn0 := by
  rw [List.getD_eq_getElem?_getD, List.getD_eq_getElem?_getD, List.getElem?_set]
  by_cases e : i = j
  · subst e; rw [if_pos rfl, if_pos hi, if_pos rfl]; rfl
  · rw [if_neg e, if_neg (fun c => e c.symm)]
theorem getD_snoc {l : List Tn} {x : Tn} {j : Nat} : (l ++ [x]).getD j tn0 = if j = l.length then x else l.getD j tn0 := by
  rw [List.getD_eq_getElem?_getD, List.getD_eq_getElem?_getD]
  by_cases e : j = l.length
  · subst e; rw [if_pos rfl, List.getElem?_append_right (Nat.le_refl _)]; simp
  · rw [if_neg e]
    by_cases h : j < l.length
    · rw [List.getElem?_append_left h]
    · rw [List.getElem?_eq_none (by rw [List.length_append]; simp; omega), List.getElem?_eq_none (by omega)]
structure MrgIs (ts : List Tn) (k : Nat) : Prop where
  some : 0 < k → 0 < (mrgT ts k).length
  last : 0 < k → ((mrgT ts k).getD ((mrgT ts k).length - 1) tn0).1 = (ts.getD (k - 1) tn0).1
  len : (mrgT ts k).length ≤ k
  bd : ∀ j, j < (mrgT ts k).length → 0 ≤ ((mrgT ts k).getD j tn0).2 ∧ ((mrgT ts k).getD j tn0).2 ≤ 336 * (k : Int)
theorem mrg_is {ts : List Tn} (ho : ∀ j, j < ts.length → okT ts j = true) : ∀ k, k ≤ ts.length → MrgIs ts k := by
  intro k
  induction k with
  | zero => intro _; exact ⟨fun h => absurd h (by omega), fun h => absurd h (by omega), Nat.le_refl _, fun j h => absurd h (by show ¬ j < 0; omega)⟩
  | succ k ih =>
    intro hk
    have I := ih (by omega)
    have ok := (okT_iff ts k).1 (ho k (by omega))
    have e : mrgT ts (k + 1) = mrg1 (mrgT ts k) (ts.getD k tn0) (prevT ts k) := rfl
    cases hp : prevT ts k with
    | true =>
      have hp2 := hp
      unfold prevT at hp2
      simp only [Bool.and_eq_true, decide_eq_true_eq] at hp2
      have hs := I.some hp2.1
      rw [hp] at e
      have e2 : mrgT ts (k + 1) = (mrgT ts k).set ((mrgT ts k).length - 1) (((mrgT ts k).getD ((mrgT ts k).length - 1) tn0).1, ((mrgT ts k).getD ((mrgT ts k).length - 1) tn0).2 + (ts.getD k tn0).2) := e
      have hl : (mrgT ts (k + 1)).length = (mrgT ts k).length := by rw [e2, List.length_set]
      refine ⟨fun _ => by omega, fun _ => ?_, by have := I.len; omega, fun j hj => ?_⟩
      · rw [hl, e2, getD_set_tn (by omega), if_pos rfl]
        show ((mrgT ts k).getD ((mrgT ts k).length - 1) tn0).1 = _
        rw [I.last hp2.1, hp2.2]; rfl
      · rw [hl] at hj
        have b := I.bd j hj
        have b2 := I.bd ((mrgT ts k).length - 1) (by omega)
        rw [e2, getD_set_tn (by omega)]
        split
        · show 0 ≤ _ + _ ∧ _ + _ ≤ _
          omega
        · omega
    | false =>
      rw [hp] at e
      have e2 : mrgT ts (k + 1) = mrgT ts k ++ [ts.getD k tn0] := e
      have hl : (mrgT ts (k + 1)).length = (mrgT ts k).length + 1 := by rw [e2, List.length_append]; rfl
      refine ⟨fun _ => by omega, fun _ => ?_, by have := I.len; omega, fun j hj => ?_⟩
      · rw [hl, e2, getD_snoc, if_pos (by omega)]; rfl
      · rw [e2, getD_snoc]
        split
        · omega
        · have b := I.bd j (by omega)
          omega
theorem valsTn_set2 : ∀ (ts : List Tn) (k : Nat) (z : Int), k < ts.length → (valsTn ts).set (k * 2 + 1) (.int .i64 z) = valsTn (ts.set k ((ts.getD k tn0).1, z)) := by
  intro ts k z hk
  have h := flatTn_set ts k ((ts.getD k tn0).1, z) hk
  have e : (flatTn ts).set (k * 2) (ts.getD k tn0).1 = flatTn ts := by
    rw [← (flatTn_get ts k hk).1]
    apply List.ext_getElem?
    intro i
    rw [List.getElem?_set]
    by_cases c : k * 2 = i
    · subst c
      have hl := flatTn_len ts
      rw [if_pos rfl, if_pos (by omega), List.getD_eq_getElem?_getD, List.getElem?_eq_getElem (by omega)]; rfl
    · rw [if_neg c]
  dsimp only at h
  rw [e] at h
  unfold valsTn
  rw [← h, List.map_set]
theorem wrap_small {z : Int} (h : -2000000000 ≤ z ∧ z ≤ 2000000000) : IntKind.i64.wrap z = z := by rw [IntKind.wrap_i64]; omega
theorem mrg_some {out : List Tn} {x : Tn} {q : Nat} (hq : out.length = q + 1) : mrg1 out x true = out.set q ((out.getD q tn0).1, (out.getD q tn0).2 + x.2) := by
  unfold mrg1; rw [if_pos rfl, hq]; rfl
theorem mrg_none (out : List Tn) (x : Tn) : mrg1 out x false = out ++ [x] := rfl

set_option maxRecDepth 100000 in
set_option maxHeartbeats 4000000 in
theorem iMerge (a : Option Addr) (cap : Nat) (ts : List Tn) (w : World) (h : IsTn w a ts) (hn : ts.length ≤ 1048576) (hc : ts.length ≤ cap) :
    Calls Try.prog 44 #[.slice a ts.length cap] w (OutTn w (vtB ts) (mrgT ts ts.length)) := by
  have VT := iVT a cap ts w h hn
  have H := Lib.hid h
  cases hv : vtB ts with
  | false =>
    rw [hv] at VT
    clear hv h
    go_enter Try.func44, Try.ntmps44
    go_wp2_with fail
    refine VT.mono ?_
    rintro e w1 ⟨rfl, C⟩
    go_wp2_with fail
    go_ret
    exact out_no rfl C
  | true =>
    rw [hv] at VT
    obtain ⟨l1, l24, ho, _, _⟩ := vt_is hv
    have HM := Lib.hid (mrg_is ho)
    have HO := Lib.hid ho
    obtain ⟨i0, hi0, hz0, hz1, hz2⟩ := info_parts infoTn
    rcases h with rfl | ⟨g0, o, rfl, hcl⟩
    · simp at l1
    have HC := Lib.hid hcl
    clear hv hcl ho
    go_enter Try.func44, Try.ntmps44
    go_wp2_with fail
    refine VT.mono ?_
    rintro e w1 ⟨rfl, C⟩
    have hO : (w1.alloc (.cells #[] 31)).ownsRow w1.heap.size 31 2 (.slice (some ⟨w1.heap.size, 0, none⟩) 0 0) 0 [] := ⟨by simp, .inr ⟨w1.heap.size, 0, #[], rfl, Nat.le_refl _, Go.Deep.blk_alloc_new _ _, Nat.le_refl _, by unfold maxLen; omega, rfl, rfl⟩⟩
    have HOw := Lib.hid hO
    have hS := C.size
    have HB := Lib.hid (C.alloc C.size (.cells #[] 31))
    clear C hO VT
    go_wp2_with fail
    go_loopw [3, 13] (fun v i wr => ∃ k : Nat, k ≤ ts.length ∧ i = .int .i64 k ∧ wr.ownsRow w1.heap.size 31 2 v (mrgT ts k).length (valsTn (mrgT ts k)) ∧ Below w.heap.size w wr ∧ w1.heap.size < wr.heap.size) (fun _ i _ => ts.length - (intOf i).toNat)
    case atStart => exact ⟨0, Nat.zero_le _, rfl, HOw.out, HB.out, by simp⟩
    case round =>
      obtain ⟨k, hk, rfl, hown, hB, hlt1⟩ := hrel
      by_cases hlt : k < ts.length
      · have I := HM.out k hk
        obtain ⟨c0, c1⟩ := tn_at HC.out hB hlt
        have ok := (okT_iff ts k).1 (HO.out k hlt)
        obtain ⟨out, hout⟩ : ∃ out, mrgT ts k = out := ⟨_, rfl⟩
        have hnext : Hid (mrgT ts (k + 1) = mrg1 out (ts.getD k tn0) (prevT ts k)) := by show _ = _; rw [← hout]; rfl
        have i2 := I.len
        rw [hout] at hown i2
        cases hp : prevT ts k with
        | true =>
          have hp2 := hp
          unfold prevT at hp2
          simp only [Bool.and_eq_true, decide_eq_true_eq] at hp2
          obtain ⟨m, hm⟩ : ∃ m, k - 1 = m := ⟨_, rfl⟩
          have hkm : k = m + 1 := by omega
          obtain ⟨d0, d1⟩ := tn_at HC.out hB (k := m) (by omega)
          rw [hm] at hp2
          rw [hp2.2] at d0
          have is := I.some hp2.1
          have ib := I.bd
          rw [hout] at is ib
          obtain ⟨q, hq⟩ : ∃ q, out.length = q + 1 := ⟨out.length - 1, by omega⟩
          obtain ⟨n, hnn⟩ : ∃ n, out.length = n := ⟨_, rfl⟩
          rw [hnn] at hown i2
          obtain ⟨g, cp, rfl, lg, ltg⟩ := hown.form (by omega)
          have hc2 := hown.cellAt (q * 2 + 1) (by omega)
          rw [(valsTn_get (xs := out) (k := q) (by omega)).2] at hc2
          have hf2 := hown.frozenAt (q * 2 + 1)
          have hb2 := ib q (by omega)
          rw [hp] at hnext
          rw [mrg_some hq] at hnext
          have hst := fun z : Int => (hown.alloc (.cells #[.int .i64 (ts.getD k tn0).1, .int .i64 (ts.getD k tn0).2] 31)).stored (q * 2 + 1) (.int .i64 z)
          have hst2 : ∀ z : Int, _ := fun z => (hst z).1
          simp only [valsTn_set2 out q _ (by omega)] at hst2
          generalize out.getD q tn0 = y at *
          generalize ts.getD k tn0 = x at *
          obtain ⟨y0, y1⟩ := y
          obtain ⟨x0, x1⟩ := x
          dsimp only at *
          have hst3 := hst2 (y1 + x1)
          have HS := Lib.hid hst3
          have HBl := Lib.hid hB
          have HP := Lib.hid hp2
          have e1 : IntKind.i64.wrap ((n : Int) - 1) = (q : Int) := (wrap_small (by omega)).trans (by omega)
          have e2 : IntKind.i64.wrap ((k : Int) - 1) = (m : Int) := (wrap_small (by omega)).trans (by omega)
          have g1 : (0 : Int) < (k : Int) := by omega
          have gk : decide (0 < k) = true := decide_eq_true (by omega)
          have g2 : (0 : Int) ≤ (m : Int) := by omega
          have g3 : (m : Int) < (ts.length : Int) := by omega
          have g4 : (0 : Int) ≤ (q : Int) := by omega
          have g5 : (q : Int) < (n : Int) := by omega
          have g6 : IntKind.i64.wrap (y1 + x1) = y1 + x1 := wrap_small (by omega)
          have HKM := Lib.hid hkm
          have HNN := Lib.hid (And.intro hq hnn)
          clear hkm hm hq hnn is ib hst hst2 hst3 hB I hown hp hp2 hout
          obtain ⟨Wa, hWa⟩ : ∃ Wa, wr.alloc (.cells #[.int .i64 x0, .int .i64 x1] 31) = Wa := ⟨_, rfl⟩
          have K0 : Blk Wa wr.heap.size 31 #[.int .i64 x0, .int .i64 x1] := by rw [← hWa]; exact Blk.new _ _ _
          have kb0 := K0.cell 0
          have kb1 := K0.cell 1
          dsimp at kb0 kb1
          have Ba : Below wr.heap.size wr Wa := by rw [← hWa]; exact (Below.refl _ _).alloc (Nat.le_refl _) _
          have d0a := (Ba.cell (p := ⟨g0, o + m * 2, none⟩) (World.block_lt_of_cell? wr _ d0)).trans d0
          have hc2a := (Ba.cell (p := ⟨g, q * 2 + 1, none⟩) ltg).trans hc2
          have hf2a := (Ba.frozen (p := ⟨g, q * 2 + 1, none⟩) ltg).trans hf2
          have hsza := Ba.size
          have HBa : Hid (Below w.heap.size w (Wa.setCell ⟨g, q * 2 + 1, none⟩ (.int .i64 (y1 + x1)))) := (by rw [← hWa]; exact HBl.out.alloc HBl.out.size _ : Below w.heap.size w Wa).setCell (by show w.heap.size ≤ g; omega) _
          rw [hWa] at HS
          clear d0 d1 hc2 hf2 K0 HBl Ba
          have HN2 := hnext
          go_wp2_with fail
          clear hWa c0 c1
          go_quiet (fail)
          go_wp2_with fail
          go_region
          have HSn : Hid (((Wa.drewN (nq + 1)).setCell ⟨g, q * 2 + 1, none⟩ (.int .i64 (y1 + x1))).ownsRow w1.heap.size 31 2 (.slice (some ⟨g, 0, none⟩) n cp) n (valsTn (out.set q (y0, y1 + x1)))) := HS.out
          have HBn : Hid (Below w.heap.size w ((Wa.drewN (nq + 1)).setCell ⟨g, q * 2 + 1, none⟩ (.int .i64 (y1 + x1)))) := below_drewN HBa.out (nq + 1)
          have hszn : w1.heap.size < ((Wa.drewN (nq + 1)).setCell ⟨g, q * 2 + 1, none⟩ (.int .i64 (y1 + x1))).heap.size := by
            have e : ((Wa.drewN (nq + 1)).setCell ⟨g, q * 2 + 1, none⟩ (.int .i64 (y1 + x1))).heap.size = Wa.heap.size := by simp [World.setCell, World.drewN]
            omega
          generalize (Wa.drewN (nq + 1)).setCell ⟨g, q * 2 + 1, none⟩ (.int .i64 (y1 + x1)) = Wn at *
          go_wp2_with fail
          go_roundw
          case rel =>
            refine ⟨k + 1, by omega, by go_num, ?_, HBn.out, hszn⟩
            rw [hnext.out, List.length_set, HNN.out.2]
            exact HSn.out
          case measure => simp [intOf]; omega
        | false =>
          rw [hp, mrg_none] at hnext
          have hnp : k = 0 ∨ (0 < k ∧ (ts.getD (k - 1) tn0).1 ≠ (ts.getD k tn0).1) := by
            by_cases hk0 : k = 0
            · exact .inl hk0
            · refine .inr ⟨by omega, fun c => ?_⟩
              unfold prevT at hp
              rw [decide_eq_true (by omega : 0 < k), decide_eq_true c] at hp
              cases hp
          have hpv : 0 < k → ∃ d0 : Int, (ts.getD (k - 1) tn0).1 = d0 ∧ wr.cell? ⟨g0, o + (k - 1) * 2, none⟩ = some (.int .i64 d0) := fun _ => ⟨_, rfl, (tn_at HC.out hB (k := k - 1) (by omega)).1⟩
          generalize ts.getD k tn0 = x at *
          obtain ⟨x0, x1⟩ := x
          dsimp only at *
          have HOn := Lib.hid hown
          have HBl := Lib.hid hB
          clear I hown hp hout hB
          obtain ⟨Wa, hWa⟩ : ∃ Wa, wr.alloc (.cells #[.int .i64 x0, .int .i64 x1] 31) = Wa := ⟨_, rfl⟩
          have K0 : Blk Wa wr.heap.size 31 #[.int .i64 x0, .int .i64 x1] := by rw [← hWa]; exact Blk.new _ _ _
          have kb0 := K0.cell 0
          have kb1 := K0.cell 1
          dsimp at kb0 kb1
          have HOa : Hid (Wa.ownsRow w1.heap.size 31 2 u3 out.length (valsTn out)) := by rw [← hWa]; exact HOn.out.alloc _
          have HBa : Hid (Below w.heap.size w Wa) := by rw [← hWa]; exact HBl.out.alloc HBl.out.size _
          have hsza : w1.heap.size < Wa.heap.size := by rw [← hWa]; simp; omega
          have hpa : 0 < k → ∃ d0 : Int, (ts.getD (k - 1) tn0).1 = d0 ∧ Wa.cell? ⟨g0, o + (k - 1) * 2, none⟩ = some (.int .i64 d0) := fun h => by
            obtain ⟨d, e, c⟩ := hpv h
            exact ⟨d, e, by rw [← hWa]; exact (((Below.refl wr.heap.size wr).alloc (Nat.le_refl _) _).cell (p := ⟨g0, o + (k - 1) * 2, none⟩) (World.block_lt_of_cell? wr _ c)).trans c⟩
          clear HOn HBl K0 hpv
          rcases hnp with rfl | hne
          · clear hpa
            simp only [Nat.zero_mul, Nat.add_zero, Nat.zero_add] at c0 c1
            go_wp2_with fail
            clear hWa c0 c1
            go_quiet (fail)
            have HOb : Hid ((Wa.drewN nq).ownsRow w1.heap.size 31 2 u3 out.length (valsTn out)) := HOa.out
            have kb0b : (Wa.drewN nq).cell? ⟨wr.heap.size, 0, none⟩ = some (.int .i64 x0) := kb0
            have kb1b : (Wa.drewN nq).cell? ⟨wr.heap.size, 1, none⟩ = some (.int .i64 x1) := kb1
            have HBb : Hid (Below w.heap.size w (Wa.drewN nq)) := below_drewN HBa.out nq
            have hszb : w1.heap.size < (Wa.drewN nq).heap.size := by show w1.heap.size < Wa.heap.size; omega
            generalize Wa.drewN nq = Wb at *
            clear kb0 kb1 HOa HBa
            go_wp2_with (first | (at_builtin; refine wpList_append_own _ rfl (.tmp 46) (.tmp 48) _ rfl w1.heap.size 31 i0 _ 2 16 Try.underlying23 hi0 hz0 hz1 hz2 rfl (by decide) _ _ _ rfl (HOb.out.alloc _) ⟨Wb.heap.size, 0, none⟩ 1 1 [.int .i64 x0, .int .i64 x1] rfl rfl (new_cells Wb _ _) (valsTn_one [(x0, x1)]) (by unfold maxLen; omega) (by omega) (by simp; omega) ?_; intro v2 w2 hown2 hg2 hnil2))
            go_roundw
            case rel =>
              have hb2 : Below w.heap.size w w2 := (HBb.out.alloc HBb.out.size _).grown hg2 (by have := HBb.out.size; simp; omega) (fun q hq => by have := (HOb.out.lt q hq).1; omega)
              refine ⟨0 + 1, by omega, by go_num, ?_, hb2, by have := hg2.size; simp at this; omega⟩
              rw [hnext.out, List.length_append, valsTn_append]
              exact hown2
            case measure => simp [intOf]; omega
          · obtain ⟨hk0, hne⟩ := hne
            obtain ⟨d, hd, hcd⟩ := hpa hk0
            rw [hd] at hne
            obtain ⟨m, hm⟩ : ∃ m, k - 1 = m := ⟨_, rfl⟩
            rw [hm] at hcd
            have e2 : IntKind.i64.wrap ((k : Int) - 1) = (m : Int) := (wrap_small (by omega)).trans (by omega)
            have gk : decide (0 < k) = true := decide_eq_true hk0
            have g2 : (0 : Int) ≤ (m : Int) := by omega
            have g3 : (m : Int) < (ts.length : Int) := by omega
            have e3 : (d == x0) = false := by simpa using hne
            clear hpa hd hm hne
            go_wp2_with fail
            clear hWa c0 c1
            go_quiet (fail)
            have HOb : Hid ((Wa.drewN nq).ownsRow w1.heap.size 31 2 u3 out.length (valsTn out)) := HOa.out
            have kb0b : (Wa.drewN nq).cell? ⟨wr.heap.size, 0, none⟩ = some (.int .i64 x0) := kb0
            have kb1b : (Wa.drewN nq).cell? ⟨wr.heap.size, 1, none⟩ = some (.int .i64 x1) := kb1
            have HBb : Hid (Below w.heap.size w (Wa.drewN nq)) := below_drewN HBa.out nq
            have hszb : w1.heap.size < (Wa.drewN nq).heap.size := by show w1.heap.size < Wa.heap.size; omega
            generalize Wa.drewN nq = Wb at *
            clear kb0 kb1 HOa HBa
            go_wp2_with (first | (at_builtin; refine wpList_append_own _ rfl (.tmp 46) (.tmp 48) _ rfl w1.heap.size 31 i0 _ 2 16 Try.underlying23 hi0 hz0 hz1 hz2 rfl (by decide) _ _ _ rfl (HOb.out.alloc _) ⟨Wb.heap.size, 0, none⟩ 1 1 [.int .i64 x0, .int .i64 x1] rfl rfl (new_cells Wb _ _) (valsTn_one [(x0, x1)]) (by unfold maxLen; omega) (by omega) (by simp; omega) ?_; intro v2 w2 hown2 hg2 hnil2))
            go_roundw
            case rel =>
              have hb2 : Below w.heap.size w w2 := (HBb.out.alloc HBb.out.size _).grown hg2 (by have := HBb.out.size; simp; omega) (fun q hq => by have := (HOb.out.lt q hq).1; omega)
              refine ⟨k + 1, by omega, by go_num, ?_, hb2, by have := hg2.size; simp at this; omega⟩
              rw [hnext.out, List.length_append, valsTn_append]
              exact hown2
            case measure => simp [intOf]; omega
      · obtain rfl : k = ts.length := by omega
        have HR := Lib.hid hown
        have HBl := Lib.hid hB
        clear hown hB
        go_wp2_with fail
        go_ret
        have I := HM.out ts.length (Nat.le_refl _)
        have ho := HR.out
        rcases Flat.own (zs := flatTn (mrgT ts ts.length)) ho with ⟨_, hz⟩ | ⟨g, cp, hv, lg, F, hcp⟩
        · have := I.some (by omega); omega
        · rw [hv]
          exact out_yes rfl rfl (by omega) F hcp HBl.out

set_option maxRecDepth 100000 in
set_option maxHeartbeats 4000000 in
theorem sMerge (a : Option Addr) (cap : Nat) (ts : List Tn) (w : World) (h : IsTn w a ts) (hn : ts.length ≤ 1048576) (hc : ts.length ≤ cap) :
    Calls Try.prog 45 #[.slice a ts.length cap] w (OutTn w (vtB ts) (mrgT ts ts.length)) := by
  have VT := svt a cap ts w h hn
  have H := Lib.hid h
  cases hv : vtB ts with
  | false =>
    rw [hv] at VT
    clear hv h
    go_enter Try.func45, Try.ntmps45
    go_wp2_with fail
    refine VT.mono ?_
    rintro e w' ⟨rfl, rfl⟩
    go_wp2_with fail
    go_ret
    exact out_no rfl (by go_grown)
  | true =>
    rw [hv] at VT
    obtain ⟨l1, l24, ho, _, _⟩ := vt_is hv
    have HM := Lib.hid (mrg_is ho)
    have HO := Lib.hid ho
    obtain ⟨i0, hi0, hz0, hz1, hz2⟩ := info_parts infoTn
    rcases h with rfl | ⟨g0, o, rfl, hcl⟩
    · simp at l1
    have HC := Lib.hid hcl
    clear hv hcl ho
    go_enter Try.func45, Try.ntmps45
    go_wp2_with fail
    refine VT.mono ?_
    rintro e w' ⟨rfl, rfl⟩
    have hO : (w.alloc (.cells #[] 31)).ownsRow w.heap.size 31 2 (.slice (some ⟨w.heap.size, 0, none⟩) 0 0) 0 [] := ⟨by simp, .inr ⟨w.heap.size, 0, #[], rfl, Nat.le_refl _, Go.Deep.blk_alloc_new _ _, Nat.le_refl _, by unfold maxLen; omega, rfl, rfl⟩⟩
    have HOw := Lib.hid hO
    have HB := Lib.hid ((Below.refl w.heap.size w).alloc (Nat.le_refl _) (.cells #[] 31))
    clear hO VT
    go_wp2_with fail
    go_loopw [3, 4] (fun v i wr => ∃ k : Nat, k ≤ ts.length ∧ i = .int .i64 k ∧ wr.ownsRow w.heap.size 31 2 v (mrgT ts k).length (valsTn (mrgT ts k)) ∧ Below w.heap.size w wr ∧ w.heap.size < wr.heap.size) (fun _ i _ => ts.length - (intOf i).toNat)
    case atStart => exact ⟨0, Nat.zero_le _, rfl, HOw.out, HB.out, by simp⟩
    case round =>
      obtain ⟨k, hk, rfl, hown, hB, hlt1⟩ := hrel
      by_cases hlt : k < ts.length
      · have I := HM.out k hk
        obtain ⟨c0, c1⟩ := tn_at HC.out hB hlt
        have ok := (okT_iff ts k).1 (HO.out k hlt)
        obtain ⟨out, hout⟩ : ∃ out, mrgT ts k = out := ⟨_, rfl⟩
        have hnext : Hid (mrgT ts (k + 1) = mrg1 out (ts.getD k tn0) (prevT ts k)) := by show _ = _; rw [← hout]; rfl
        have i2 := I.len
        have ilast := I.last
        have isome := I.some
        have ib := I.bd
        rw [hout] at hown i2 ilast isome ib
        cases hp : prevT ts k with
        | true =>
          have hp2 := hp
          unfold prevT at hp2
          simp only [Bool.and_eq_true, decide_eq_true_eq] at hp2
          have is := isome hp2.1
          have hl := ilast hp2.1
          rw [hp2.2] at hl
          obtain ⟨q, hq⟩ : ∃ q, out.length = q + 1 := ⟨out.length - 1, by omega⟩
          rw [show out.length - 1 = q from by omega] at hl
          obtain ⟨n, hnn⟩ : ∃ n, out.length = n := ⟨_, rfl⟩
          rw [hnn] at hown i2
          obtain ⟨g, cp, rfl, lg, ltg⟩ := hown.form (by omega)
          have hc1 := hown.cellAt (q * 2) (by omega)
          rw [(valsTn_get (xs := out) (k := q) (by omega)).1, hl] at hc1
          have hc2 := hown.cellAt (q * 2 + 1) (by omega)
          rw [(valsTn_get (xs := out) (k := q) (by omega)).2] at hc2
          have hf2 := hown.frozenAt (q * 2 + 1)
          have hb2 := ib q (by omega)
          rw [hp] at hnext
          rw [mrg_some hq] at hnext
          have hst := fun z : Int => hown.stored (q * 2 + 1) (.int .i64 z)
          have hst2 : ∀ z : Int, _ := fun z => (hst z).1
          simp only [valsTn_set2 out q _ (by omega)] at hst2
          generalize out.getD q tn0 = y at *
          generalize ts.getD k tn0 = x at *
          obtain ⟨y0, y1⟩ := y
          obtain ⟨x0, x1⟩ := x
          dsimp only at *
          have HS := Lib.hid (hst2 (y1 + x1))
          have hB2 : Below w.heap.size w (wr.setCell ⟨g, q * 2 + 1, none⟩ (.int .i64 (y1 + x1))) := hB.setCell lg _
          have HBl := Lib.hid hB2
          have e1 : IntKind.i64.wrap ((n : Int) - 1) = (q : Int) := (wrap_small (by omega)).trans (by omega)
          have gk : decide (0 < n) = true := decide_eq_true (by omega)
          have g2 : (0 : Int) ≤ (k : Int) := by omega
          have g3 : (k : Int) < (ts.length : Int) := by omega
          have g4 : (0 : Int) ≤ (q : Int) := by omega
          have g5 : (q : Int) < (n : Int) := by omega
          have g6 : IntKind.i64.wrap (y1 + x1) = y1 + x1 := wrap_small (by omega)
          have HNN := Lib.hid (And.intro hq hnn)
          clear hq hnn is ib hst hst2 hB hB2 I hown hp hp2 hout hl ilast isome
          go_wp2_with fail
          go_quiet (fail)
          go_wp2_with fail
          go_region
          have HSn : Hid (((wr.drewN (nq + 1)).setCell ⟨g, q * 2 + 1, none⟩ (.int .i64 (y1 + x1))).ownsRow w.heap.size 31 2 (.slice (some ⟨g, 0, none⟩) n cp) n (valsTn (out.set q (y0, y1 + x1)))) := HS.out
          have HBn : Hid (Below w.heap.size w ((wr.drewN (nq + 1)).setCell ⟨g, q * 2 + 1, none⟩ (.int .i64 (y1 + x1)))) := below_drewN HBl.out (nq + 1)
          have hszn : w.heap.size < ((wr.drewN (nq + 1)).setCell ⟨g, q * 2 + 1, none⟩ (.int .i64 (y1 + x1))).heap.size := by
            have e : ((wr.drewN (nq + 1)).setCell ⟨g, q * 2 + 1, none⟩ (.int .i64 (y1 + x1))).heap.size = wr.heap.size := by simp [World.setCell, World.drewN]
            omega
          generalize (wr.drewN (nq + 1)).setCell ⟨g, q * 2 + 1, none⟩ (.int .i64 (y1 + x1)) = Wn at *
          go_wp2_with fail
          go_roundw
          case rel =>
            refine ⟨k + 1, by omega, by go_num, ?_, HBn.out, hszn⟩
            rw [hnext.out, List.length_set, HNN.out.2]
            exact HSn.out
          case measure => simp [intOf]; omega
        | false =>
          rw [hp, mrg_none] at hnext
          have hnp : k = 0 ∨ (0 < k ∧ (ts.getD (k - 1) tn0).1 ≠ (ts.getD k tn0).1) := by
            by_cases hk0 : k = 0
            · exact .inl hk0
            · refine .inr ⟨by omega, fun c => ?_⟩
              unfold prevT at hp
              rw [decide_eq_true (by omega : 0 < k), decide_eq_true c] at hp
              cases hp
          have HOn := Lib.hid hown
          have HBl := Lib.hid hB
          rcases hnp with rfl | ⟨hk0, hne⟩
          · have h0 : out = [] := hout.symm
            subst h0
            generalize ts.getD 0 tn0 = x at *
            obtain ⟨x0, x1⟩ := x
            dsimp only at *
            clear I hown hp hout hB ilast isome ib



            obtain ⟨b, cp, hv, _⟩ := own_tn HOn.out
            subst hv
            have HC0 := c0
            simp only [Nat.zero_mul, Nat.add_zero, Nat.zero_add] at c0 c1
            clear HC0
            have z0 : (0 : Int) < (ts.length : Int) := by omega
            go_wp2_with fail
            go_quiet (fail)
            have HOb : Hid ((wr.drewN nq).ownsRow w.heap.size 31 2 (.slice b 0 cp) 0 (valsTn [])) := HOn.out
            have cb0 : (wr.drewN nq).cell? ⟨g0, o, none⟩ = some (.int .i64 x0) := c0
            have cb1 : (wr.drewN nq).cell? ⟨g0, o + 1, none⟩ = some (.int .i64 x1) := c1
            have HBb : Hid (Below w.heap.size w (wr.drewN nq)) := below_drewN HBl.out nq
            have hszb : w.heap.size < (wr.drewN nq).heap.size := hlt1
            generalize wr.drewN nq = Wb at *
            clear c0 c1 HOn HBl
            go_wp2_with (first | (at_builtin; refine wpList_append_own _ rfl (.tmp 51) (.tmp 56) _ rfl w.heap.size 31 i0 _ 2 16 Try.underlying23 hi0 hz0 hz1 hz2 rfl (by decide) _ _ _ rfl (HOb.out.alloc _) ⟨Wb.heap.size, 0, none⟩ 1 1 [.int .i64 x0, .int .i64 x1] rfl rfl (new_cells Wb _ _) (valsTn_one [(x0, x1)]) (by unfold maxLen; omega) (by omega) (by simp; omega) ?_; intro v2 w2 hown2 hg2 hnil2))
            go_roundw
            case rel =>
              have hb2 : Below w.heap.size w w2 := (HBb.out.alloc HBb.out.size _).grown hg2 (by have := HBb.out.size; simp; omega) (fun q hq => by have := (HOb.out.lt q hq).1; omega)
              refine ⟨0 + 1, by omega, by go_num, ?_, hb2, by have := hg2.size; simp at this; omega⟩
              rw [hnext.out]
              exact hown2
            case measure => simp [intOf]; omega
          · have is := isome hk0
            have hl := ilast hk0
            obtain ⟨q, hq⟩ : ∃ q, out.length = q + 1 := ⟨out.length - 1, by omega⟩
            rw [show out.length - 1 = q from by omega] at hl
            rw [← hl] at hne
            obtain ⟨n, hnn⟩ : ∃ n, out.length = n := ⟨_, rfl⟩
            rw [hnn] at hown i2 HOn
            obtain ⟨g, cp, rfl, lg, ltg⟩ := hown.form (by omega)
            have hc1 := hown.cellAt (q * 2) (by omega)
            rw [(valsTn_get (xs := out) (k := q) (by omega)).1] at hc1
            have e1 : IntKind.i64.wrap ((n : Int) - 1) = (q : Int) := (wrap_small (by omega)).trans (by omega)
            have gk : decide (0 < n) = true := decide_eq_true (by omega)
            have g2 : (0 : Int) ≤ (k : Int) := by omega
            have g3 : (k : Int) < (ts.length : Int) := by omega
            have g4 : (0 : Int) ≤ (q : Int) := by omega
            have g5 : (q : Int) < (n : Int) := by omega
            have HNN := Lib.hid hnn
            generalize ts.getD k tn0 = x at *
            generalize out.getD q tn0 = y at *
            obtain ⟨x0, x1⟩ := x
            obtain ⟨y0, y1⟩ := y
            dsimp only at *
            have e3 : (y0 == x0) = false := by simpa using hne
            clear hne hq hnn is ib hB I hown hp hout hl ilast isome
            go_wp2_with fail
            go_quiet (fail)
            have HOb : Hid ((wr.drewN nq).ownsRow w.heap.size 31 2 (.slice (some ⟨g, 0, none⟩) n cp) n (valsTn out)) := HOn.out
            have cb0 : (wr.drewN nq).cell? ⟨g0, o + k * 2, none⟩ = some (.int .i64 x0) := c0
            have cb1 : (wr.drewN nq).cell? ⟨g0, o + k * 2 + 1, none⟩ = some (.int .i64 x1) := c1
            have HBb : Hid (Below w.heap.size w (wr.drewN nq)) := below_drewN HBl.out nq
            have hszb : w.heap.size < (wr.drewN nq).heap.size := hlt1
            generalize wr.drewN nq = Wb at *
            clear c0 c1 HOn HBl
            go_wp2_with (first | (at_builtin; refine wpList_append_own _ rfl (.tmp 51) (.tmp 56) _ rfl w.heap.size 31 i0 _ 2 16 Try.underlying23 hi0 hz0 hz1 hz2 rfl (by decide) _ _ _ rfl (HOb.out.alloc _) ⟨Wb.heap.size, 0, none⟩ 1 1 [.int .i64 x0, .int .i64 x1] rfl rfl (new_cells Wb _ _) (valsTn_one [(x0, x1)]) (by unfold maxLen; omega) (by omega) (by simp; omega) ?_; intro v2 w2 hown2 hg2 hnil2))
            go_roundw
            case rel =>
              have hb2 : Below w.heap.size w w2 := (HBb.out.alloc HBb.out.size _).grown hg2 (by have := HBb.out.size; simp; omega) (fun q hq => by have := (HOb.out.lt q hq).1; omega)
              refine ⟨k + 1, by omega, by go_num, ?_, hb2, by have := hg2.size; simp at this; omega⟩
              rw [hnext.out, List.length_append, valsTn_append, HNN.out]
              exact hown2
            case measure => simp [intOf]; omega
      · obtain rfl : k = ts.length := by omega
        have HR := Lib.hid hown
        have HBl := Lib.hid hB
        clear hown hB
        go_wp2_with fail
        go_ret
        have I := HM.out ts.length (Nat.le_refl _)
        have ho := HR.out
        rcases Flat.own (zs := flatTn (mrgT ts ts.length)) ho with ⟨_, hz⟩ | ⟨g, cp, hv, lg, F, hcp⟩
        · have := I.some (by omega); omega
        · rw [hv]
          exact out_yes rfl rfl (by omega) F hcp HBl.out
end Go.Proofs.Ythkeopkehjkpeaa
