/- Contracts and facts of functions of this program, in build order. Conditions: those stated in each. -/
import Derived.Test.YtclpbbhhaclgbaaPkFnTurnsFora
import Derived.Laws.OwnMore
import Derived.Maps.AppendAt
import Derived.Deep.AppendLies
import Derived.Deep.Draws
import Derived.RegionTactic
import Derived.OwnWalk
import Derived.Deep.QuietTactic
import Derived.BigQuiet
import Derived.Laws.AppendOwn
import Derived.Laws.BitsAllLaws
import Derived.Laws.BitsLemmas
import Derived.WalkLawsBesides
import Derived.OpenShut
import Derived.Deep.RegionHeld3
import Derived.Deep.DeepCutAuto
namespace Go.Proofs.Ytclpbbhhaclgbaa
open Go.RowKit
set_option linter.unusedSimpArgs false
set_option linter.unusedVariables false
theorem own_ints {w : World} {base : Nat} {v : Value} {zs : List Int} (h : w.ownsRow base 3 1 v zs.length (zs.map (Value.int .i64))) : ∃ (b : Option Addr) (cap : Nat), v = .slice b zs.length cap ∧ IsInts w b zs := by
  have h0 := h
  rcases h.2 with ⟨hv, hn⟩ | ⟨g, cap, cur, hv, _⟩
  · exact ⟨none, 0, by rw [hv, hn], .inl (List.eq_nil_of_length_eq_zero hn)⟩
  · subst hv
    refine ⟨some ⟨g, 0, none⟩, cap, rfl, .inr ⟨g, 0, rfl, fun i hi => ?_⟩⟩
    have := h0.cellAt i (by omega)
    rw [List.getElem?_map, List.getElem?_eq_getElem hi] at this
    rw [Nat.zero_add, this, List.getD_eq_getElem?_getD, List.getElem?_eq_getElem hi]
    rfl
theorem take_map (l : List Int) (k : Nat) (h : k < l.length) : (l.take (k + 1)).map (Value.int .i64) = (l.take k).map (Value.int .i64) ++ [.int .i64 (l.getD k 0)] := by
  rw [List.take_succ_eq_append_getElem h, List.map_append, List.getD_eq_getElem?_getD, List.getElem?_eq_getElem h]; rfl

/-- numbers in a row of the call's own -/
def OwnI (w : World) (base : Nat) (v : Value) (zs : List Int) : Prop := w.ownsRow base 3 1 v zs.length (zs.map (Value.int .i64))
theorem OwnI.nil (w : World) (base : Nat) : OwnI w base (.slice none 0 0) [] := World.ownsRow_nil w base 3 1
theorem OwnI.new {w W : World} (h : Below w.heap.size w W) : OwnI (W.alloc (.cells #[] 3)) w.heap.size (.slice (some ⟨W.heap.size, 0, none⟩) 0 0) [] :=
  ⟨by simp, .inr ⟨W.heap.size, 0, #[], rfl, h.size, Go.Deep.blk_alloc_new _ _, Nat.le_refl _, by unfold maxLen; omega, rfl, rfl⟩⟩
theorem OwnI.one {w W : World} (h : Below w.heap.size w W) (z : Int) : (W.alloc (.cells #[.int .i64 z] 3)).ownsRow w.heap.size 3 1 (.slice (some ⟨W.heap.size, 0, none⟩) 1 1) 1 [.int .i64 z] :=
  ⟨by simp, .inr ⟨W.heap.size, 1, #[.int .i64 z], rfl, h.size, Go.Deep.blk_alloc_new _ _, Nat.le_refl _, by unfold maxLen; omega, rfl, rfl⟩⟩
theorem OwnI.snoc {w : World} {base : Nat} {v : Value} {zs : List Int} {z : Int} (h : w.ownsRow base 3 1 v (zs.length + 1) (zs.map (Value.int .i64) ++ [.int .i64 z])) : OwnI w base v (zs ++ [z]) := by
  unfold OwnI; rw [List.length_append, List.map_append]; exact h
theorem OwnI.cons {w : World} {base : Nat} {v : Value} {zs : List Int} {z : Int} (h : w.ownsRow base 3 1 v (1 + zs.length) ([.int .i64 z] ++ zs.map (Value.int .i64))) : OwnI w base v (z :: zs) := by
  unfold OwnI; rw [List.length_cons, Nat.add_comm]; exact h
theorem OwnI.ints {w : World} {base : Nat} {v : Value} {zs : List Int} (h : OwnI w base v zs) : ∃ (b : Option Addr) (cap : Nat), v = .slice b zs.length cap ∧ IsInts w b zs := own_ints h
theorem OwnI.of_block {w w' : World} {base : Nat} {v : Value} {zs : List Int} (h : OwnI w base v zs) (hb : Below w.heap.size w w') : OwnI w' base v zs := by
  refine ⟨h.1, ?_⟩
  rcases h.2 with h0 | ⟨g, cap, cur, hv, hg, hb0, r⟩
  · exact .inl h0
  · exact .inr ⟨g, cap, cur, hv, hg, (hb.block g (Blk.lt hb0)).trans hb0, r⟩
theorem own_lower {w : World} {a b : Nat} {v : Value} {zs : List Int} (h : OwnI w b v zs) (hab : a ≤ b) : OwnI w a v zs := by
  refine ⟨h.1, ?_⟩
  rcases h.2 with h0 | ⟨g, cap, cur, hv, hg, r⟩
  · exact .inl h0
  · exact .inr ⟨g, cap, cur, hv, Nat.le_trans hab hg, r⟩
/-- what a function that hands back numbers leaves -/
def OutI (w : World) (R : List Int) (e : Ending) (w' : World) : Prop := ∃ v, e = .returned v ∧ OwnI w' w.heap.size v R ∧ Below w.heap.size w w'
theorem outI_nil {w w' : World} (h : Below w.heap.size w w') : OutI w [] (.returned (.slice none 0 0)) w' := ⟨_, rfl, OwnI.nil _ _, h⟩
theorem OwnI.grow {W : World} {base : Nat} {v : Value} {zs : List Int} (h : OwnI W base v zs) : ∀ q, v.ownBlock = some q → base ≤ q := fun q hq => (World.ownsRow.lt h q hq).1
theorem OwnI.at_ {w : World} {base n c : Nat} {b : Option Addr} {zs : List Int} (h : OwnI w base (.slice b n c) zs) : IsInts w b zs := by
  obtain ⟨b', c', e, hi⟩ := OwnI.ints h
  injection e with e1 e2 e3
  subst e1; exact hi
theorem OwnI.len_ {w : World} {base n c : Nat} {b : Option Addr} {zs : List Int} (h : OwnI w base (.slice b n c) zs) : n = zs.length := by
  obtain ⟨b', c', e, hi⟩ := OwnI.ints h
  injection e with e1 e2 e3
theorem OwnI.apart {w w' : World} {base : Nat} {v : Value} {zs : List Int} {row : Option Nat} (h : OwnI w base v zs) (hg : w.grownBy w' row) (hr : ∀ q, row = some q → q < base) : OwnI w' base v zs :=
  World.ownsRow.kept h hg (by
    cases e : v.ownBlock with
    | none => exact .inl rfl
    | some k =>
      refine .inr (fun c => ?_)
      have a := hr k c.symm
      have b := (World.ownsRow.lt h k e).1
      omega)
theorem below_gv {w a b : World} {row : Option Nat} (h : Below w.heap.size w a) (hG : a.grownBy b row) (hg : ∀ q, row = some q → w.heap.size ≤ q) : Below w.heap.size w b := h.grown hG h.size hg
theorem vals_set (zs : List Int) (j : Nat) (z : Int) : (zs.map (Value.int .i64)).set j (.int .i64 z) = (zs.set j z).map (Value.int .i64) := by rw [List.map_set]
theorem OwnI.of_row {w : World} {base g n : Nat} {f : Nat → Value} {zs : List Int} (h : w.rowIs g 3 n f) (hl : zs.length = n) (hf : ∀ j, j < n → f j = .int .i64 (zs.getD j 0)) (hb : base ≤ g) (hn : n ≤ 1048576) : OwnI w base (.slice (some ⟨g, 0, none⟩) n n) zs := by
  obtain ⟨cs, hh, hs, hc⟩ := h
  refine ⟨by simp, .inr ⟨g, n, cs, by rw [hl], hb, hh, by omega, by unfold maxLen; omega, by omega, ?_⟩⟩
  apply List.ext_getElem?
  intro j
  rw [List.getElem?_take, List.getElem?_map]
  by_cases e : j < zs.length
  · rw [if_pos (by omega), Array.getElem?_toList, hc j (by omega), hf j (by omega), List.getD_eq_getElem?_getD, List.getElem?_eq_getElem e]; rfl
  · rw [if_neg (by omega), List.getElem?_eq_none (by omega)]; rfl
theorem OwnI.made {w W : World} (h : Below w.heap.size w W) (n : Nat) (hn : n ≤ 1048576) : OwnI (W.alloc (.cells (madeCells #[.int .i64 0] n) 3)) w.heap.size (.slice (some ⟨W.heap.size, 0, none⟩) n n) (List.replicate n 0) :=
  OwnI.of_row (World.rowIs_made W (.int .i64 0) n 3) (List.length_replicate ..) (fun j hj => by rw [List.getD_eq_getElem?_getD, List.getElem?_replicate, if_pos hj]; rfl) h.size hn
theorem OwnI.set_ {w : World} {base g n c : Nat} {zs : List Int} (h : OwnI w base (.slice (some ⟨g, 0, none⟩) n c) zs) (j : Nat) (z : Int) : OwnI (w.setCell ⟨g, j, none⟩ (.int .i64 z)) base (.slice (some ⟨g, 0, none⟩) n c) (zs.set j z) := by
  obtain rfl := h.len_
  have a := (World.ownsRow.stored h j (.int .i64 z)).1
  rw [vals_set] at a
  unfold OwnI
  rw [List.length_set]; exact a
theorem OwnI.cell {w : World} {base g n c : Nat} {zs : List Int} (h : OwnI w base (.slice (some ⟨g, 0, none⟩) n c) zs) {j : Nat} (hj : j < zs.length) : w.cell? ⟨g, j, none⟩ = some (.int .i64 (zs.getD j 0)) := by
  rcases h.at_ with e | ⟨g', o', e, hc⟩
  · rw [e] at hj; simp at hj
  · injection e with e; injection e with e1 e2 e3; subst e1 e2
    have := hc j hj; rw [Nat.zero_add] at this; exact this
theorem OwnI.frozen {w : World} {base g n c : Nat} {zs : List Int} (h : OwnI w base (.slice (some ⟨g, 0, none⟩) n c) zs) (j : Nat) : w.frozen? ⟨g, j, none⟩ = false := by
  obtain rfl := h.len_
  exact World.ownsRow.frozenAt h j
theorem OwnI.blk {w : World} {base g n c : Nat} {zs : List Int} (h : OwnI w base (.slice (some ⟨g, 0, none⟩) n c) zs) : base ≤ g ∧ g < w.heap.size := World.ownsRow.lt h g rfl
/-- the first k of some numbers, and 0 behind them -/
def mixZ (zs : List Int) (k : Nat) : List Int := (List.range zs.length).map fun i => if i < k then zs.getD i 0 else 0
theorem mix_len (zs : List Int) (k : Nat) : (mixZ zs k).length = zs.length := by unfold mixZ; simp
theorem mix_get (zs : List Int) (k : Nat) {i : Nat} (h : i < zs.length) : (mixZ zs k).getD i 0 = if i < k then zs.getD i 0 else 0 := by
  unfold mixZ
  rw [List.getD_eq_getElem?_getD, List.getElem?_map, List.getElem?_range h]; rfl
theorem mix_all {zs : List Int} {k : Nat} (h : zs.length ≤ k) : mixZ zs k = zs := by
  refine ext_z (mix_len zs k) (fun i hi => ?_)
  rw [mix_len] at hi
  rw [mix_get zs k hi, if_pos (by omega)]
theorem mix_none {zs : List Int} {k : Nat} (h : ∀ i, i < k → i < zs.length → zs.getD i 0 = 0) : mixZ zs k = List.replicate zs.length 0 := by
  refine ext_z (by rw [mix_len, List.length_replicate]) (fun i hi => ?_)
  rw [mix_len] at hi
  have e : (List.replicate zs.length (0 : Int)).getD i 0 = 0 := by rw [List.getD_eq_getElem?_getD, List.getElem?_replicate, if_pos hi]; rfl
  rw [mix_get zs k hi, e]
  split
  · rename_i c; exact h i c hi
  · rfl
theorem mix_set {zs : List Int} {k : Nat} (h : k < zs.length) : (mixZ zs k).set k (zs.getD k 0) = mixZ zs (k + 1) := by
  refine ext_z (by rw [List.length_set, mix_len, mix_len]) (fun i hi => ?_)
  rw [List.length_set, mix_len] at hi
  rw [getD_setZ i _ (by rw [mix_len]; exact h), mix_get zs k hi, mix_get zs (k + 1) hi]
  by_cases e : i = k
  · subst e; rw [if_pos rfl, if_pos (by omega)]
  · rw [if_neg e]
    by_cases c : i < k
    · rw [if_pos c, if_pos (by omega)]
    · rw [if_neg c, if_neg (by omega)]
theorem g_set2 {w wr : World} {g j : Nat} {v : Value} (h : w.grownBy wr (some g)) : w.grownBy (wr.setCell ⟨g, j, none⟩ v) (some g) :=
  ⟨h.os, h.tape, h.output, by simpa [World.setCell] using h.size, fun i hi hne => (Below.heap_setCell wr ⟨g, j, none⟩ v i (by rintro rfl; exact hne rfl)).trans (h.block i hi hne)⟩
theorem g_of {w w' : World} (h : Below w.heap.size w w') (row : Option Nat) : w.grownBy w' row := ⟨h.os, h.tape, h.output, h.size, fun i hi _ => h.block i hi⟩
theorem below_g {w a b : World} {g : Nat} (h : Below w.heap.size w a) (hG : a.grownBy b (some g)) (hg : w.heap.size ≤ g) : Below w.heap.size w b := h.grown hG h.size (fun q hq => by injection hq with hq; omega)
theorem lmark_nil (w : World) : Calls Try.prog 20 #[.slice none 0 0, .int .i64 1] w fun e w' => e = .returned (.int .i64 1) ∧ w = w' := by
  go_enter Try.func20, Try.ntmps20
  go_wp2
  go_rounds 1
  go_ret
  exact ⟨rfl, rfl⟩
theorem lheld_nil (w : World) : Calls Try.prog 21 #[.slice none 0 0, .int .i64 1] w fun e w' => e = .returned (.int .i64 1) ∧ w = w' := by
  go_enter Try.func21, Try.ntmps21
  go_wp2
  go_rounds 1
  go_ret
  exact ⟨rfl, rfl⟩
set_option maxHeartbeats 2000000 in
theorem lmarkO (b : Option Addr) (c base : Nat) (zs : List Int) (w : World) (h : OwnI w base (.slice b zs.length c) zs) (hn : zs.length ≤ 1048576) :
    Calls Try.prog 20 #[.slice b zs.length c, .int .i64 1] w fun e w' => e = .returned (.int .i64 (1 + (zs.length : Int))) ∧ OwnI w' base (.slice b zs.length c) (marksF zs.length) ∧ w.grownBy w' (Value.slice b zs.length c).ownBlock := by
  rcases h.2 with ⟨e, h0⟩ | ⟨g, cap, cur, e, hg, hb, hc, _⟩
  · injection e with e1 e2 e3
    subst e1 e3
    rw [h0]
    refine (lmark_nil w).mono ?_
    rintro e w' ⟨rfl, rfl⟩
    exact ⟨rfl, OwnI.nil _ _, g_of (Below.refl _ _) _⟩
  · injection e with e1 e2 e3
    subst e1 e3
    have H := Lib.hid h
    clear h hb
    go_enter Try.func20, Try.ntmps20
    go_wp2
    go_loopw [1, 5] (fun k i wr => ∃ j : Nat, j ≤ zs.length ∧ i = .int .i64 j ∧ k = .int .i64 (1 + (j : Int)) ∧ Hid (wr.ownsRow base 3 1 (.slice (some ⟨g, 0, none⟩) zs.length c) zs.length ((markTo zs j).map (Value.int .i64)) ∧ w.grownBy wr (some g))) (fun _ i _ => zs.length - (intOf i).toNat)
    case atStart => exact ⟨0, Nat.zero_le _, rfl, rfl, by rw [markTo_zero]; exact H.out, g_of (Below.refl _ _) _⟩
    case round =>
      obtain ⟨j, hj, rfl, rfl, HO⟩ := hrel
      by_cases hlt : j < zs.length
      · have hl := markTo_len hj
        have hd := World.ownsRow.cellAt HO.out.1 j (by omega)
        rw [List.getElem?_map, List.getElem?_eq_getElem (by omega)] at hd
        have hf := World.ownsRow.frozenAt HO.out.1 j
        have hs := World.ownsRow.stored HO.out.1 j (.int .i64 (1 + (j : Int)))
        rw [vals_set, markTo_succ hlt] at hs
        have HS : Hid ((wr.setCell ⟨g, j, none⟩ (.int .i64 (1 + (j : Int)))).ownsRow base 3 1 (.slice (some ⟨g, 0, none⟩) zs.length c) zs.length ((markTo zs (j + 1)).map (Value.int .i64)) ∧ w.grownBy (wr.setCell ⟨g, j, none⟩ (.int .i64 (1 + (j : Int)))) (some g)) := ⟨hs.1, g_set2 HO.out.2⟩
        simp only [Option.map_some] at hd
        generalize (markTo zs j)[j] = z at hd
        clear hs hl HO
        go_wp2
        go_roundw
        case rel => exact ⟨j + 1, by omega, by go_num, by go_num, HS.out⟩
        case measure => simp [intOf]; omega
      · obtain rfl : j = zs.length := by omega
        have HE : Hid (OwnI wr base (.slice (some ⟨g, 0, none⟩) zs.length c) (marksF zs.length)) := by
          have := HO.out.1
          rw [markTo_end] at this
          show _
          unfold OwnI
          rw [marksF_len]; exact this
        go_wp2
        go_ret
        exact ⟨ret_int rfl, HE.out, HO.out.2⟩
set_option maxHeartbeats 1000000 in
theorem lheldO (b : Option Addr) (c n base : Nat) (w : World) (h : OwnI w base (.slice b n c) (marksF n)) (hn : n ≤ 1048576) :
    Calls Try.prog 21 #[.slice b n c, .int .i64 1] w fun e w' => e = .returned (.int .i64 (1 + (n : Int))) ∧ w = w' := by
  rcases h.at_ with h0 | ⟨g, o, rfl, hc⟩
  · have h1 := h.len_
    rw [h0] at h1
    obtain rfl : n = 0 := by simpa using h1
    clear h1 h0 h
    go_enter Try.func21, Try.ntmps21
    go_wp2
    go_rounds 1
    go_ret
    exact ⟨rfl, rfl⟩
  · have HC := Lib.hid hc
    clear hc h
    go_enter Try.func21, Try.ntmps21
    go_wp2
    go_loop [1, 5] (fun k i => ∃ j : Nat, j ≤ n ∧ i = .int .i64 j ∧ k = .int .i64 (1 + (j : Int))) (fun _ i => n - (intOf i).toNat)
    case atStart => exact ⟨0, Nat.zero_le _, rfl, rfl⟩
    case round =>
      obtain ⟨j, hj, rfl, rfl⟩ := hrel
      by_cases hlt : j < n
      · have hd := HC.out j (by rw [marksF_len]; exact hlt)
        rw [marksF_get n hlt] at hd
        go_wp2
        go_round
        case rel => exact ⟨j + 1, by omega, by go_num, by go_num⟩
        case measure => simp [intOf]; omega
      · go_wp2
        go_ret
        exact ⟨ret_int (by omega), rfl⟩
set_option maxHeartbeats 1000000 in
theorem lmarkS (g cap : Nat) (zs : List Int) (w : World) (s : Int) (h : Row w g zs) (hn : zs.length ≤ 1048576) (hs0 : 0 ≤ s) (hs1 : s ≤ 1000000000000) :
    Calls Try.prog 20 #[.slice (some ⟨g, 0, none⟩) zs.length cap, .int .i64 s] w fun e w' => e = .returned (.int .i64 (s + (zs.length : Int))) ∧ w.grownBy w' (some g) := by
  have H := Lib.hid h
  clear h
  go_enter Try.func20, Try.ntmps20
  go_wp2
  go_loopw [1, 5] (fun k i wr => ∃ j : Nat, j ≤ zs.length ∧ i = .int .i64 j ∧ k = .int .i64 (s + (j : Int)) ∧ (∃ f : Nat → Value, wr.rowIs g 3 zs.length f ∧ (∀ i, ∃ z : Int, f i = .int .i64 z)) ∧ w.grownBy wr (some g)) (fun _ i _ => zs.length - (intOf i).toNat)
  case atStart => exact ⟨0, Nat.zero_le _, rfl, by simp, ⟨_, H.out, fun i => ⟨_, rfl⟩⟩, g_of (Below.refl _ _) _⟩
  case round =>
    obtain ⟨j, hj, rfl, rfl, ⟨f, hrow, hfz⟩, hG⟩ := hrel
    by_cases hlt : j < zs.length
    · have hd := hrow.cell hlt
      obtain ⟨z, hz⟩ := hfz j
      rw [hz] at hd
      have hf := hrow.frozen j
      have hcon : (wr.setCell ⟨g, j, none⟩ (.int .i64 (s + (j : Int)))).rowIs g 3 zs.length (fun i => if i = j then .int .i64 (s + (j : Int)) else f i) :=
        hrow.set j (.int .i64 (s + (j : Int)))
      have hfz2 : ∀ i, ∃ z : Int, (fun i => if i = j then Value.int .i64 (s + (j : Int)) else f i) i = .int .i64 z := fun i => by
        by_cases e : i = j
        · exact ⟨_, if_pos e⟩
        · obtain ⟨z, hz⟩ := hfz i; exact ⟨z, (if_neg e).trans hz⟩
      have HR := Lib.hid hcon
      have HG := Lib.hid hG
      have HF := Lib.hid hfz2
      clear hcon hrow hG hfz hfz2 hz
      go_wp2
      go_roundw
      case rel => exact ⟨j + 1, by omega, by go_num, by go_num, ⟨_, HR.out, HF.out⟩, g_set2 HG.out⟩
      case measure => simp [intOf]; omega
    · have HG := Lib.hid hG
      clear hrow hG hfz
      go_wp2
      go_ret
      exact ⟨ret_int (by omega), HG.out⟩
theorem OwnI.far {w : World} {base : Nat} {v : Value} {zs : List Int} (h : OwnI w base v zs) {g j : Nat} (hp : v.ownBlock ≠ some g) (u : Value) : OwnI (w.setCell ⟨g, j, none⟩ u) base v zs :=
  World.ownsRow.kept h (g_set2 (g_of (Below.refl _ _) _)) (.inr hp)
theorem OwnI.grown {w w' : World} {base : Nat} {v : Value} {zs : List Int} {row : Option Nat} (h : OwnI w base v zs) (hg : w.grownBy w' row) (hp : v.ownBlock ≠ row) : OwnI w' base v zs := World.ownsRow.kept h hg (.inr hp)
theorem grown_alloc {w w' : World} {o : Obj} {row : Option Nat} (h : (w.alloc o).grownBy w' row) : w.grownBy w' row :=
  ⟨h.os, h.tape, h.output, Nat.le_trans (by rw [World.size_alloc]; omega) h.size, fun i hi hne => (h.block i (by rw [World.size_alloc]; omega) hne).trans (Below.heap_alloc w o i hi)⟩
theorem row_apart {w w' : World} {g g' : Nat} {zs : List Int} (h : Row w g zs) (hG : w.grownBy w' (some g')) (hne : g ≠ g') : Row w' g zs :=
  World.rowIs.of_block h (hG.block g (World.rowIs.lt h) (fun e => by injection e with e; exact hne e))
theorem OwnI.form_ {w : World} {base n c : Nat} {b : Option Addr} {zs : List Int} (h : OwnI w base (.slice b n c) zs) (hl : 0 < zs.length) : ∃ g, b = some ⟨g, 0, none⟩ ∧ base ≤ g := by
  obtain rfl := h.len_
  obtain ⟨g, cap, hv, hg, _⟩ := World.ownsRow.form h hl
  injection hv with e1 e2 e3
  exact ⟨g, e1, hg⟩
/-- one number more behind a row of the call's own -/
theorem wp_snoc {ops : Array Oper} {rest : List Oper} {o : Oper} {a : Act} {Q : Exit → Act → World → Prop} (hgd : o.guard = none) (s x : Operand)
    (ho : o.op = .call { callee := .builtin .append, args := #[s, x], argTypes := #[27, 27] })
    {W : World} {base : Nat} {v : Value} {zs : List Int} {z : Int} (hs : a.eval s = v) (hown : OwnI W base v zs) {g : Nat} (hx : a.eval x = .slice (some ⟨g, 0, none⟩) 1 1) (hg : W.heap.size = g) (hn : zs.length ≤ 1048576) (hbase : base ≤ W.heap.size)
    (h : ∀ v' w', OwnI w' base v' (zs ++ [z]) → W.grownBy w' v.ownBlock → (v'.ownBlock = v.ownBlock ∨ ∃ q, v'.ownBlock = some q ∧ W.heap.size ≤ q) → wpList Try.prog ops Q rest (a.put o.dst v') w') :
    wpList Try.prog ops Q (o :: rest) a (W.alloc (.cells #[.int .i64 z] 3)) := by
  subst hg
  obtain ⟨i0, hi, hz0, hz1, hz2⟩ := info_parts infoInt
  refine wpList_append_own_at _ hgd s x 27 ho base 3 i0 (.int .i64 0) 1 8 Try.underlying27 hi hz0 hz1 hz2 rfl (by decide) v zs.length _ hs (World.ownsRow.alloc hown _) ⟨W.heap.size, 0, none⟩ 1 1 [.int .i64 z] hx rfl (cell_one_new _ _ _) (fun x hx => by simp at hx; subst hx; rfl) (by unfold maxLen; omega) (by omega) (by rw [World.size_alloc]; omega) ?_
  intro v' w' h1 h2 _ h4
  refine h v' w' (OwnI.snoc h1) (grown_alloc h2) ?_
  rcases h4 with h4 | h4
  · exact .inl h4
  · exact .inr ⟨_, h4, by rw [World.size_alloc]; omega⟩
/-- a row keeps apart from one that grew -/
theorem own_apart2 {W : World} {base : Nat} {u v v' : Value} {us : List Int} (hu : OwnI W base u us) (h : v'.ownBlock = v.ownBlock ∨ ∃ q, v'.ownBlock = some q ∧ W.heap.size ≤ q) (hne : u.ownBlock ≠ v.ownBlock) (hs : u.ownBlock ≠ none) : u.ownBlock ≠ v'.ownBlock := by
  rcases h with h | ⟨q, h, hq⟩
  · rw [h]; exact hne
  · rw [h]
    cases e : u.ownBlock with
    | none => exact absurd e hs
    | some k =>
      have := (World.ownsRow.lt hu k e).2
      intro c; injection c with c; omega
end Go.Proofs.Ytclpbbhhaclgbaa
namespace Go.Proofs.Ytclpbbhhaclgbaa
open Go.RowKit

theorem block_of_add (a : Addr) (n : Nat) : (a.add n).block = a.block := by unfold Addr.add; split <;> rfl
theorem add_of_add (a : Addr) (i j : Nat) : (a.add i).add j = a.add (i + j) := by
  unfold Addr.add
  by_cases hi : i = 0 <;> by_cases hj : j = 0 <;> simp [hi, hj, Nat.add_assoc]

def Reads (w : World) (B size : Nat) (A : Option Addr) (n : Nat) (xs : List Value) : Prop :=
  xs.length = n * size ∧ (0 < n → ∃ ad, A = some ad ∧ ad.block < B ∧ ∀ j u, xs[j]? = some u → w.cell? (ad.add j) = some u)

section
variable {w w' : World} {B B' size n : Nat} {A : Option Addr} {xs : List Value}
theorem Reads.none_ : Reads w B size A 0 [] := ⟨by simp, fun h => absurd h (by omega)⟩
theorem Reads.at_ {k : Nat} (h : Reads w B 1 A n xs) (hk : k < n) : ∃ ad u, A = some ad ∧ ad.block < B ∧ xs[k]? = some u ∧ w.cell? (ad.add k) = some u := by
  obtain ⟨ad, e, hb, hc⟩ := h.2 (by omega)
  have hl : k < xs.length := by have := h.1; omega
  exact ⟨ad, xs[k], e, hb, List.getElem?_eq_getElem hl, hc k _ (List.getElem?_eq_getElem hl)⟩
theorem Reads.keep (h : Reads w B size A n xs) (hk : ∀ p : Addr, p.block < B → w'.cell? p = w.cell? p) : Reads w' B size A n xs :=
  ⟨h.1, fun hn => by
    obtain ⟨ad, e, hb, hc⟩ := h.2 hn
    exact ⟨ad, e, hb, fun j u hu => (hk _ (by rw [block_of_add]; exact hb)).trans (hc j u hu)⟩⟩
theorem Reads.more (h : Reads w B size A n xs) (hB : B ≤ B') : Reads w B' size A n xs :=
  ⟨h.1, fun hn => by
    obtain ⟨ad, e, hb, hc⟩ := h.2 hn
    exact ⟨ad, e, by omega, hc⟩⟩
theorem Reads.below (h : Reads w B size A n xs) (hb : Below B w w') : Reads w' B size A n xs := h.keep fun _ hp => hb.cell hp
theorem Reads.drew (h : Reads w B size A n xs) : Reads w.drew B size A n xs := h
theorem Reads.drewN (h : Reads w B size A n xs) (k : Nat) : Reads (w.drewN k) B size A n xs := h
theorem Reads.alloc (h : Reads w B size A n xs) (hB : B ≤ w.heap.size) (o : Obj) : Reads (w.alloc o) B size A n xs := h.keep fun p hp => World.cell?_alloc_lt w o p (by omega)
theorem Reads.setCell (h : Reads w B size A n xs) {p : Addr} (hB : B ≤ p.block) (u : Value) : Reads (w.setCell p u) B size A n xs :=
  h.keep fun q hq => World.cell?_setCell_other w p q u (fun e => by subst e; omega)
theorem Reads.grown (h : Reads w B size A n xs) {row : Option Nat} (hg : w.grownBy w' row) (hB : B ≤ w.heap.size) (hr : ∀ g, row = some g → B ≤ g) : Reads w' B size A n xs :=
  h.keep fun p hp => World.cell?_of_block (hg.block p.block (by omega) (fun e => by have := hr _ e.symm; omega))
theorem Reads.cut (h : Reads w B size A n xs) {k cap : Nat} (hk : k ≤ n) (hc : n ≤ cap) :
    Reads w B size (if cap = k then A else A.map (·.add (k * size))) (n - k) (xs.drop (k * size)) := by
  refine ⟨by rw [List.length_drop, h.1, Nat.sub_mul], fun hn => ?_⟩
  obtain ⟨ad, rfl, hb, hcell⟩ := h.2 (by omega)
  rw [if_neg (by omega)]
  refine ⟨ad.add (k * size), rfl, by rw [block_of_add]; exact hb, fun j u hu => ?_⟩
  rw [add_of_add]
  exact hcell _ u (by rw [← hu, List.getElem?_drop])
theorem Reads.of_own {base : Nat} {e : TypeId} {c : Nat} (h : w.ownsRow base e size (.slice A n c) n xs) : Reads w w.heap.size size A n xs := by
  refine ⟨h.1, fun hn => ?_⟩
  obtain ⟨g, cap, hv, _, hlt⟩ := h.form hn
  have hA : A = some ⟨g, 0, none⟩ := by injection hv
  subst hA
  exact ⟨_, rfl, hlt, h.cells (g := g) rfl⟩
end

section
variable {P : Program} (w : World)

theorem run_append_of_nil (base : Nat) (t ty e : TypeId) (i : TypeInfo) (size : Nat) (ht : P.underlying t = some (.slice e)) (hi : P.info? e = some i)
    (v : Value) (n : Nat) (xs : List Value) (hown : w.ownsRow base e size v n xs) (c : Nat) : (Builtin.append_ #[t, t] ty #[v, .slice none 0 c]).run P w = .ok v w := by
  rcases hown.2 with ⟨rfl, rfl⟩ | ⟨g, cap, cur, rfl, _, _, hnc, _⟩
  · simp [Builtin.append_, run_underlying ht, sizeOf, typeInfo, hi, Builtin.lenOf, Builtin.firstCells]
  · simp [Builtin.append_, run_underlying ht, sizeOf, typeInfo, hi, Builtin.lenOf, Builtin.firstCells, hnc, storeCells]

theorem run_append_any (base : Nat) (t ty e : TypeId) (i : TypeInfo) (z : Value) (size bytes : Nat) (ht : P.underlying t = some (.slice e)) (hi : P.info? e = some i) (hz : i.zero = some z)
    (hsize : i.size = size) (hby : i.bytes = bytes) (hzs : z.cells.size = size) (hsz : 0 < size)
    (v : Value) (n : Nat) (xs : List Value) (hown : w.ownsRow base e size v n xs)
    (B : Nat) (A : Option Addr) (m c : Nat) (news : List Value) (hr : Reads w B size A m news) (h1 : ∀ u ∈ news, u.oneCell' = true)
    (h63 : n + m ≤ maxLen) (hbytes : (n + m) * bytes ≤ 140737488355328) (hbase : base ≤ w.heap.size) :
    ∃ v' w', (Builtin.append_ #[t, t] ty #[v, .slice A m c]).run P w = .ok v' w' ∧ w'.ownsRow base e size v' (n + m) (xs ++ news) ∧ w.grownBy w' v.ownBlock ∧
      (v'.ownBlock = v.ownBlock ∨ v'.ownBlock = some w.heap.size) := by
  rcases A with _ | ad
  · have hm : m = 0 := by
      rcases Nat.eq_zero_or_pos m with h0 | h0
      · exact h0
      · obtain ⟨ad, h, _⟩ := hr.2 h0
        cases h
    subst hm
    have hn : news = [] := List.eq_nil_of_length_eq_zero (by simpa using hr.1)
    subst hn
    exact ⟨v, w, run_append_of_nil w base t ty e i size ht hi v n xs hown c, by simpa using hown, World.grownBy.refl w _, .inl rfl⟩
  · have hcells : ∀ j u, news[j]? = some u → w.cell? (ad.add j) = some u := by
      intro j u hu
      rcases Nat.eq_zero_or_pos m with h0 | h0
      · subst h0
        have hn : news = [] := List.eq_nil_of_length_eq_zero (by simpa using hr.1)
        subst hn
        simp at hu
      · obtain ⟨ad', h, _, hc⟩ := hr.2 h0
        injection h with h
        subst h
        exact hc j u hu
    obtain ⟨v', w', hrun, h2, h3, _, h5⟩ := run_append_own_at (P := P) w base t ty e i z size bytes ht hi hz hsize hby hzs hsz v n xs hown ad m c news hr.1 hcells h1 h63 hbytes hbase
    exact ⟨v', w', hrun, h2, h3, h5⟩

theorem wp_append_any {o : Oper} {a : Act} {K : Act → World → Prop} {Q : Exit → Act → World → Prop} (s x : Operand) (t : TypeId)
    (ho : o.op = .call { callee := .builtin .append, args := #[s, x], argTypes := #[t, t] })
    (base : Nat) (e : TypeId) (i : TypeInfo) (z : Value) (size bytes : Nat) (ht : P.underlying t = some (.slice e)) (hi : P.info? e = some i) (hz : i.zero = some z)
    (hsize : i.size = size) (hby : i.bytes = bytes) (hzs : z.cells.size = size) (hsz : 0 < size)
    (v : Value) (n : Nat) (xs : List Value) (hs : a.eval s = v) (hown : w.ownsRow base e size v n xs)
    (B : Nat) (A : Option Addr) (m c : Nat) (news : List Value) (hx : a.eval x = .slice A m c) (hr : Reads w B size A m news) (h1 : ∀ u ∈ news, u.oneCell' = true)
    (h63 : n + m ≤ maxLen) (hbytes : (n + m) * bytes ≤ 140737488355328) (hbase : base ≤ w.heap.size)
    (h : ∀ v' w', w'.ownsRow base e size v' (n + m) (xs ++ news) → w.grownBy w' v.ownBlock → (v'.ownBlock = v.ownBlock ∨ v'.ownBlock = some w.heap.size) → K (a.put o.dst v') w') : o.wp P a w K Q := by
  obtain ⟨v', w', hrun, h2, h3, h4⟩ := run_append_any (P := P) w base t o.type e i z size bytes ht hi hz hsize hby hzs hsz v n xs hown B A m c news hr h1 h63 hbytes hbase
  unfold Oper.wp execOp
  simp only [ho, resolve, invoke, builtin, Sem.run_bind, Sem.run_pure, Result.andThen_ok, List.map_toArray, List.map_cons, List.map_nil, hs, hx, hrun]
  exact h v' w' h2 h3 h4

theorem wpList_append_any {ops : Array Oper} {rest : List Oper} {o : Oper} {a : Act} {Q : Exit → Act → World → Prop} (hgd : o.guard = none) (s x : Operand) (t : TypeId)
    (ho : o.op = .call { callee := .builtin .append, args := #[s, x], argTypes := #[t, t] })
    (base : Nat) (e : TypeId) (i : TypeInfo) (z : Value) (size bytes : Nat) (ht : P.underlying t = some (.slice e)) (hi : P.info? e = some i) (hz : i.zero = some z)
    (hsize : i.size = size) (hby : i.bytes = bytes) (hzs : z.cells.size = size) (hsz : 0 < size)
    (v : Value) (n : Nat) (xs : List Value) (hs : a.eval s = v) (hown : w.ownsRow base e size v n xs)
    (B : Nat) (A : Option Addr) (m c : Nat) (news : List Value) (hx : a.eval x = .slice A m c) (hr : Reads w B size A m news) (h1 : ∀ u ∈ news, u.oneCell' = true)
    (h63 : n + m ≤ maxLen) (hbytes : (n + m) * bytes ≤ 140737488355328) (hbase : base ≤ w.heap.size)
    (h : ∀ v' w', w'.ownsRow base e size v' (n + m) (xs ++ news) → w.grownBy w' v.ownBlock → (v'.ownBlock = v.ownBlock ∨ v'.ownBlock = some w.heap.size) → wpList P ops Q rest (a.put o.dst v') w') : wpList P ops Q (o :: rest) a w :=
  wpList_plain hgd fun _ hK => wp_append_any w s x t ho base e i z size bytes ht hi hz hsize hby hzs hsz v n xs hs hown B A m c news hx hr h1 h63 hbytes hbase fun v' w' h2 h3 h4 => hK _ _ (h v' w' h2 h3 h4)

theorem step_append_any {ops : Array Oper} {o : Oper} {a : Act} {K : Act → World → Prop} {Q : Exit → Act → World → Prop} {E : Prop} (hgd : o.guard = none) (s x : Operand) (t : TypeId)
    (ho : o.op = .call { callee := .builtin .append, args := #[s, x], argTypes := #[t, t] })
    (base : Nat) (e : TypeId) (i : TypeInfo) (z : Value) (size bytes : Nat) (ht : P.underlying t = some (.slice e)) (hi : P.info? e = some i) (hz : i.zero = some z)
    (hsize : i.size = size) (hby : i.bytes = bytes) (hzs : z.cells.size = size) (hsz : 0 < size)
    (v : Value) (n : Nat) (xs : List Value) (hs : a.eval s = v) (hown : w.ownsRow base e size v n xs)
    (B : Nat) (A : Option Addr) (m c : Nat) (news : List Value) (hx : a.eval x = .slice A m c) (hr : Reads w B size A m news) (h1 : ∀ u ∈ news, u.oneCell' = true)
    (h63 : n + m ≤ maxLen) (hbytes : (n + m) * bytes ≤ 140737488355328) (hbase : base ≤ w.heap.size)
    (h : ∀ v' w', w'.ownsRow base e size v' (n + m) (xs ++ news) → w.grownBy w' v.ownBlock → (v'.ownBlock = v.ownBlock ∨ v'.ownBlock = some w.heap.size) → K (a.put o.dst v') w') :
    if Region.wanted o (yielded ops a.tmps) = true then Oper.wp P o a w K Q else E := by
  have hw : Region.wanted o (yielded ops a.tmps) = true := by simp [Region.wanted, hgd]
  rw [if_pos hw]
  exact wp_append_any w s x t ho base e i z size bytes ht hi hz hsize hby hzs hsz v n xs hs hown B A m c news hx hr h1 h63 hbytes hbase h
end

theorem ints_reads {w : World} {a : Option Addr} {zs : List Int} (h : IsInts w a zs) : Reads w w.heap.size 1 a zs.length (zs.map (Value.int .i64)) := by
  refine ⟨by simp, fun hn => ?_⟩
  rcases h with rfl | ⟨g, o, rfl, hc⟩
  · simp at hn
  · refine ⟨⟨g, o, none⟩, rfl, World.block_lt_of_cell? w _ (hc 0 hn), fun j u hu => ?_⟩
    have hj : j < zs.length := by
      rcases Nat.lt_or_ge j zs.length with h | h
      · exact h
      · rw [List.getElem?_eq_none (by simpa using h)] at hu; cases hu
    rw [List.getElem?_map, List.getElem?_eq_getElem hj] at hu
    have := hc j hj
    rw [List.getD_eq_getElem?_getD, List.getElem?_eq_getElem hj] at this
    simp only [Option.map_some, Option.some.injEq] at hu
    rw [← hu]
    have e : (⟨g, o, none⟩ : Addr).add j = ⟨g, o + j, none⟩ := by
      unfold Addr.add
      by_cases h : j = 0
      · subst h; simp
      · simp [h]
    rw [e]; exact this
/-- a list of numbers behind a row of the call's own -/
theorem wp_joinI {ops : Array Oper} {rest : List Oper} {o : Oper} {a : Act} {Q : Exit → Act → World → Prop} (hgd : o.guard = none) (s x : Operand)
    (ho : o.op = .call { callee := .builtin .append, args := #[s, x], argTypes := #[27, 27] })
    {W : World} {base : Nat} {v : Value} {zs ys : List Int} {A : Option Addr} {m c : Nat} (hs : a.eval s = v) (hown : OwnI W base v zs) (hx : a.eval x = .slice A m c) (hm : m = ys.length) (hy : IsInts W A ys) (hn : zs.length + ys.length ≤ 1048576) (hbase : base ≤ W.heap.size)
    (h : ∀ v' w', OwnI w' base v' (zs ++ ys) → W.grownBy w' v.ownBlock → (v'.ownBlock = v.ownBlock ∨ v'.ownBlock = some W.heap.size) → wpList Try.prog ops Q rest (a.put o.dst v') w') :
    wpList Try.prog ops Q (o :: rest) a W := by
  subst hm
  obtain ⟨i0, hi, hz0, hz1, hz2⟩ := info_parts infoInt
  refine wpList_append_any (P := Try.prog) W hgd s x 27 ho base 3 i0 (.int .i64 0) 1 8 Try.underlying27 hi hz0 hz1 hz2 rfl (by decide) v zs.length _ hs hown W.heap.size A ys.length c _ hx (ints_reads hy) (fun u hu => by obtain ⟨z, _, rfl⟩ := List.mem_map.1 hu; rfl) (by unfold maxLen; omega) (by omega) hbase ?_
  intro v' w' h1 h2 h3
  refine h v' w' ?_ h2 h3
  unfold OwnI; rw [List.length_append, List.map_append]; exact h1
end Go.Proofs.Ytclpbbhhaclgbaa
namespace Go.Proofs.Ytclpbbhhaclgbaa
open Go.RowKit

/-- the cells of holdings -/
def valsH (hs : List Hd) : List Value := (flatH hs).map (Value.int .i64)
theorem vals_len (hs : List Hd) : (valsH hs).length = hs.length * 3 := by unfold valsH; rw [List.length_map, flat_len]
theorem vals_append (a b : List Hd) : valsH (a ++ b) = valsH a ++ valsH b := by unfold valsH; rw [flat_append, List.map_append]
theorem vals_take (hs : List Hd) (k : Nat) : (valsH hs).take (k * 3) = valsH (hs.take k) := by unfold valsH; rw [← List.map_take, flat_take]
theorem vals_drop (hs : List Hd) (k : Nat) : (valsH hs).drop (k * 3) = valsH (hs.drop k) := by unfold valsH; rw [← List.map_drop, flat_drop]
theorem vals_one (hs : List Hd) : ∀ u ∈ valsH hs, u.oneCell' = true := fun u hu => by
  unfold valsH at hu
  obtain ⟨z, _, rfl⟩ := List.mem_map.1 hu
  rfl
theorem vals_get {hs : List Hd} {k : Nat} (h : k < hs.length) : (valsH hs)[k * 3]? = some (.int .i64 (hs.getD k hd0).1) ∧ (valsH hs)[k * 3 + 1]? = some (.int .i64 (hs.getD k hd0).2.1) ∧ (valsH hs)[k * 3 + 2]? = some (.int .i64 (hs.getD k hd0).2.2) := by
  obtain ⟨a, b, c⟩ := flat_get hs k h
  have hl := flat_len hs
  have get : ∀ j, j < (flatH hs).length → (valsH hs)[j]? = some (.int .i64 ((flatH hs).getD j 0)) := fun j hj => by
    unfold valsH
    rw [List.getElem?_map, List.getElem?_eq_getElem hj, List.getD_eq_getElem?_getD, List.getElem?_eq_getElem hj]; rfl
  rw [get _ (by omega), get _ (by omega), get _ (by omega), a, b, c]
  exact ⟨rfl, rfl, rfl⟩
theorem add_off (g o j : Nat) : (⟨g, o, none⟩ : Addr).add j = ⟨g, o + j, none⟩ := by
  unfold Addr.add
  by_cases h : j = 0
  · subst h; simp
  · simp [h]
theorem hs_reads {w : World} {a : Option Addr} {hs : List Hd} (h : IsHs w a hs) : Reads w w.heap.size 3 a hs.length (valsH hs) := by
  refine ⟨vals_len hs, fun hn => ?_⟩
  rcases h with rfl | ⟨g, o, rfl, hc⟩
  · exact absurd hn (by simp)
  · refine ⟨⟨g, o, none⟩, rfl, ?_, fun j u hu => ?_⟩
    · exact World.block_lt_of_cell? w _ (hc 0 hn).1
    · have hl := vals_len hs
      have hj : j < (valsH hs).length := by
        rcases Nat.lt_or_ge j (valsH hs).length with h | h
        · exact h
        · rw [List.getElem?_eq_none h] at hu; cases hu
      have hk : j / 3 < hs.length := by omega
      obtain ⟨c0, c1, c2⟩ := hc _ hk
      obtain ⟨v0, v1, v2⟩ := vals_get hk
      have hm : j % 3 = 0 ∨ j % 3 = 1 ∨ j % 3 = 2 := by omega
      rw [add_off]
      rcases hm with e | e | e
      · have ej : j = j / 3 * 3 := by omega
        rw [ej] at hu ⊢; rw [v0] at hu; rw [c0, ← hu]
      · have ej : j = j / 3 * 3 + 1 := by omega
        rw [ej] at hu ⊢; rw [v1] at hu; rw [← Nat.add_assoc, c1, ← hu]
      · have ej : j = j / 3 * 3 + 2 := by omega
        rw [ej] at hu ⊢; rw [v2] at hu; rw [← Nat.add_assoc, c2, ← hu]
theorem reads_hs {w : World} {B : Nat} {a : Option Addr} {hs : List Hd} (h : Reads w B 3 a hs.length (valsH hs)) (hsp : ∀ ad, a = some ad → ad.spot = none) : IsHs w a hs := by
  by_cases hn : hs = []
  · exact .inl hn
  · obtain ⟨ad, rfl, _, hc⟩ := h.2 (by cases hs with | nil => exact absurd rfl hn | cons _ _ => simp)
    obtain ⟨g, o, sp⟩ := ad
    obtain rfl : sp = none := hsp _ rfl
    refine .inr ⟨g, o, rfl, fun i hi => ?_⟩
    obtain ⟨v0, v1, v2⟩ := vals_get hi
    have e0 := hc _ _ v0
    have e1 := hc _ _ v1
    have e2 := hc _ _ v2
    rw [add_off] at e0 e1 e2
    rw [← Nat.add_assoc] at e1 e2
    exact ⟨e0, e1, e2⟩
theorem infoH : (Try.prog.info? 58).map (fun i => (i.zero, i.size, i.bytes)) = some (some (.agg #[.int .i64 0, .int .i64 0, .int .i64 0]), 3, 24) := by kernel_rfl
/-- a row of the call's own that holds hs -/
def OwnH (w : World) (base : Nat) (v : Value) (hs : List Hd) : Prop := w.ownsRow base 58 3 v hs.length (valsH hs)
theorem own_hs {w : World} {base : Nat} {v : Value} {hs : List Hd} (h : OwnH w base v hs) : ∃ (b : Option Addr) (cap : Nat), v = .slice b hs.length cap ∧ IsHs w b hs := by
  have h0 := h
  rcases h.2 with ⟨hv, hn⟩ | ⟨g, cap, cur, hv, _⟩
  · exact ⟨none, 0, by rw [hv, hn], .inl (List.eq_nil_of_length_eq_zero hn)⟩
  · subst hv
    exact ⟨some ⟨g, 0, none⟩, cap, rfl, reads_hs (Reads.of_own h0) (fun ad e => by injection e with e; rw [← e])⟩
theorem hs_take {w : World} {g o : Nat} {hs : List Hd} (hc : ∀ i, i < hs.length → w.cell? ⟨g, o + i * 3, none⟩ = some (.int .i64 (hs.getD i hd0).1) ∧ w.cell? ⟨g, o + i * 3 + 1, none⟩ = some (.int .i64 (hs.getD i hd0).2.1) ∧ w.cell? ⟨g, o + i * 3 + 2, none⟩ = some (.int .i64 (hs.getD i hd0).2.2)) (k : Nat) : IsHs w (some ⟨g, o, none⟩) (hs.take k) := by
  refine .inr ⟨g, o, rfl, fun i hi => ?_⟩
  rw [List.length_take] at hi
  have e : (hs.take k).getD i hd0 = hs.getD i hd0 := by
    rw [List.getD_eq_getElem?_getD, List.getD_eq_getElem?_getD, List.getElem?_take_of_lt (by omega)]
  rw [e]; exact hc i (by omega)
/-- where a holding that is built anew lies -/
theorem new_cells (w : World) (cs : List Value) (t : TypeId) : ∀ j u, cs[j]? = some u → (w.alloc (.cells cs.toArray t)).cell? ((⟨w.heap.size, 0, none⟩ : Addr).add j) = some u := fun j u hu => by
  rw [add_off, Nat.zero_add, (Blk.new w t cs.toArray).cell j, ← hu]; simp
end Go.Proofs.Ytclpbbhhaclgbaa
namespace Go.Proofs.Ytclpbbhhaclgbaa
open Go.RowKit

/-- block g begins with the numbers zs, and may be written -/
def Flat (w : World) (g : Nat) (t : TypeId) (zs : List Int) : Prop := ∃ cs : Array Value, w.heap[g]? = some (.cells cs t (0, 0)) ∧ ∀ j, j < zs.length → cs[j]? = some (.int .i64 (zs.getD j 0))
theorem Flat.cell {w : World} {g : Nat} {t : TypeId} {zs : List Int} (h : Flat w g t zs) {j : Nat} (hj : j < zs.length) : w.cell? ⟨g, j, none⟩ = some (.int .i64 (zs.getD j 0)) := by
  obtain ⟨cs, hb, hc⟩ := h
  rw [cell_of_row w g j cs t (0, 0) hb]; exact hc j hj
theorem Flat.frozen {w : World} {g : Nat} {t : TypeId} {zs : List Int} (h : Flat w g t zs) (j : Nat) : w.frozen? ⟨g, j, none⟩ = false := by
  obtain ⟨cs, hb, hc⟩ := h
  simp [World.frozen?, hb]
theorem Flat.lt {w : World} {g : Nat} {t : TypeId} {zs : List Int} (h : Flat w g t zs) : g < w.heap.size := by
  obtain ⟨cs, hb, hc⟩ := h
  exact Blk.lt hb
theorem Flat.of_block {w w' : World} {g : Nat} {t : TypeId} {zs : List Int} (h : Flat w g t zs) (e : w'.heap[g]? = w.heap[g]?) : Flat w' g t zs := by
  obtain ⟨cs, hb, hc⟩ := h
  exact ⟨cs, e.trans hb, hc⟩
theorem Flat.next {w w' : World} {g : Nat} {t : TypeId} {zs : List Int} (h : Flat w g t zs) (hb : Below w.heap.size w w') : Flat w' g t zs := h.of_block (hb.block g h.lt)
theorem Flat.apart {w w' : World} {g g' : Nat} {t : TypeId} {zs : List Int} (h : Flat w g t zs) (hG : w.grownBy w' (some g')) (hne : g ≠ g') : Flat w' g t zs :=
  h.of_block (hG.block g h.lt (fun e => by injection e with e; exact hne e))
theorem getD_setF {zs : List Int} {i j : Nat} {z : Int} (hi : i < zs.length) : (zs.set i z).getD j 0 = if j = i then z else zs.getD j 0 := by
  rw [List.getD_eq_getElem?_getD, List.getD_eq_getElem?_getD, List.getElem?_set]
  by_cases e : i = j
  · subst e; rw [if_pos rfl, if_pos hi, if_pos rfl]; rfl
  · rw [if_neg e, if_neg (fun c => e c.symm)]
theorem Flat.set_ {w : World} {g : Nat} {t : TypeId} {zs : List Int} (h : Flat w g t zs) {i : Nat} (hi : i < zs.length) (z : Int) : Flat (w.setCell ⟨g, i, none⟩ (.int .i64 z)) g t (zs.set i z) := by
  obtain ⟨cs, hb, hc⟩ := h
  refine ⟨cs.setIfInBounds i (.int .i64 z), Blk.set_ hb i _, fun j hj => ?_⟩
  rw [List.length_set] at hj
  have hs : i < cs.size := by
    have := hc i hi
    rcases Nat.lt_or_ge i cs.size with h | h
    · exact h
    · rw [Array.getElem?_eq_none h] at this; cases this
  rw [Array.getElem?_setIfInBounds, getD_setF hi]
  by_cases e : i = j
  · subst e; rw [if_pos rfl, if_pos hs, if_pos rfl]
  · rw [if_neg e, if_neg (fun c => e c.symm)]; exact hc j hj
theorem Flat.row {w : World} {g : Nat} {t : TypeId} {n : Nat} {f : Nat → Value} {zs : List Int} (h : w.rowIs g t n f) (hl : zs.length ≤ n) (hf : ∀ j, j < zs.length → f j = .int .i64 (zs.getD j 0)) : Flat w g t zs := by
  obtain ⟨cs, hb, _, hc⟩ := h
  exact ⟨cs, hb, fun j hj => by rw [hc j (by omega), hf j hj]⟩
/-- a row of the call's own that begins with numbers: nil, or a block -/
theorem Flat.own {w : World} {base : Nat} {e : TypeId} {size n : Nat} {v : Value} {zs : List Int} (h : w.ownsRow base e size v n (zs.map (Value.int .i64))) : (v = .slice none 0 0 ∧ n = 0) ∨ ∃ g cap, v = .slice (some ⟨g, 0, none⟩) n cap ∧ base ≤ g ∧ Flat w g e zs ∧ n ≤ cap := by
  rcases h.2 with h0 | ⟨g, cap, cur, rfl, hg, hb, hnc, _, _, ht⟩
  · exact .inl h0
  · refine .inr ⟨g, cap, rfl, hg, ⟨cur, hb, fun j hj => ?_⟩, hnc⟩
    have hl := h.1
    rw [List.length_map] at hl
    have : (List.take (n * size) cur.toList)[j]? = some (.int .i64 (zs.getD j 0)) := by
      rw [ht, List.getElem?_map, List.getElem?_eq_getElem hj, List.getD_eq_getElem?_getD, List.getElem?_eq_getElem hj]; rfl
    rw [List.getElem?_take_of_lt (by omega)] at this
    simpa using this
theorem Flat.hs {w : World} {g : Nat} {t : TypeId} {hs : List Hd} (h : Flat w g t (flatH hs)) : IsHs w (some ⟨g, 0, none⟩) hs := by
  refine .inr ⟨g, 0, rfl, fun i hi => ?_⟩
  obtain ⟨a, b, c⟩ := flat_get hs i hi
  have hl := flat_len hs
  rw [Nat.zero_add]
  exact ⟨by rw [h.cell (by omega), a], by rw [h.cell (by omega), b], by rw [h.cell (by omega), c]⟩

end Go.Proofs.Ytclpbbhhaclgbaa
namespace Go.Proofs.Ytclpbbhhaclgbaa
open Go.RowKit

/-- the reader in block b, which has read at most P numbers -/
def Rd (w : World) (b : Nat) (P : Int) : Prop := ∃ (a : Option Addr) (len cap k : Nat),
  w.cell? ⟨b, 0, none⟩ = some (.slice a len cap) ∧ w.cell? ⟨b, 1, none⟩ = some (.int .i64 (k : Int)) ∧ (k : Int) ≤ P ∧ w.frozen? ⟨b, 1, none⟩ = false ∧ len ≤ 2000 ∧
  (len = 0 ∨ ∃ ab off, a = some ⟨ab, off, none⟩ ∧ ab < b ∧ ∀ i, i < len → ∃ x : Int, w.cell? ⟨ab, off + i, none⟩ = some (.int .u8 x) ∧ 0 ≤ x ∧ x < 256)

theorem g_alloc {a w : World} {row : Option Nat} (h : a.grownBy w row) (o : Obj) : a.grownBy (w.alloc o) row :=
  ⟨h.os, h.tape, h.output, Nat.le_trans h.size (by simp), fun i hi hne => (Below.heap_alloc w o i (Nat.lt_of_lt_of_le hi h.size)).trans (h.block i hi hne)⟩
theorem g_set {a w : World} {g : Nat} (h : a.grownBy w (some g)) {p : Addr} (hp : p.block = g ∨ a.heap.size ≤ p.block) (u : Value) : a.grownBy (w.setCell p u) (some g) :=
  ⟨h.os, h.tape, h.output, by simpa [World.setCell] using h.size, fun i hi hne => (Below.heap_setCell w p u i (by
    rintro rfl
    rcases hp with hp | hp
    · exact hne (by rw [hp])
    · omega)).trans (h.block i hi hne)⟩
theorem g_below {a w : World} (h : Below a.heap.size a w) (row : Option Nat) : a.grownBy w row := ⟨h.os, h.tape, h.output, h.size, fun i hi _ => h.block i hi⟩
theorem g_drewN {a w : World} {row : Option Nat} (h : a.grownBy w row) (n : Nat) : a.grownBy (w.drewN n) row := ⟨h.os, h.tape, h.output, h.size, h.block⟩
theorem g_trans {a b c : World} {g : Nat} (h : a.grownBy b (some g)) (k : b.grownBy c (some g)) : a.grownBy c (some g) :=
  ⟨k.os.trans h.os, k.tape.trans h.tape, k.output.trans h.output, Nat.le_trans h.size k.size, fun i hi hne => (k.block i (Nat.lt_of_lt_of_le hi h.size) hne).trans (h.block i hi hne)⟩
theorem g_cell {a w : World} {g : Nat} (h : a.grownBy w (some g)) {b o : Nat} (hb : b < a.heap.size) (hne : b ≠ g) : w.cell? ⟨b, o, none⟩ = a.cell? ⟨b, o, none⟩ :=
  World.cell?_of_block (h.block b hb (fun e => hne (by injection e)))
theorem g_frozen {a w : World} {g : Nat} (h : a.grownBy w (some g)) {b o : Nat} (hb : b < a.heap.size) (hne : b ≠ g) : w.frozen? ⟨b, o, none⟩ = a.frozen? ⟨b, o, none⟩ :=
  World.frozen?_of_block (h.block b hb (fun e => hne (by injection e)))

theorem so {w : World} {a c : Addr} {v u : Value} (h : a ≠ c) (hu : w.cell? c = some u) : (w.setCell a v).cell? c = some u := by
  rw [World.cell?_setCell_other]
  · exact hu
  · exact h
theorem ofInt_i64 (a : Nat) (ha : a < 9223372036854775808) : (BitVec.ofInt 64 (a : Int)).toNat = a := by
  rw [BitVec.ofInt_natCast, BitVec.toNat_ofNat]; exact Nat.mod_eq_of_lt (by omega)
theorem i64_xor_nat (a b : Nat) (ha : a < 9223372036854775808) (hb : b < 9223372036854775808) : bits .xor .i64 (a : Int) (b : Int) = ((a ^^^ b : Nat) : Int) := by
  have hx : a ^^^ b < 2 ^ 63 := Nat.xor_lt_two_pow (by omega) (by omega)
  show IntKind.i64.wrap ((BitVec.ofInt 64 (a : Int) ^^^ BitVec.ofInt 64 (b : Int)).toNat : Int) = _
  rw [BitVec.toNat_xor, ofInt_i64 a ha, ofInt_i64 b hb, IntKind.wrap_i64]
  omega
theorem mixv (X n : Int) (h0 : 0 ≤ X) (h1 : X ≤ 1000000000) (hn : 1 ≤ n) : 0 ≤ (bits .xor .i64 X (X / 64)).tmod n ∧ (bits .xor .i64 X (X / 64)).tmod n < n := by
  obtain ⟨a, rfl⟩ := Int.eq_ofNat_of_zero_le h0
  have e : ((a : Int) / 64) = ((a / 64 : Nat) : Int) := by omega
  rw [e, i64_xor_nat a (a / 64) (by omega) (by omega)]
  rw [Int.tmod_eq_emod_of_nonneg (by omega)]
  exact ⟨Int.emod_nonneg _ (by omega), Int.emod_lt_of_pos _ (by omega)⟩
theorem pick_low (b len cap k : Nat) (a : Option Addr) (n : Int) (w : World) (_h0 : w.cell? ⟨b, 0, none⟩ = some (.slice a len cap)) (h1 : w.cell? ⟨b, 1, none⟩ = some (.int .i64 (k : Int))) (hf : w.frozen? ⟨b, 1, none⟩ = false) (hk : (k : Int) ≤ 100000) (hn : n < 1) :
    Calls Try.prog 57 #[.pointer (some ⟨b, 0, none⟩), .int .i64 n] w fun e w' => e = .returned (.int .i64 0) ∧ w.setCell ⟨b, 1, none⟩ (.int .i64 ((k : Int) + 1)) = w' := by
  go_enter Try.func57, Try.ntmps57
  go_wp2
  go_ret
  exact ⟨rfl, rfl⟩
theorem pick_none (b cap k : Nat) (a : Option Addr) (n : Int) (w : World) (h0 : w.cell? ⟨b, 0, none⟩ = some (.slice a 0 cap)) (h1 : w.cell? ⟨b, 1, none⟩ = some (.int .i64 (k : Int))) (hf : w.frozen? ⟨b, 1, none⟩ = false) (hk : (k : Int) ≤ 100000) (hn : 1 ≤ n) :
    Calls Try.prog 57 #[.pointer (some ⟨b, 0, none⟩), .int .i64 n] w fun e w' => e = .returned (.int .i64 0) ∧ w.setCell ⟨b, 1, none⟩ (.int .i64 ((k : Int) + 1)) = w' := by
  have e1 : (⟨b, 1, none⟩ : Addr) ≠ ⟨b, 0, none⟩ := by simp
  have c0 := so (v := .int .i64 ((k : Int) + 1)) e1 h0
  go_enter Try.func57, Try.ntmps57
  go_wp2
  go_ret
  exact ⟨rfl, rfl⟩
theorem pick_byte (b len cap k ab off : Nat) (x n : Int) (w : World) (h0 : w.cell? ⟨b, 0, none⟩ = some (.slice (some ⟨ab, off, none⟩) len cap)) (h1 : w.cell? ⟨b, 1, none⟩ = some (.int .i64 (k : Int))) (hf : w.frozen? ⟨b, 1, none⟩ = false) (hl : len ≤ 2000) (hn : 1 ≤ n) (hlt : k < len)
    (hne : ab ≠ b) (hx : w.cell? ⟨ab, off + k, none⟩ = some (.int .u8 x)) (hx0 : 0 ≤ x) (hx1 : x < 256) :
    Calls Try.prog 57 #[.pointer (some ⟨b, 0, none⟩), .int .i64 n] w fun e w' => e = .returned (.int .i64 (x % n)) ∧ w.setCell ⟨b, 1, none⟩ (.int .i64 ((k : Int) + 1)) = w' := by
  have e1 : (⟨b, 1, none⟩ : Addr) ≠ ⟨b, 0, none⟩ := by simp
  have e2 : (⟨b, 1, none⟩ : Addr) ≠ ⟨ab, off + k, none⟩ := by intro h; injection h with h; exact hne h.symm
  have c0 := so (v := .int .i64 ((k : Int) + 1)) e1 h0
  have c2 := so (v := .int .i64 ((k : Int) + 1)) e2 hx
  have hl0 : ((len : Int) == 0) = false := by simp; omega
  clear e2
  go_enter Try.func57, Try.ntmps57
  go_wp2
  go_ret
  exact ⟨rfl, rfl⟩
theorem pick_mix (b len cap k ab off : Nat) (x y n : Int) (w : World) (h0 : w.cell? ⟨b, 0, none⟩ = some (.slice (some ⟨ab, off, none⟩) len cap)) (h1 : w.cell? ⟨b, 1, none⟩ = some (.int .i64 (k : Int))) (hf : w.frozen? ⟨b, 1, none⟩ = false) (hl : len ≤ 2000) (hl1 : 1 ≤ len) (hk : k ≤ 100000) (hn : 1 ≤ n) (hlt : ¬ k < len)
    (hne : ab ≠ b) (hx : w.cell? ⟨ab, off + k % len, none⟩ = some (.int .u8 x)) (hx0 : 0 ≤ x) (hx1 : x < 256) (hy : w.cell? ⟨ab, off + (k * 7 + 3) % len, none⟩ = some (.int .u8 y)) (hy0 : 0 ≤ y) (hy1 : y < 256) :
    Calls Try.prog 57 #[.pointer (some ⟨b, 0, none⟩), .int .i64 n] w fun e w' => (∃ v : Int, e = .returned (.int .i64 v) ∧ 0 ≤ v ∧ v < n) ∧ ∃ m, (w.setCell ⟨b, 1, none⟩ (.int .i64 ((k : Int) + 1))).drewN m = w' := by
  have e1 : (⟨b, 1, none⟩ : Addr) ≠ ⟨b, 0, none⟩ := by simp
  have e2 : (⟨b, 1, none⟩ : Addr) ≠ ⟨ab, off + k % len, none⟩ := by intro h; injection h with h; exact hne h.symm
  have e3 : (⟨b, 1, none⟩ : Addr) ≠ ⟨ab, off + (k * 7 + 3) % len, none⟩ := by intro h; injection h with h; exact hne h.symm
  have c0 := so (v := .int .i64 ((k : Int) + 1)) e1 h0
  have c2 := so (v := .int .i64 ((k : Int) + 1)) e2 hx
  have c3 := so (v := .int .i64 ((k : Int) + 1)) e3 hy
  have hl0 : ((len : Int) == 0) = false := by simp; omega
  have hk' : ¬ (k : Int) < (len : Int) := by omega
  have m1 : (k : Int) % (len : Int) < (len : Int) := Int.emod_lt_of_pos _ (by omega)
  have m2 : 0 ≤ (k : Int) % (len : Int) := Int.emod_nonneg _ (by omega)
  have m3 : ((k : Int) * 7 + 3) % (len : Int) < (len : Int) := Int.emod_lt_of_pos _ (by omega)
  have m4 : 0 ≤ ((k : Int) * 7 + 3) % (len : Int) := Int.emod_nonneg _ (by omega)
  have q1 : 0 ≤ (k : Int) / (len : Int) := Int.ediv_nonneg (by omega) (by omega)
  have q2 : (k : Int) / (len : Int) ≤ 100000 := Int.le_trans (Int.ediv_le_self _ (by omega)) (by omega)
  clear e2 e3
  go_enter Try.func57, Try.ntmps57
  go_wp2_with fail
  go_quiet (fail)
  go_wp2
  go_ret
  exact ⟨⟨_, rfl, mixv _ n (by omega) (by omega) hn⟩, _, rfl⟩

/-- what pick leaves -/
def Picked (w : World) (b : Nat) (P n : Int) (e : Ending) (w' : World) : Prop := ∃ v : Nat, e = .returned (.int .i64 (v : Int)) ∧ ((v : Int) < n ∨ v = 0) ∧ Rd w' b P ∧ w.grownBy w' (some b)
theorem picked {w : World} {b : Nat} {P n v : Int} {w' : World} (h0 : 0 ≤ v) (h1 : v < n ∨ v = 0) (h2 : Rd w' b P) (h3 : w.grownBy w' (some b)) : Picked w b P n (.returned (.int .i64 v)) w' :=
  ⟨v.toNat, by rw [Int.toNat_of_nonneg h0], by omega, h2, h3⟩

theorem rd_step {w : World} {b : Nat} {P : Int} {a : Option Addr} {len cap k : Nat} (m : Nat) (h0 : w.cell? ⟨b, 0, none⟩ = some (.slice a len cap)) (h1 : w.cell? ⟨b, 1, none⟩ = some (.int .i64 (k : Int))) (hk : (k : Int) ≤ P) (hf : w.frozen? ⟨b, 1, none⟩ = false) (hl : len ≤ 2000)
    (hr : len = 0 ∨ ∃ ab off, a = some ⟨ab, off, none⟩ ∧ ab < b ∧ ∀ i, i < len → ∃ x : Int, w.cell? ⟨ab, off + i, none⟩ = some (.int .u8 x) ∧ 0 ≤ x ∧ x < 256) :
    Rd ((w.setCell ⟨b, 1, none⟩ (.int .i64 ((k : Int) + 1))).drewN m) b (P + 1) ∧ w.grownBy ((w.setCell ⟨b, 1, none⟩ (.int .i64 ((k : Int) + 1))).drewN m) (some b) := by
  have hg : w.grownBy ((w.setCell ⟨b, 1, none⟩ (.int .i64 ((k : Int) + 1))).drewN m) (some b) := g_drewN (g_set (g_below (Below.refl _ _) _) (.inl rfl) _) m
  refine ⟨⟨a, len, cap, k + 1, ?_, ?_, by omega, ?_, hl, ?_⟩, hg⟩
  · show (w.setCell ⟨b, 1, none⟩ (.int .i64 ((k : Int) + 1))).cell? _ = _
    exact so (by simp) h0
  · show (w.setCell ⟨b, 1, none⟩ (.int .i64 ((k : Int) + 1))).cell? _ = _
    rw [World.cell?_setCell_same' _ _ _ (by rw [h1]; rfl)]; simp
  · show (w.setCell ⟨b, 1, none⟩ (.int .i64 ((k : Int) + 1))).frozen? _ = _
    simp [go_sem, hf]
  · rcases hr with hr | ⟨ab, off, ha, hlt, hx⟩
    · exact .inl hr
    · refine .inr ⟨ab, off, ha, hlt, fun i hi => ?_⟩
      obtain ⟨x, hc, h2⟩ := hx i hi
      refine ⟨x, ?_, h2⟩
      show (w.setCell ⟨b, 1, none⟩ (.int .i64 ((k : Int) + 1))).cell? _ = _
      exact so (by intro h; injection h with h; omega) hc
theorem pick_any (b : Nat) (P n : Int) (w : World) (h : Rd w b P) (hP : P ≤ 100000) :
    Calls Try.prog 57 #[.pointer (some ⟨b, 0, none⟩), .int .i64 n] w (Picked w b (P + 1) n) := by
  obtain ⟨a, len, cap, k, h0, h1, hk, hf, hl, hr⟩ := h
  by_cases hn : n < 1
  · refine (pick_low b len cap k a n w h0 h1 hf (by omega) hn).mono ?_
    rintro e w' ⟨rfl, rfl⟩
    exact picked (by omega) (.inr rfl) (rd_step 0 h0 h1 hk hf hl hr).1 (rd_step 0 h0 h1 hk hf hl hr).2
  · by_cases hz : len = 0
    · subst hz
      refine (pick_none b cap k a n w h0 h1 hf (by omega) (by omega)).mono ?_
      rintro e w' ⟨rfl, rfl⟩
      exact picked (by omega) (.inr rfl) (rd_step 0 h0 h1 hk hf hl hr).1 (rd_step 0 h0 h1 hk hf hl hr).2
    · have hr' := hr
      rcases hr' with hr' | ⟨ab, off, rfl, hlt, hx⟩
      · exact absurd hr' hz
      · by_cases hkl : k < len
        · obtain ⟨x, hc, x0, x1⟩ := hx k hkl
          refine (pick_byte b len cap k ab off x n w h0 h1 hf hl (by omega) hkl (by omega) hc x0 x1).mono ?_
          rintro e w' ⟨rfl, rfl⟩
          exact picked (Int.emod_nonneg _ (by omega)) (.inl (Int.emod_lt_of_pos _ (by omega))) (rd_step 0 h0 h1 hk hf hl hr).1 (rd_step 0 h0 h1 hk hf hl hr).2
        · obtain ⟨x, hc, x0, x1⟩ := hx (k % len) (Nat.mod_lt _ (by omega))
          obtain ⟨y, hd, y0, y1⟩ := hx ((k * 7 + 3) % len) (Nat.mod_lt _ (by omega))
          refine (pick_mix b len cap k ab off x y n w h0 h1 hf hl (by omega) (by omega) (by omega) hkl (by omega) hc x0 x1 hd y0 y1).mono ?_
          rintro e w' ⟨⟨v, rfl, v0, v1⟩, m, rfl⟩
          exact picked v0 (.inl v1) (rd_step m h0 h1 hk hf hl hr).1 (rd_step m h0 h1 hk hf hl hr).2

/-- what one of a list leaves -/
def Oned (w : World) (b : Nat) (P lo hi : Int) (e : Ending) (w' : World) : Prop := ∃ v : Int, e = .returned (.int .i64 v) ∧ lo ≤ v ∧ v ≤ hi ∧ Rd w' b P ∧ w.grownBy w' (some b)
theorem one_any (b g n cap : Nat) (P lo hi : Int) (w : World) (h : Rd w b P) (hP : P ≤ 100000) (hgb : g ≠ b) (hgs : g < w.heap.size) (hn : 1 ≤ n) (hn' : n ≤ 1000)
    (hc : ∀ i, i < n → ∃ z : Int, w.cell? ⟨g, i, none⟩ = some (.int .i64 z) ∧ lo ≤ z ∧ z ≤ hi) :
    Calls Try.prog 53 #[.pointer (some ⟨b, 0, none⟩), .slice (some ⟨g, 0, none⟩) n cap] w (Oned w b (P + 1) lo hi) := by
  go_enter Try.func53, Try.ntmps53
  go_wp2_with fail
  refine (pick_any b P n _ h hP).mono ?_
  rintro e w' ⟨v, rfl, hv, hR, hG⟩
  have hvn : v < n := by omega
  have hvi : (v : Int) < (n : Int) := by omega
  obtain ⟨z, hz, z0, z1⟩ := hc v hvn
  have hz' := (g_cell (o := v) hG hgs hgb).trans hz
  clear hz hc hv
  go_wp2
  go_ret
  exact ⟨z, rfl, z0, z1, hR, hG⟩

/-- newReader -/
def Made (w : World) (e : Ending) (w' : World) : Prop := e = .returned (.pointer (some ⟨w.heap.size, 0, none⟩)) ∧ Rd w' w.heap.size 0 ∧ Below w.heap.size w w' ∧ w.heap.size < w'.heap.size
theorem byte_bd {z : Int} (h : (Lit.int .u8 z).wf = true) : 0 ≤ z ∧ z < 256 := by
  have := bounds_u8 h
  omega
theorem rd_new (w : World) (a : Option Addr) (len cap : Nat) (t : TypeId) (hl : len ≤ 2000)
    (hr : len = 0 ∨ ∃ ab off, a = some ⟨ab, off, none⟩ ∧ ab < w.heap.size ∧ ∀ i, i < len → ∃ x : Int, w.cell? ⟨ab, off + i, none⟩ = some (.int .u8 x) ∧ 0 ≤ x ∧ x < 256) :
    Made w (.returned (.pointer (some ⟨w.heap.size, 0, none⟩))) (w.alloc (.cells #[.slice a len cap, .int .i64 0] t)) := by
  have hb : Below w.heap.size w (w.alloc (.cells #[.slice a len cap, .int .i64 0] t)) := (Below.refl _ _).alloc (Nat.le_refl _) _
  refine ⟨rfl, ⟨a, len, cap, 0, by simp [go_sem], by simp [go_sem], by simp, by simp [go_sem], hl, ?_⟩, hb, by simp⟩
  rcases hr with hr | ⟨ab, off, ha, hlt, hx⟩
  · exact .inl hr
  · refine .inr ⟨ab, off, ha, hlt, fun i hi => ?_⟩
    obtain ⟨x, hc, h2⟩ := hx i hi
    exact ⟨x, (hb.cell (p := ⟨ab, off + i, none⟩) hlt).trans hc, h2⟩
theorem row_bytes {w : World} {x : Addr} {len cap : Nat} {zs : List Int} (hl : len ≤ cap) (hz : zs.length = cap) (hcell : ∀ i, i < zs.length → w.cell? (x.add i) = some (.int .u8 (zs.getD i 0))) (hwz : ∀ n ∈ zs, (Lit.int .u8 n).wf = true) :
    len = 0 ∨ ∃ ab off, some x = some (⟨ab, off, none⟩ : Addr) ∧ ab < w.heap.size ∧ ∀ i, i < len → ∃ y : Int, w.cell? ⟨ab, off + i, none⟩ = some (.int .u8 y) ∧ 0 ≤ y ∧ y < 256 := by
  by_cases h0 : len = 0
  · exact .inl h0
  · obtain ⟨b, off, spot⟩ := x
    have hc := hcell 0 (by omega)
    have hspot : spot = none := by simpa [Addr.add] using World.cell?_spot hc
    subst hspot
    have hlt : b < w.heap.size := World.block_lt_of_cell? w _ hc
    refine .inr ⟨b, off, rfl, hlt, fun i hi => ?_⟩
    have hci := hcell i (by omega)
    have hci' : w.cell? ⟨b, off + i, none⟩ = some (.int .u8 (zs.getD i 0)) := by
      by_cases hi0 : i = 0
      · subst hi0; simpa [Addr.add] using hci
      · simpa [Addr.add, hi0] using hci
    exact ⟨zs.getD i 0, hci', byte_bd (hwz _ (by rw [List.getD_eq_getElem?_getD, List.getElem?_eq_getElem (by omega)]; simp))⟩
theorem newReader_any (a : Option Addr) (len cap : Nat) (zs : List Int) (w : World) (h : IsRow .u8 w a len cap zs) :
    Calls Try.prog 51 #[.slice a len cap] w (Made w) := by
  rcases h with ⟨rfl, rfl, rfl, rfl⟩ | ⟨x, rfl, hl, hm, hz, hcell, hwz⟩
  · go_enter Try.func51, Try.ntmps51
    go_wp2
    go_ret
    exact rd_new w none 0 0 _ (by omega) (.inl rfl)
  · have hr := row_bytes hl hz hcell hwz
    clear hcell hwz
    unfold maxLen at hm
    by_cases h2 : (2000 : Int) < (len : Int)
    · have hr2 : 2000 = 0 ∨ ∃ ab off, some x = some (⟨ab, off, none⟩ : Addr) ∧ ab < w.heap.size ∧ ∀ i, i < 2000 → ∃ y : Int, w.cell? ⟨ab, off + i, none⟩ = some (.int .u8 y) ∧ 0 ≤ y ∧ y < 256 := by
        rcases hr with hr | ⟨ab, off, ha, hb, hx⟩
        · omega
        · exact .inr ⟨ab, off, ha, hb, fun i hi => hx i (by omega)⟩
      have HR := Lib.hid hr2
      clear hr hr2
      go_enter Try.func51, Try.ntmps51
      go_wp2
      go_ret
      exact rd_new w (some x) 2000 cap _ (by omega) HR.out
    · have HR := Lib.hid hr
      clear hr
      go_enter Try.func51, Try.ntmps51
      go_wp2
      go_ret
      exact rd_new w (some x) len cap _ (by omega) HR.out

/-- a block of two cells that may be written -/
def Cell2 (w : World) (g : Nat) (x y : Value) : Prop := w.cell? ⟨g, 0, none⟩ = some x ∧ w.cell? ⟨g, 1, none⟩ = some y ∧ w.frozen? ⟨g, 0, none⟩ = false ∧ w.frozen? ⟨g, 1, none⟩ = false ∧ g < w.heap.size
theorem c2_new (w : World) (x y : Value) (t : TypeId) : Cell2 (w.alloc (.cells #[x, y] t)) w.heap.size x y := by
  refine ⟨?_, ?_, ?_, ?_, ?_⟩ <;> simp [go_sem]
theorem c2_below {w w' : World} {g : Nat} {x y : Value} (h : Cell2 w g x y) (hB : Below w.heap.size w w') : Cell2 w' g x y := by
  obtain ⟨h0, h1, h2, h3, h4⟩ := h
  exact ⟨(hB.cell (p := ⟨g, 0, none⟩) h4).trans h0, (hB.cell (p := ⟨g, 1, none⟩) h4).trans h1, (hB.frozen (p := ⟨g, 0, none⟩) h4).trans h2, (hB.frozen (p := ⟨g, 1, none⟩) h4).trans h3, Nat.lt_of_lt_of_le h4 hB.size⟩
theorem c2_alloc {w : World} {g : Nat} {x y : Value} (h : Cell2 w g x y) (o : Obj) : Cell2 (w.alloc o) g x y := c2_below h ((Below.refl _ _).alloc (Nat.le_refl _) _)
theorem c2_grown {w w' : World} {g b : Nat} {x y : Value} (h : Cell2 w g x y) (hG : w.grownBy w' (some b)) (hne : g ≠ b) : Cell2 w' g x y := by
  obtain ⟨h0, h1, h2, h3, h4⟩ := h
  exact ⟨(g_cell hG h4 hne).trans h0, (g_cell hG h4 hne).trans h1, (g_frozen hG h4 hne).trans h2, (g_frozen hG h4 hne).trans h3, Nat.lt_of_lt_of_le h4 hG.size⟩
theorem rd_below {w w' : World} {b B : Nat} {P : Int} (h : Rd w b P) (hb : b < B) (hB : Below B w w') : Rd w' b P := by
  obtain ⟨a, len, cap, k, h0, h1, hk, hf, hl, hr⟩ := h
  refine ⟨a, len, cap, k, (hB.cell (p := ⟨b, 0, none⟩) hb).trans h0, (hB.cell (p := ⟨b, 1, none⟩) hb).trans h1, hk, (hB.frozen (p := ⟨b, 1, none⟩) hb).trans hf, hl, ?_⟩
  rcases hr with hr | ⟨ab, off, ha, hlt, hx⟩
  · exact .inl hr
  · refine .inr ⟨ab, off, ha, hlt, fun i hi => ?_⟩
    obtain ⟨x, hc, h2⟩ := hx i hi
    exact ⟨x, (hB.cell (p := ⟨ab, off + i, none⟩) (Nat.lt_trans hlt hb)).trans hc, h2⟩
theorem rd_end {w w4 wf : World} {b : Nat} {P P' : Int} (hb : b < w.heap.size) (hR : Rd w4 b P') (hP : P' = P) (hG : w.grownBy w4 (some b)) (hB : Below w.heap.size w4 wf) : Rd wf b P ∧ w.grownBy wf (some b) :=
  ⟨hP ▸ rd_below hR hb hB, ⟨hB.os.trans hG.os, hB.tape.trans hG.tape, hB.output.trans hG.output, Nat.le_trans hG.size hB.size, fun i hi hne => (hB.block i hi).trans (hG.block i hi hne)⟩⟩
theorem rd_up {w : World} {b : Nat} {P P' : Int} (h : Rd w b P) (hP : P ≤ P') : Rd w b P' := by
  obtain ⟨a, len, cap, k, h0, h1, hk, hr⟩ := h
  exact ⟨a, len, cap, k, h0, h1, by omega, hr⟩
theorem rd_alloc {w : World} {b : Nat} {P : Int} (h : Rd w b P) (hb : b < w.heap.size) (o : Obj) : Rd (w.alloc o) b P := rd_below h hb ((Below.refl _ _).alloc (Nat.le_refl _) _)
theorem g_new {w w' : World} {b : Nat} {o : Obj} (h : (w.alloc o).grownBy w' (some b)) : w.grownBy w' (some b) := g_trans (World.grownBy_alloc w o _) h
theorem lit_cells (w : World) (zs : List Int) (t : TypeId) (lo hi : Int) (hz : ∀ z ∈ zs, lo ≤ z ∧ z ≤ hi) :
    ∀ i, i < zs.length → ∃ z : Int, (w.alloc (.cells (zs.map (Value.int .i64)).toArray t)).cell? ⟨w.heap.size, i, none⟩ = some (.int .i64 z) ∧ lo ≤ z ∧ z ≤ hi := by
  intro i hi'
  refine ⟨zs[i], ?_, hz _ (List.getElem_mem hi')⟩
  simp [World.cell?_alloc_new, hi']
/-- one of a list that has just been made -/
theorem one_lit (b n : Nat) (P lo hi : Int) (zs : List Int) (t : TypeId) (w : World) (h : Rd w b P) (hP : P ≤ 100000) (hb : b < w.heap.size) (hl : zs.length = n) (hn : 1 ≤ n) (hn' : n ≤ 1000) (hz : ∀ z ∈ zs, lo ≤ z ∧ z ≤ hi) :
    Calls Try.prog 53 #[.pointer (some ⟨b, 0, none⟩), .slice (some ⟨w.heap.size, 0, none⟩) n n] (w.alloc (.cells (zs.map (Value.int .i64)).toArray t)) (Oned w b (P + 1) lo hi) := by
  refine (one_any b w.heap.size n n P lo hi _ (rd_alloc h hb _) hP (by omega) (by simp) hn hn' (by rw [← hl]; exact lit_cells w zs t lo hi hz)).mono ?_
  rintro e w' ⟨v, rfl, v0, v1, hR, hG⟩
  exact ⟨v, rfl, v0, v1, hR, g_new hG⟩
theorem row_below {k : IntKind} {w w' : World} {a : Option Addr} {len cap : Nat} {zs : List Int} (h : IsRow k w a len cap zs) (hB : Below w.heap.size w w') : IsRow k w' a len cap zs := by
  rcases h with h | ⟨x, ha, hl, hm, hz, hcell, hwz⟩
  · exact .inl h
  · refine .inr ⟨x, ha, hl, hm, hz, fun i hi => ?_, hwz⟩
    have hc := hcell i hi
    exact (hB.cell (World.block_lt_of_cell? w _ hc)).trans hc
theorem below_grown {w w1 w2 : World} {b : Nat} (h : Below w.heap.size w w1) (hG : w1.grownBy w2 (some b)) (hb : w.heap.size ≤ b) : Below w.heap.size w w2 :=
  ⟨hG.os.trans h.os, hG.tape.trans h.tape, hG.output.trans h.output, Nat.le_trans h.size hG.size, fun i hi => (hG.block i (Nat.lt_of_lt_of_le hi h.size) (fun e => by injection e with e; omega)).trans (h.block i hi)⟩
end Go.Proofs.Ytclpbbhhaclgbaa
namespace Go.Proofs.Ytclpbbhhaclgbaa
open Go.RowKit

/-- what someFrac and anyFrac leave: a fraction whose numbers are small -/
def FracOf (w : World) (b : Nat) (P L K : Int) (e : Ending) (w' : World) : Prop := ∃ x y : Int, e = .returned (.agg #[.int .i64 x, .int .i64 y]) ∧ L ≤ x ∧ x ≤ K ∧ L ≤ y ∧ y ≤ K ∧ Rd w' b P ∧ w.grownBy w' (some b)

set_option maxHeartbeats 1000000 in
theorem someFrac_any (b : Nat) (P : Int) (w : World) (h : Rd w b P) (hP : P ≤ 90000) (hb : b < w.heap.size) :
    Calls Try.prog 83 #[.pointer (some ⟨b, 0, none⟩)] w (FracOf w b (P + 3) 0 1000000) := by
  go_enter Try.func83, Try.ntmps83
  go_wp2_with fail
  refine (pick_any b P 60 _ (rd_alloc h hb _) (by omega)).mono ?_
  rintro e w1 ⟨v, rfl, hv, hR1, hG1⟩
  have k1 := c2_grown (c2_new w (.int .i64 0) (.int .i64 0) _) hG1 (by omega)
  have hG1 := g_new hG1
  have hb1 := Nat.lt_of_lt_of_le hb hG1.size
  have hv60 : (v : Int) < 60 := by omega
  clear hv
  go_wp2_with fail
  refine (one_lit b 10 (P + 1) 1 97 [2, 3, 4, 6, 8, 12, 5, 1, 97, 1 + (v : Int)] _ w1 hR1 (by omega) hb1 rfl (by omega) (by omega) (by simp; omega)).mono ?_
  rintro e w2 ⟨d, rfl, d0, d1, hR2, hG2⟩
  have k2 := c2_grown k1 hG2 (by omega)
  have hb2 := Nat.lt_of_lt_of_le hb1 hG2.size
  go_wp2_with fail
  refine (pick_any b (P + 1 + 1) (d + 1) _ hR2 (by omega)).mono ?_
  rintro e w3 ⟨u, rfl, hu, hR3, hG3⟩
  have k3 := c2_grown k2 hG3 (by omega)
  have hb3 := Nat.lt_of_lt_of_le hb2 hG3.size
  have hud : (u : Int) ≤ d := by omega
  clear hu
  go_wp2_with fail
  refine (sred u d _ (by omega) (by omega) (by omega) (by omega)).mono ?_
  rintro e w4 ⟨rfl, hB4⟩
  obtain ⟨c0, c1, f0, f1, hz⟩ := c2_below k3 hB4
  have hR4 := rd_below hR3 hb3 hB4
  have hG4 : w.grownBy w4 (some b) := g_trans (g_trans (g_trans hG1 hG2) hG3) (g_below hB4 _)
  obtain ⟨⟨q1, q2⟩, q3, q4⟩ := Wsh.red_bd (u := (u : Int)) (d := d) (Wsh.redB u d) (by omega) hud d0 (by omega)
  clear hR1 hR2 hR3 hG1 hG2 hG3 hB4 k1 k2 k3
  go_wp2_with fail
  refine bodyPost_ret (v := .agg #[.int .i64 (Wsh.qn (Wsh.redB u d) (Wsh.rn u d)), .int .i64 (Wsh.qn (Wsh.redB u d) (Wsh.rd u d))]) (by simp [results, Try.results83, go_sem, c0, c1, hz]) rfl ⟨_, _, rfl, by omega, by omega, by omega, by omega, rd_end hb hR4 (by omega) hG4 (by go_grown)⟩

set_option maxHeartbeats 1000000 in
theorem anyFrac_any (b : Nat) (P : Int) (w : World) (h : Rd w b P) (hP : P ≤ 80000) (hb : b < w.heap.size) :
    Calls Try.prog 80 #[.pointer (some ⟨b, 0, none⟩)] w (FracOf w b (P + 5) (-2000000) 2000000) := by
  go_enter Try.func80, Try.ntmps80
  go_wp2_with fail
  refine (someFrac_any b P _ (rd_alloc h hb _) (by omega) (by simp; omega)).mono ?_
  rintro e w1 ⟨x, y, rfl, x0, x1, y0, y1, hR1, hG1⟩
  have k1 := c2_grown (c2_new w (.int .i64 0) (.int .i64 0) _) hG1 (by omega)
  have hG1 := g_new hG1
  have hb1 := Nat.lt_of_lt_of_le hb hG1.size
  go_wp2_with fail
  have z1 := k1.2.2.2.2
  refine (pick_any b (P + 3) 16 _ (rd_alloc hR1 hb1 _) (by omega)).mono ?_
  rintro e w2 ⟨v, rfl, hv, hR2, hG2⟩
  have j2 := c2_grown (c2_new w1 (.int .i64 x) (.int .i64 y) _) hG2 (by omega)
  have k2 := c2_grown (c2_alloc k1 _) hG2 (by omega)
  have hG2 := g_new hG2
  have hb2 := Nat.lt_of_lt_of_le hb1 hG2.size
  have hGG := g_trans hG1 hG2
  clear hR1 k1
  have zne : w.heap.size ≠ w1.heap.size := by omega
  by_cases v0 : v = 0
  · have e0 : ((v : Int) == 0) = true := by simp [v0]
    clear v0 hv
    go_wp2_with fail
    refine (one_lit b 4 (P + 3 + 1) (-1) 10001 [0, 10001, 10000, -1] _ w2 hR2 (by omega) hb2 rfl (by omega) (by omega) (by simp)).mono ?_
    rintro e w3 ⟨d, rfl, d0, d1, hR3, hG3⟩
    obtain ⟨j0, j1, i0, i1, jz⟩ := c2_grown j2 hG3 (by omega)
    obtain ⟨c0, c1, f0, f1, hz⟩ := c2_grown k2 hG3 (by omega)
    have hG := g_trans hGG hG3
    clear hR2 hGG hG1 hG2 hG3 j2 k2
    go_wp2_with fail
    refine bodyPost_ret (v := .agg #[.int .i64 x, .int .i64 d]) (by simp [results, Try.results80, go_sem, c0, c1]) rfl ⟨_, _, rfl, by omega, by omega, by omega, by omega, rd_end hb hR3 (by omega) hG (by go_grown)⟩
  · have e0 : ((v : Int) == 0) = false := by simp; omega
    by_cases v1 : v = 1
    · have e1 : ((v : Int) == 1) = true := by simp [v1]
      clear v0 v1 hv
      obtain ⟨p0, p1, q0, q1, pz⟩ := j2
      go_wp2_with fail
      refine (one_lit b 3 (P + 3 + 1) (-1000000) 1000001 [-1, y + 1, 2] _ w2 hR2 (by omega) hb2 rfl (by omega) (by omega) (by simp; omega)).mono ?_
      rintro e w3 ⟨d, rfl, d0, d1, hR3, hG3⟩
      obtain ⟨j0, j1, i0, i1, jz⟩ := c2_grown (⟨p0, p1, q0, q1, pz⟩ : Cell2 w2 w1.heap.size (.int .i64 x) (.int .i64 y)) hG3 (by omega)
      obtain ⟨c0, c1, f0, f1, hz⟩ := c2_grown k2 hG3 (by omega)
      have hG := g_trans hGG hG3
      clear hR2 hGG hG1 hG2 hG3 k2 p0 p1 q0 q1
      go_wp2_with fail
      refine bodyPost_ret (v := .agg #[.int .i64 d, .int .i64 y]) (by simp [results, Try.results80, go_sem, c0, c1]) rfl ⟨_, _, rfl, by omega, by omega, by omega, by omega, rd_end hb hR3 (by omega) hG (by go_grown)⟩
    · have e1 : ((v : Int) == 1) = false := by simp; omega
      clear v0 v1 hv
      obtain ⟨j0, j1, i0, i1, jz⟩ := j2
      obtain ⟨c0, c1, f0, f1, hz⟩ := k2
      clear hG1 hG2
      have hR3 : Rd w2 b (P + 5) := rd_up hR2 (by omega)
      go_wp2_with fail
      refine bodyPost_ret (v := .agg #[.int .i64 x, .int .i64 y]) (by simp [results, Try.results80, go_sem, c0, c1]) rfl ⟨_, _, rfl, by omega, by omega, by omega, by omega, rd_end hb hR3 rfl hGG (by go_grown)⟩
end Go.Proofs.Ytclpbbhhaclgbaa
namespace Go.Proofs.Ytclpbbhhaclgbaa
open Go.RowKit
set_option linter.unusedSimpArgs false
set_option linter.unusedVariables false

/-- what someLedger leaves -/
def SomeHd (w : World) (b : Nat) (P : Int) (e : Ending) (w' : World) : Prop := ∃ (v : Value) (k : Nat) (hs : List Hd), e = .returned v ∧ 1 ≤ k ∧ k ≤ 6 ∧ w'.ownsRow w.heap.size 58 3 v k (valsH hs) ∧ hs.length = k ∧ Rd w' b (P + 13) ∧ w.grownBy w' (some b)

theorem sum_low : ∀ {zs : List Int}, (∀ z ∈ zs, 1 ≤ z ∧ z ≤ 6) → (zs.length : Int) ≤ zs.sum ∧ zs.sum ≤ 6 * (zs.length : Int) := by
  intro zs
  induction zs with
  | nil => intro _; exact ⟨Int.le_refl _, Int.le_refl _⟩
  | cons h t ih =>
    intro hz
    have a := hz h (List.mem_cons_self ..)
    have b := ih fun z hz' => hz z (List.mem_cons_of_mem _ hz')
    rw [List.sum_cons, List.length_cons]
    omega
theorem keepOne {W wq v : World} {u : Value} {q : Addr} (hb : Below W.heap.size W wq) (h : W.cell? q = some u ∧ Below v.heap.size v W) : wq.cell? q = some u ∧ Below v.heap.size v wq :=
  ⟨(hb.cell (World.block_lt_of_cell? W _ h.1)).trans h.1, bel_tr h.2 hb⟩
theorem c2_set {w : World} {g : Nat} {x y : Value} (h : Cell2 w g x y) (x' y' : Value) : Cell2 ((w.setCell ⟨g, 0, none⟩ x').setCell ⟨g, 1, none⟩ y') g x' y' := by
  obtain ⟨c0, c1, f0, f1, hz⟩ := h
  have hne : (⟨g, 1, none⟩ : Addr) ≠ ⟨g, 0, none⟩ := by intro e; injection e with _ e; cases e
  have hne2 : (⟨g, 0, none⟩ : Addr) ≠ ⟨g, 1, none⟩ := fun e => hne e.symm
  refine ⟨so hne ?_, ?_, ?_, ?_, by simpa [World.setCell] using hz⟩
  · exact World.cell?_setCell_same' _ _ _ (by rw [c0]; rfl)
  · exact World.cell?_setCell_same' _ _ _ (by rw [so hne2 c1]; rfl)
  · rw [World.frozen?_setCell, World.frozen?_setCell]; exact f0
  · rw [World.frozen?_setCell, World.frozen?_setCell]; exact f1
theorem keepOut {W v : World} {g h k : Nat} {u x : Value} (hb : Below v.heap.size v (W.setCell ⟨g, 0, none⟩ x)) (hg : v.heap.size ≤ g) (hgy : Value) (hne : h ≠ g) (hc : W.cell? ⟨h, k, none⟩ = some u) : ((W.setCell ⟨g, 0, none⟩ x).setCell ⟨g, 1, none⟩ hgy).cell? ⟨h, k, none⟩ = some u ∧ Below v.heap.size v ((W.setCell ⟨g, 0, none⟩ x).setCell ⟨g, 1, none⟩ hgy) :=
  ⟨so (fun e => hne (by injection e with e; exact e.symm)) (so (fun e => hne (by injection e with e; exact e.symm)) hc), hb.setCell hg _⟩
theorem own_lowerR {w : World} {base base' n size : Nat} {t : TypeId} {v : Value} {xs : List Value} (h : w.ownsRow base t size v n xs) (hb : base' ≤ base) : w.ownsRow base' t size v n xs := by
  obtain ⟨hl, h | ⟨g, cap, cur, hv, hg, r⟩⟩ := h
  · exact ⟨hl, .inl h⟩
  · exact ⟨hl, .inr ⟨g, cap, cur, hv, Nat.le_trans hb hg, r⟩⟩
theorem own_ints0 {w : World} {base g cp k : Nat} {zs : List Int} (h : w.ownsRow base 3 1 (.slice (some ⟨g, 0, none⟩) k cp) k (zs.map (Value.int .i64))) : IsInts w (some ⟨g, 0, none⟩) zs := by
  refine .inr ⟨g, 0, rfl, fun i hi => ?_⟩
  have := h.cells (g := g) rfl i (.int .i64 (zs.getD i 0)) (by rw [List.getElem?_map, List.getD_eq_getElem?_getD, List.getElem?_eq_getElem hi]; rfl)
  rwa [add_off] at this

set_option maxRecDepth 100000 in
set_option maxHeartbeats 4000000 in
theorem someHd (b : Nat) (P : Int) (w : World) (h : Rd w b P) (hP : P ≤ 80000) (hb : b < w.heap.size) :
    Calls Try.prog 79 #[.pointer (some ⟨b, 0, none⟩)] w (SomeHd w b P) := by
  obtain ⟨i0, hi, hz0, hz1, hz2⟩ := info_parts infoInt
  obtain ⟨j0, hj, hy0, hy1, hy2⟩ := info_parts infoH
  go_enter Try.func79, Try.ntmps79
  go_wp2_with fail
  refine (one_lit b 6 P 1 6 [3, 4, 2, 5, 1, 6] _ w h (by omega) hb rfl (by omega) (by omega) (by simp)).mono ?_
  rintro e w0 ⟨m, rfl, m0, m1, hR0, hG0⟩
  have hb0 := Nat.lt_of_lt_of_le hb hG0.size
  go_wp2_with fail
  have hO : (w0.alloc (.cells #[] 3)).ownsRow w0.heap.size 3 1 (.slice (some ⟨w0.heap.size, 0, none⟩) 0 0) 0 [] := ⟨by simp, .inr ⟨w0.heap.size, 0, #[], rfl, Nat.le_refl _, Go.Deep.blk_alloc_new _ _, Nat.le_refl _, by unfold maxLen; omega, rfl, rfl⟩⟩
  have HO := Lib.hid hO
  have HR := Lib.hid (rd_alloc hR0 hb0 (.cells #[] 3))
  have HG := Lib.hid (g_trans hG0 (World.grownBy_alloc w0 (.cells #[] 3) (some b)))
  have hsz0 := hG0.size
  clear hO h hR0 hG0
  have hs1 : w0.heap.size < (w0.alloc (.cells #[] 3)).heap.size := by simp
  generalize w0.alloc (.cells #[] 3) = w1 at *
  have hb1 : b < w1.heap.size := by have := HG.out.size; omega
  go_loopw [4, 5] (fun v l wr => ∃ (k : Nat) (xs : List Int), (k : Int) ≤ m ∧ l = .int .i64 (k : Int) ∧ wr.ownsRow w0.heap.size 3 1 v k (xs.map (Value.int .i64)) ∧ xs.length = k ∧ (∀ z ∈ xs, 1 ≤ z ∧ z ≤ 6) ∧ Rd wr b (P + 1 + (k : Int)) ∧ w.grownBy wr (some b) ∧ w0.heap.size < wr.heap.size) (fun _ l _ => (m - intOf l).toNat)
  case atStart => exact ⟨0, [], by omega, rfl, HO.out, rfl, by simp, by simpa using HR.out, HG.out, hs1⟩
  case round =>
    obtain ⟨k, xs, hk, rfl, hown, hxl, hxs, hR, hG, hsz⟩ := hrel
    by_cases hlt : (k : Int) < m
    · have HX := Lib.hid (And.intro hxl hxs)
      have HO := Lib.hid hown
      have HG := Lib.hid hG
      have HR := Lib.hid hR
      clear hown hxl hxs hG hR
      go_wp2_with fail
      have hbr : b < wr.heap.size := by omega
      refine (pick_any b _ 6 _ HR.out (by omega)).mono ?_
      rintro e w3 ⟨v, rfl, hv, hR3, hG3⟩
      have hb3 := Nat.lt_of_lt_of_le hbr hG3.size
      have hv6 : (v : Int) < 6 := by omega
      clear hv
      have hO3 := HO.out.kept hG3 (.inr (by intro h; have := (HO.out.lt b h).1; omega))
      have G3 := g_trans HG.out hG3
      have hs3 : w0.heap.size < w3.heap.size := by have := hG3.size; omega
      have hs3' : w.heap.size ≤ w3.heap.size := G3.size
      have wv : IntKind.i64.wrap (1 + (v : Int)) = 1 + (v : Int) := by rw [IntKind.wrap_i64]; omega
      have HO3 := Lib.hid hO3
      have HR3 := Lib.hid hR3
      have HG3 := Lib.hid G3
      clear hG3 HO HR HG hO3 hR3 G3
      go_wp2_with (first | (at_builtin; refine wpList_append_own _ rfl (.tmp 20) (.tmp 24) 27 rfl w0.heap.size 3 i0 (.int .i64 0) 1 8 Try.underlying27 hi hz0 hz1 hz2 rfl (by decide) _ _ _ rfl (HO3.out.alloc _) ⟨w3.heap.size, 0, none⟩ 1 1 [.int .i64 (1 + (v : Int))] rfl rfl (cell_one_new _ _ _) (fun x hx => by simp at hx; subst hx; rfl) (by unfold maxLen; omega) (by omega) (by simp; omega) ?_; intro v' w5 hown' hgrow5 hnil5))
      have hB5 : Below w.heap.size w3 w5 := ((Below.refl _ w3).alloc hs3' _).grown hgrow5 (by simp; omega) (fun q hq => by have := (HO3.out.lt q hq).1; omega)
      clear hgrow5 hnil5
      obtain ⟨R5, G5⟩ := rd_end (P := P + 1 + ((k + 1 : Nat) : Int)) hb (rd_up (P' := P + 1 + ((k + 1 : Nat) : Int)) HR3.out (by omega)) rfl HG3.out hB5
      refine ⟨⟨k + 1, xs ++ [1 + (v : Int)], by omega, by go_num, ?_, by simp [HX.out.1], fun z hz => ?_, R5, G5, by have := hB5.size; omega⟩, by simp [intOf]; omega⟩
      · rw [List.map_append]; exact hown'
      · rcases List.mem_append.1 hz with h | h
        · exact HX.out.2 z h
        · simp at h; omega
    · have e : (k : Int) = m := by omega
      subst hxl
      subst e
      obtain ⟨g, cp, rfl, lg, ltg⟩ := hown.form (by omega)
      have HW := Lib.hid hown
      have HXB := Lib.hid (fun z hz => (by have := hxs z hz; omega : (-1000000 : Int) ≤ z ∧ z ≤ 1000000))
      have HX6 := Lib.hid hxs
      have hsum := sum_low hxs
      have hbA : b < wr.heap.size := by omega
      have GA := Lib.hid hG
      have RA := Lib.hid hR
      clear hown hxs HO HR HG hG hR
      go_wp2_with fail
      have hOh : (wr.alloc (.cells #[] 58)).ownsRow wr.heap.size 58 3 (.slice (some ⟨wr.heap.size, 0, none⟩) 0 0) 0 [] := ⟨by simp, .inr ⟨wr.heap.size, 0, #[], rfl, Nat.le_refl _, Go.Deep.blk_alloc_new _ _, Nat.le_refl _, by unfold maxLen; omega, rfl, rfl⟩⟩
      have hRh := rd_alloc RA.out hbA (.cells #[] 58)
      have hGh := World.grownBy_alloc wr (.cells #[] 58) (some b)
      have hsh : wr.heap.size < (wr.alloc (.cells #[] 58)).heap.size := by simp
      obtain ⟨A, hAe⟩ : ∃ A, A = wr := ⟨_, rfl⟩
      subst hAe
      generalize A.alloc (.cells #[] 58) = A1 at hOh hRh hGh hsh ⊢
      go_loopw [6, 7, 8] (fun v ow l wr => ∃ (k2 : Nat) (hs : List Hd) (o : Int), k2 ≤ xs.length ∧ l = .int .i64 (k2 : Int) ∧ ow = .int .i64 o ∧ 0 ≤ o ∧ o ≤ 3 * (k2 : Int) ∧ wr.ownsRow A.heap.size 58 3 v k2 (valsH hs) ∧ hs.length = k2 ∧ Rd wr b (P + 1 + (xs.length : Int) + (k2 : Int)) ∧ A.grownBy wr (some b) ∧ A.heap.size < wr.heap.size) (fun _ _ l _ => ((xs.length : Int) - intOf l).toNat)
      case atStart => exact ⟨0, [], 0, by omega, rfl, rfl, by omega, by omega, hOh, rfl, by simpa using hRh, hGh, hsh⟩
      case round =>
        clear hOh hRh hGh hsh
        obtain ⟨k2, hs, o, hk2, rfl, rfl, o0, o1, hown, hhl, hR, hG, hsz⟩ := hrel
        by_cases hlt2 : k2 < xs.length
        · have HHL := Lib.hid hhl
          have HO := Lib.hid hown
          have HG := Lib.hid hG
          have HR := Lib.hid hR
          clear hown hhl hG hR
          have w1o : IntKind.i64.wrap (o + 1) = o + 1 := by rw [IntKind.wrap_i64]; omega
          go_wp2_with fail
          have hbr : b < wr.heap.size := by omega
          refine (pick_any b _ 3 _ HR.out (by omega)).mono ?_
          rintro e w3 ⟨v3, rfl, hv, hR3, hG3⟩
          have hb3 := Nat.lt_of_lt_of_le hbr hG3.size
          have hv6 : (v3 : Int) < 3 := by omega
          clear hv
          have HO3 := Lib.hid (HO.out.kept hG3 (.inr (by intro h; have := (HO.out.lt b h).1; omega)))
          have HG3 := Lib.hid (g_trans HG.out hG3)
          have HR3 := Lib.hid hR3
          have hs3 : A.heap.size < w3.heap.size := by have := hG3.size; omega
          have hW3 := HW.out.kept HG3.out (.inr (by simp [Value.ownBlock]; omega))
          have HIW := Lib.hid (own_ints0 hW3)
          have c0 : w3.cell? ⟨g, k2, none⟩ = some (.int .i64 (xs.getD k2 0)) := by
            have := hW3.cells (g := g) rfl k2 (.int .i64 (xs.getD k2 0)) (by rw [List.getElem?_map, List.getD_eq_getElem?_getD, List.getElem?_eq_getElem hlt2]; rfl)
            rwa [add_off, Nat.zero_add] at this
          have hx6 := HX6.out (xs.getD k2 0) (by rw [List.getD_eq_getElem?_getD, List.getElem?_eq_getElem hlt2]; exact List.getElem_mem _)
          generalize xs.getD k2 0 = x at c0 hx6
          have w2o : IntKind.i64.wrap (o + 1 + (v3 : Int)) = o + 1 + (v3 : Int) := by rw [IntKind.wrap_i64]; omega
          have k0 : (0 : Int) ≤ (k2 : Int) := by omega
          have k1 : (k2 : Int) < (xs.length : Int) := by omega
          clear hG3 hR3 HO HR HG hW3
          go_wp2_with fail
          refine wp_region_held_drew (S := (fun w' => w'.cell? ⟨g, k2, none⟩ = some (.int .i64 x) ∧ Below w3.heap.size w3 w')) (by kernel_rfl) ?_ (fun hHeld => ?_)
          · exact ⟨c0, (Below.refl _ _).drew⟩
          refine wpAnyH_take (i := 0) (oi := ?oot1) (v := ?vvt1) ?hit1 (by kernel_rfl) ?h3t1 ?h4t1 ?h5t1 ?h6t1 (by assumption) ?h8t1
          case hit1 => (simp only [List.getElem?_toArray, List.getElem?_cons_succ, List.getElem?_cons_zero]; rfl)
          case h3t1 => kernel_rfl
          case h4t1 => kernel_rfl
          case h6t1 => (refine Or.inl ⟨by rfl, ?_⟩; intro w hSw; (try dsimp only at hSw); (go_simp <;> with_reducible rfl))
          case h5t1 => exact fun _ _ _ h => h
          try simp only [Act.put, List.setIfInBounds_toArray, List.set_cons_zero, List.set_cons_succ]
          refine wpAnyH_take (i := 1) (oi := ?oot2) (v := ?vvt2) ?hit2 (by kernel_rfl) ?h3t2 ?h4t2 ?h5t2 ?h6t2 (by assumption) ?h8t2
          case hit2 => (simp only [List.getElem?_toArray, List.getElem?_cons_succ, List.getElem?_cons_zero]; rfl)
          case h3t2 => kernel_rfl
          case h4t2 => kernel_rfl
          case h6t2 => (refine Or.inl ⟨by rfl, ?_⟩; intro w hSw; (try dsimp only at hSw); (go_simp <;> with_reducible rfl))
          case h5t2 => exact fun _ _ _ h => h
          try simp only [Act.put, List.setIfInBounds_toArray, List.set_cons_zero, List.set_cons_succ]
          refine wpAnyH_take (i := 2) (oi := ?oot3) (v := ?vvt3) ?hit3 (by kernel_rfl) ?h3t3 ?h4t3 ?h5t3 ?h6t3 (by assumption) ?h8t3
          case hit3 => (simp only [List.getElem?_toArray, List.getElem?_cons_succ, List.getElem?_cons_zero]; rfl)
          case h3t3 => kernel_rfl
          case h4t3 => kernel_rfl
          case h6t3 => (refine Or.inl ⟨by rfl, ?_⟩; intro w hSw; (try dsimp only at hSw); (go_simp <;> with_reducible rfl))
          case h5t3 => exact fun _ _ _ h => h
          try simp only [Act.put, List.setIfInBounds_toArray, List.set_cons_zero, List.set_cons_succ]
          refine wpAnyH_take (i := 3) (oi := ?oot4) (v := ?vvt4) ?hit4 (by kernel_rfl) ?h3t4 ?h4t4 ?h5t4 ?h6t4 (by assumption) ?h8t4
          case hit4 => (simp only [List.getElem?_toArray, List.getElem?_cons_succ, List.getElem?_cons_zero]; rfl)
          case h3t4 => kernel_rfl
          case h4t4 => kernel_rfl
          case h6t4 => (refine Or.inl ⟨by rfl, ?_⟩; intro w hSw; (try dsimp only at hSw); (go_simp <;> with_reducible rfl))
          case h5t4 => exact fun _ _ _ h => h
          try simp only [Act.put, List.setIfInBounds_toArray, List.set_cons_zero, List.set_cons_succ]
          refine wpAnyH_take (i := 4) (oi := ?oot5) (v := ?vvt5) ?hit5 (by kernel_rfl) ?h3t5 ?h4t5 ?h5t5 ?h6t5 (by assumption) ?h8t5
          case hit5 => (simp only [List.getElem?_toArray, List.getElem?_cons_succ, List.getElem?_cons_zero]; rfl)
          case h3t5 => kernel_rfl
          case h4t5 => kernel_rfl
          case h6t5 => (refine Or.inl ⟨by rfl, ?_⟩; intro w hSw; (try dsimp only at hSw); (go_simp <;> with_reducible rfl))
          case h5t5 => exact fun _ _ _ h => h
          try simp only [Act.put, List.setIfInBounds_toArray, List.set_cons_zero, List.set_cons_succ]
          refine wpAnyH_ready (rs := [5, 10]) (by kernel_rfl) (by simp) (AllReadyH.cons (o := ?oot6q0) ?hit6q0 (fun K hK => ?hkt6q0) (AllReadyH.cons (o := ?oot6q1) ?hit6q1 (fun K hK => ?hkt6q1) AllReadyH.nil))
          case hit6q0 => (simp only [List.getElem?_toArray, List.getElem?_cons_succ, List.getElem?_cons_zero]; rfl)
          case hit6q1 => (simp only [List.getElem?_toArray, List.getElem?_cons_succ, List.getElem?_cons_zero]; rfl)
          case hkt6q0 =>
            (rw [if_pos (by rfl)]; go_simp; refine (stotal (some ⟨g, 0, none⟩) cp xs _ (ints_below HIW.out hHeld.2) (by omega) HXB.out).mono ?_; rintro e W5 ⟨rfl, rfl⟩; go_wp2_with fail; refine hK.out _ _ (hHeld) (fun hHeld => ?_); clear hK K)
            try simp only [Act.put, List.setIfInBounds_toArray, List.set_cons_zero, List.set_cons_succ]
            refine wpAnyH_ready (rs := [6, 10]) (by kernel_rfl) (by simp) (AllReadyH.cons (o := ?oot7q0) ?hit7q0 (fun K hK => ?hkt7q0) (AllReadyH.cons (o := ?oot7q1) ?hit7q1 (fun K hK => ?hkt7q1) AllReadyH.nil))
            case hit7q0 => (simp only [List.getElem?_toArray, List.getElem?_cons_succ, List.getElem?_cons_zero]; rfl)
            case hit7q1 => (simp only [List.getElem?_toArray, List.getElem?_cons_succ, List.getElem?_cons_zero]; rfl)
            case hkt7q0 =>
              (rw [if_pos (by rfl)]; go_simp; refine (sred x xs.sum _ (by omega) (by omega) (by omega) (by omega)).mono ?_; rintro e W6 ⟨rfl, hb6⟩; obtain ⟨fn, fd, fb, hfr⟩ : ∃ n d b, frV (Wsh.redB x xs.sum) (Wsh.rn x xs.sum) (Wsh.rd x xs.sum) = .tuple #[.agg #[.int .i64 n, .int .i64 d], .bool b] := ⟨_, _, _, rfl⟩; rw [hfr]; go_wp2_with fail; refine hK.out _ _ (keepOne hb6 hHeld) (fun hHeld => ?_); clear hK K)
              try simp only [Act.put, List.setIfInBounds_toArray, List.set_cons_zero, List.set_cons_succ]
              refine wpAnyH_take (i := 7) (oi := ?oot8) (v := ?vvt8) ?hit8 (by kernel_rfl) ?h3t8 ?h4t8 ?h5t8 ?h6t8 (by assumption) ?h8t8
              case hit8 => (simp only [List.getElem?_toArray, List.getElem?_cons_succ, List.getElem?_cons_zero]; rfl)
              case h3t8 => kernel_rfl
              case h4t8 => kernel_rfl
              case h6t8 => (refine Or.inl ⟨by rfl, ?_⟩; intro w hSw; (try dsimp only at hSw); (go_simp <;> with_reducible rfl))
              case h5t8 => exact fun _ _ _ h => h
              try simp only [Act.put, List.setIfInBounds_toArray, List.set_cons_zero, List.set_cons_succ]
              refine wpAnyH_take (i := 8) (oi := ?oot9) (v := ?vvt9) ?hit9 (by kernel_rfl) ?h3t9 ?h4t9 ?h5t9 ?h6t9 (by assumption) ?h8t9
              case hit9 => (simp only [List.getElem?_toArray, List.getElem?_cons_succ, List.getElem?_cons_zero]; rfl)
              case h3t9 => kernel_rfl
              case h4t9 => kernel_rfl
              case h6t9 => (refine Or.inl ⟨by rfl, ?_⟩; intro w hSw; (try dsimp only at hSw); (go_simp <;> with_reducible rfl))
              case h5t9 => exact fun _ _ _ h => h
              try simp only [Act.put, List.setIfInBounds_toArray, List.set_cons_zero, List.set_cons_succ]
              refine wpAnyH_take (i := 9) (oi := ?oot10) (v := ?vvt10) ?hit10 (by kernel_rfl) ?h3t10 ?h4t10 ?h5t10 ?h6t10 (by assumption) ?h8t10
              case hit10 => (simp only [List.getElem?_toArray, List.getElem?_cons_succ, List.getElem?_cons_zero]; rfl)
              case h3t10 => kernel_rfl
              case h4t10 => kernel_rfl
              case h6t10 => (refine Or.inl ⟨by rfl, ?_⟩; intro w hSw; (try dsimp only at hSw); (go_simp <;> with_reducible rfl))
              case h5t10 => exact fun _ _ _ h => h
              try simp only [Act.put, List.setIfInBounds_toArray, List.set_cons_zero, List.set_cons_succ]
              refine wpAnyH_ready (rs := [10]) (by kernel_rfl) (by simp) (AllReadyH.cons (o := ?oot11) ?hit11 (fun K hK => ?hkt11) AllReadyH.nil)
              rotate_left
              case hit11 => (simp only [List.getElem?_toArray, List.getElem?_cons_succ, List.getElem?_cons_zero]; rfl)
              (rw [if_pos (by rfl)]; go_simp; have F7 := Lib.hid (c2_new W6 (.int .i64 0) (.int .i64 0) 56); have E7 := keepOne ((Below.refl _ W6).alloc (Nat.le_refl _) (.cells #[.int .i64 0, .int .i64 0] 56)) hHeld; have L6 := hHeld.2.size; generalize W6.alloc (.cells #[.int .i64 0, .int .i64 0] 56) = W7 at F7 E7 ⊢; generalize W6.heap.size = gf at F7 L6 ⊢; refine hK.out _ _ (E7) (fun hHeld => ?_); clear hK K)
              try simp only [Act.put, List.setIfInBounds_toArray, List.set_cons_zero, List.set_cons_succ]
              refine wpAnyH_ready (rs := [11]) (by kernel_rfl) (by simp) (AllReadyH.cons (o := ?oot12) ?hit12 (fun K hK => ?hkt12) AllReadyH.nil)
              rotate_left
              case hit12 => (simp only [List.getElem?_toArray, List.getElem?_cons_succ, List.getElem?_cons_zero]; rfl)
              (rw [if_pos (by rfl)]; obtain ⟨fc0, fc1, ff0, ff1, fz⟩ := F7.out; go_simp; have F8 := Lib.hid (c2_set F7.out (.int .i64 fn) (.int .i64 fd)); have E8 := keepOut (hHeld.2.setCell (p := ⟨gf, 0, none⟩) L6 (.int .i64 fn)) L6 (.int .i64 fd) (by omega) hHeld.1; generalize World.setCell (World.setCell _ ⟨gf, 0, none⟩ (.int .i64 fn)) ⟨gf, 1, none⟩ (.int .i64 fd) = W8 at F8 E8 ⊢; clear fc0 fc1 ff0 ff1 fz F7; refine hK.out _ _ (E8) (fun hHeld => ?_); clear hK K)
              try simp only [Act.put, List.setIfInBounds_toArray, List.set_cons_zero, List.set_cons_succ]
              refine wpAnyH_take (i := 12) (oi := ?oot13) (v := ?vvt13) ?hit13 (by kernel_rfl) ?h3t13 ?h4t13 ?h5t13 ?h6t13 (by assumption) ?h8t13
              case hit13 => (simp only [List.getElem?_toArray, List.getElem?_cons_succ, List.getElem?_cons_zero]; rfl)
              case h3t13 => kernel_rfl
              case h4t13 => kernel_rfl
              case h6t13 => (refine Or.inl ⟨by rfl, ?_⟩; intro w hSw; (try dsimp only at hSw); (go_simp <;> with_reducible rfl))
              case h5t13 => exact fun _ _ _ h => h
              try simp only [Act.put, List.setIfInBounds_toArray, List.set_cons_zero, List.set_cons_succ]
              refine wpAnyH_done (by kernel_rfl) ?_ _
              obtain ⟨fc0, fc1, ff0, ff1, fz⟩ := F8.out
              have hB8 : Below w3.heap.size w3 W8 := E8.2
              have hO8 : W8.ownsRow A.heap.size 58 3 u6 k2 (valsH hs) := HO3.out.kept (g_below hB8 (some b)) (.inr (by intro h; have := (HO3.out.lt b h).1; omega))
              have HO8 := Lib.hid hO8
              have HB8 := Lib.hid hB8
              have hs8 : A.heap.size ≤ W8.heap.size := by have := hB8.size; omega
              clear hHeld hO8 hB8 E8 HIW c0
              go_wp2_with (first | (at_builtin; refine wpList_append_own _ rfl (.tmp 47) (.tmp 51) _ rfl A.heap.size 58 j0 _ 3 24 Try.underlying38 hj hy0 hy1 hy2 rfl (by decide) _ _ _ rfl (HO8.out.alloc _) ⟨W8.heap.size, 0, none⟩ 1 1 [.int .i64 (o + 1 + (v3 : Int)), .int .i64 fn, .int .i64 fd] rfl rfl (new_cells W8 _ _) (vals_one [(o + 1 + (v3 : Int), fn, fd)]) (by unfold maxLen; omega) (by omega) (by simp; omega) ?_; intro v' W9 hown' hgrow9 hnil9))
              have hB9 : Below A.heap.size W8 W9 := ((Below.refl _ W8).alloc hs8 _).grown hgrow9 (by simp; omega) (fun q hq => (HO8.out.lt q hq).1)
              have hG8 := g_trans HG3.out (g_below HB8.out (some b))
              obtain ⟨R9, G9⟩ := rd_end (P := P + 1 + (xs.length : Int) + ((k2 + 1 : Nat) : Int)) hbA (rd_up (P' := P + 1 + (xs.length : Int) + ((k2 + 1 : Nat) : Int)) (rd_below HR3.out hb3 HB8.out) (by omega)) rfl hG8 hB9
              refine ⟨⟨k2 + 1, hs ++ [(o + 1 + (v3 : Int), fn, fd)], o + 1 + (v3 : Int), by omega, by go_num, rfl, by omega, by omega, ?_, by simp [HHL.out], R9, G9, by have := hB9.size; omega⟩, by simp [intOf]; omega⟩
              rw [vals_append]; exact hown'
            case hkt7q1 =>
              (rw [if_pos (by rfl)]; go_simp; have F7 : Hid (Cell2 (w3.alloc (.cells #[.int .i64 0, .int .i64 0] 56)).drew w3.heap.size (.int .i64 0) (.int .i64 0)) := c2_new w3 (.int .i64 0) (.int .i64 0) 56; have E7 : (w3.alloc (.cells #[.int .i64 0, .int .i64 0] 56)).drew.cell? ⟨g, k2, none⟩ = some (.int .i64 x) ∧ Below w3.heap.size w3 (w3.alloc (.cells #[.int .i64 0, .int .i64 0] 56)).drew := ⟨(keepOne ((Below.refl _ w3).alloc (Nat.le_refl _) (.cells #[.int .i64 0, .int .i64 0] 56)) (And.intro c0 (Below.refl _ w3))).1, ((Below.refl _ w3).alloc (Nat.le_refl _) (.cells #[.int .i64 0, .int .i64 0] 56)).drew⟩; have L6 : w3.heap.size ≤ w3.heap.size := Nat.le_refl _; generalize (w3.alloc (.cells #[.int .i64 0, .int .i64 0] 56)).drew = W7 at F7 E7 ⊢; obtain ⟨gf, hgf⟩ : ∃ gf, gf = w3.heap.size := ⟨_, rfl⟩; rw [← hgf] at F7 ⊢; replace L6 : w3.heap.size ≤ gf := (by omega); clear hgf; refine hK.out _ _ (E7) (fun hHeld => ?_); clear hK K)
              try simp only [Act.put, List.setIfInBounds_toArray, List.set_cons_zero, List.set_cons_succ]
              refine wpAnyH_ready (rs := [6]) (by kernel_rfl) (by simp) (AllReadyH.cons (o := ?oot15) ?hit15 (fun K hK => ?hkt15) AllReadyH.nil)
              rotate_left
              case hit15 => (simp only [List.getElem?_toArray, List.getElem?_cons_succ, List.getElem?_cons_zero]; rfl)
              (rw [if_pos (by rfl)]; go_simp; refine (sred x xs.sum _ (by omega) (by omega) (by omega) (by omega)).mono ?_; rintro e W6 ⟨rfl, hb6⟩; obtain ⟨fn, fd, fb, hfr⟩ : ∃ n d b, frV (Wsh.redB x xs.sum) (Wsh.rn x xs.sum) (Wsh.rd x xs.sum) = .tuple #[.agg #[.int .i64 n, .int .i64 d], .bool b] := ⟨_, _, _, rfl⟩; rw [hfr]; replace F7 := Lib.hid (c2_below F7.out hb6); go_wp2_with fail; refine hK.out _ _ (keepOne hb6 hHeld) (fun hHeld => ?_); clear hK K)
              try simp only [Act.put, List.setIfInBounds_toArray, List.set_cons_zero, List.set_cons_succ]
              refine wpAnyH_take (i := 7) (oi := ?oot16) (v := ?vvt16) ?hit16 (by kernel_rfl) ?h3t16 ?h4t16 ?h5t16 ?h6t16 (by assumption) ?h8t16
              case hit16 => (simp only [List.getElem?_toArray, List.getElem?_cons_succ, List.getElem?_cons_zero]; rfl)
              case h3t16 => kernel_rfl
              case h4t16 => kernel_rfl
              case h6t16 => (refine Or.inl ⟨by rfl, ?_⟩; intro w hSw; (try dsimp only at hSw); (go_simp <;> with_reducible rfl))
              case h5t16 => exact fun _ _ _ h => h
              try simp only [Act.put, List.setIfInBounds_toArray, List.set_cons_zero, List.set_cons_succ]
              refine wpAnyH_take (i := 8) (oi := ?oot17) (v := ?vvt17) ?hit17 (by kernel_rfl) ?h3t17 ?h4t17 ?h5t17 ?h6t17 (by assumption) ?h8t17
              case hit17 => (simp only [List.getElem?_toArray, List.getElem?_cons_succ, List.getElem?_cons_zero]; rfl)
              case h3t17 => kernel_rfl
              case h4t17 => kernel_rfl
              case h6t17 => (refine Or.inl ⟨by rfl, ?_⟩; intro w hSw; (try dsimp only at hSw); (go_simp <;> with_reducible rfl))
              case h5t17 => exact fun _ _ _ h => h
              try simp only [Act.put, List.setIfInBounds_toArray, List.set_cons_zero, List.set_cons_succ]
              refine wpAnyH_take (i := 9) (oi := ?oot18) (v := ?vvt18) ?hit18 (by kernel_rfl) ?h3t18 ?h4t18 ?h5t18 ?h6t18 (by assumption) ?h8t18
              case hit18 => (simp only [List.getElem?_toArray, List.getElem?_cons_succ, List.getElem?_cons_zero]; rfl)
              case h3t18 => kernel_rfl
              case h4t18 => kernel_rfl
              case h6t18 => (refine Or.inl ⟨by rfl, ?_⟩; intro w hSw; (try dsimp only at hSw); (go_simp <;> with_reducible rfl))
              case h5t18 => exact fun _ _ _ h => h
              try simp only [Act.put, List.setIfInBounds_toArray, List.set_cons_zero, List.set_cons_succ]
              refine wpAnyH_ready (rs := [11]) (by kernel_rfl) (by simp) (AllReadyH.cons (o := ?oot19) ?hit19 (fun K hK => ?hkt19) AllReadyH.nil)
              rotate_left
              case hit19 => (simp only [List.getElem?_toArray, List.getElem?_cons_succ, List.getElem?_cons_zero]; rfl)
              (rw [if_pos (by rfl)]; obtain ⟨fc0, fc1, ff0, ff1, fz⟩ := F7.out; go_simp; have F8 := Lib.hid (c2_set F7.out (.int .i64 fn) (.int .i64 fd)); have E8 := keepOut (hHeld.2.setCell (p := ⟨gf, 0, none⟩) L6 (.int .i64 fn)) L6 (.int .i64 fd) (by omega) hHeld.1; generalize World.setCell (World.setCell _ ⟨gf, 0, none⟩ (.int .i64 fn)) ⟨gf, 1, none⟩ (.int .i64 fd) = W8 at F8 E8 ⊢; clear fc0 fc1 ff0 ff1 fz F7; refine hK.out _ _ (E8) (fun hHeld => ?_); clear hK K)
              try simp only [Act.put, List.setIfInBounds_toArray, List.set_cons_zero, List.set_cons_succ]
              refine wpAnyH_take (i := 12) (oi := ?oot20) (v := ?vvt20) ?hit20 (by kernel_rfl) ?h3t20 ?h4t20 ?h5t20 ?h6t20 (by assumption) ?h8t20
              case hit20 => (simp only [List.getElem?_toArray, List.getElem?_cons_succ, List.getElem?_cons_zero]; rfl)
              case h3t20 => kernel_rfl
              case h4t20 => kernel_rfl
              case h6t20 => (refine Or.inl ⟨by rfl, ?_⟩; intro w hSw; (try dsimp only at hSw); (go_simp <;> with_reducible rfl))
              case h5t20 => exact fun _ _ _ h => h
              try simp only [Act.put, List.setIfInBounds_toArray, List.set_cons_zero, List.set_cons_succ]
              refine wpAnyH_done (by kernel_rfl) ?_ _
              obtain ⟨fc0, fc1, ff0, ff1, fz⟩ := F8.out
              have hB8 : Below w3.heap.size w3 W8 := E8.2
              have hO8 : W8.ownsRow A.heap.size 58 3 u6 k2 (valsH hs) := HO3.out.kept (g_below hB8 (some b)) (.inr (by intro h; have := (HO3.out.lt b h).1; omega))
              have HO8 := Lib.hid hO8
              have HB8 := Lib.hid hB8
              have hs8 : A.heap.size ≤ W8.heap.size := by have := hB8.size; omega
              clear hHeld hO8 hB8 E8 HIW c0
              go_wp2_with (first | (at_builtin; refine wpList_append_own _ rfl (.tmp 47) (.tmp 51) _ rfl A.heap.size 58 j0 _ 3 24 Try.underlying38 hj hy0 hy1 hy2 rfl (by decide) _ _ _ rfl (HO8.out.alloc _) ⟨W8.heap.size, 0, none⟩ 1 1 [.int .i64 (o + 1 + (v3 : Int)), .int .i64 fn, .int .i64 fd] rfl rfl (new_cells W8 _ _) (vals_one [(o + 1 + (v3 : Int), fn, fd)]) (by unfold maxLen; omega) (by omega) (by simp; omega) ?_; intro v' W9 hown' hgrow9 hnil9))
              have hB9 : Below A.heap.size W8 W9 := ((Below.refl _ W8).alloc hs8 _).grown hgrow9 (by simp; omega) (fun q hq => (HO8.out.lt q hq).1)
              have hG8 := g_trans HG3.out (g_below HB8.out (some b))
              obtain ⟨R9, G9⟩ := rd_end (P := P + 1 + (xs.length : Int) + ((k2 + 1 : Nat) : Int)) hbA (rd_up (P' := P + 1 + (xs.length : Int) + ((k2 + 1 : Nat) : Int)) (rd_below HR3.out hb3 HB8.out) (by omega)) rfl hG8 hB9
              refine ⟨⟨k2 + 1, hs ++ [(o + 1 + (v3 : Int), fn, fd)], o + 1 + (v3 : Int), by omega, by go_num, rfl, by omega, by omega, ?_, by simp [HHL.out], R9, G9, by have := hB9.size; omega⟩, by simp [intOf]; omega⟩
              rw [vals_append]; exact hown'
          case hkt6q1 =>
            (rw [if_pos (by rfl)]; go_simp; have F7 : Hid (Cell2 (w3.alloc (.cells #[.int .i64 0, .int .i64 0] 56)).drew w3.heap.size (.int .i64 0) (.int .i64 0)) := c2_new w3 (.int .i64 0) (.int .i64 0) 56; have E7 : (w3.alloc (.cells #[.int .i64 0, .int .i64 0] 56)).drew.cell? ⟨g, k2, none⟩ = some (.int .i64 x) ∧ Below w3.heap.size w3 (w3.alloc (.cells #[.int .i64 0, .int .i64 0] 56)).drew := ⟨(keepOne ((Below.refl _ w3).alloc (Nat.le_refl _) (.cells #[.int .i64 0, .int .i64 0] 56)) (And.intro c0 (Below.refl _ w3))).1, ((Below.refl _ w3).alloc (Nat.le_refl _) (.cells #[.int .i64 0, .int .i64 0] 56)).drew⟩; have L6 : w3.heap.size ≤ w3.heap.size := Nat.le_refl _; generalize (w3.alloc (.cells #[.int .i64 0, .int .i64 0] 56)).drew = W7 at F7 E7 ⊢; obtain ⟨gf, hgf⟩ : ∃ gf, gf = w3.heap.size := ⟨_, rfl⟩; rw [← hgf] at F7 ⊢; replace L6 : w3.heap.size ≤ gf := (by omega); clear hgf; refine hK.out _ _ (E7) (fun hHeld => ?_); clear hK K)
            try simp only [Act.put, List.setIfInBounds_toArray, List.set_cons_zero, List.set_cons_succ]
            refine wpAnyH_ready (rs := [5]) (by kernel_rfl) (by simp) (AllReadyH.cons (o := ?oot22) ?hit22 (fun K hK => ?hkt22) AllReadyH.nil)
            rotate_left
            case hit22 => (simp only [List.getElem?_toArray, List.getElem?_cons_succ, List.getElem?_cons_zero]; rfl)
            (rw [if_pos (by rfl)]; go_simp; refine (stotal (some ⟨g, 0, none⟩) cp xs _ (ints_below HIW.out hHeld.2) (by omega) HXB.out).mono ?_; rintro e W5 ⟨rfl, rfl⟩; go_wp2_with fail; refine hK.out _ _ (hHeld) (fun hHeld => ?_); clear hK K)
            try simp only [Act.put, List.setIfInBounds_toArray, List.set_cons_zero, List.set_cons_succ]
            refine wpAnyH_ready (rs := [6]) (by kernel_rfl) (by simp) (AllReadyH.cons (o := ?oot23) ?hit23 (fun K hK => ?hkt23) AllReadyH.nil)
            rotate_left
            case hit23 => (simp only [List.getElem?_toArray, List.getElem?_cons_succ, List.getElem?_cons_zero]; rfl)
            (rw [if_pos (by rfl)]; go_simp; refine (sred x xs.sum _ (by omega) (by omega) (by omega) (by omega)).mono ?_; rintro e W6 ⟨rfl, hb6⟩; obtain ⟨fn, fd, fb, hfr⟩ : ∃ n d b, frV (Wsh.redB x xs.sum) (Wsh.rn x xs.sum) (Wsh.rd x xs.sum) = .tuple #[.agg #[.int .i64 n, .int .i64 d], .bool b] := ⟨_, _, _, rfl⟩; rw [hfr]; replace F7 := Lib.hid (c2_below F7.out hb6); go_wp2_with fail; refine hK.out _ _ (keepOne hb6 hHeld) (fun hHeld => ?_); clear hK K)
            try simp only [Act.put, List.setIfInBounds_toArray, List.set_cons_zero, List.set_cons_succ]
            refine wpAnyH_take (i := 7) (oi := ?oot24) (v := ?vvt24) ?hit24 (by kernel_rfl) ?h3t24 ?h4t24 ?h5t24 ?h6t24 (by assumption) ?h8t24
            case hit24 => (simp only [List.getElem?_toArray, List.getElem?_cons_succ, List.getElem?_cons_zero]; rfl)
            case h3t24 => kernel_rfl
            case h4t24 => kernel_rfl
            case h6t24 => (refine Or.inl ⟨by rfl, ?_⟩; intro w hSw; (try dsimp only at hSw); (go_simp <;> with_reducible rfl))
            case h5t24 => exact fun _ _ _ h => h
            try simp only [Act.put, List.setIfInBounds_toArray, List.set_cons_zero, List.set_cons_succ]
            refine wpAnyH_take (i := 8) (oi := ?oot25) (v := ?vvt25) ?hit25 (by kernel_rfl) ?h3t25 ?h4t25 ?h5t25 ?h6t25 (by assumption) ?h8t25
            case hit25 => (simp only [List.getElem?_toArray, List.getElem?_cons_succ, List.getElem?_cons_zero]; rfl)
            case h3t25 => kernel_rfl
            case h4t25 => kernel_rfl
            case h6t25 => (refine Or.inl ⟨by rfl, ?_⟩; intro w hSw; (try dsimp only at hSw); (go_simp <;> with_reducible rfl))
            case h5t25 => exact fun _ _ _ h => h
            try simp only [Act.put, List.setIfInBounds_toArray, List.set_cons_zero, List.set_cons_succ]
            refine wpAnyH_take (i := 9) (oi := ?oot26) (v := ?vvt26) ?hit26 (by kernel_rfl) ?h3t26 ?h4t26 ?h5t26 ?h6t26 (by assumption) ?h8t26
            case hit26 => (simp only [List.getElem?_toArray, List.getElem?_cons_succ, List.getElem?_cons_zero]; rfl)
            case h3t26 => kernel_rfl
            case h4t26 => kernel_rfl
            case h6t26 => (refine Or.inl ⟨by rfl, ?_⟩; intro w hSw; (try dsimp only at hSw); (go_simp <;> with_reducible rfl))
            case h5t26 => exact fun _ _ _ h => h
            try simp only [Act.put, List.setIfInBounds_toArray, List.set_cons_zero, List.set_cons_succ]
            refine wpAnyH_ready (rs := [11]) (by kernel_rfl) (by simp) (AllReadyH.cons (o := ?oot27) ?hit27 (fun K hK => ?hkt27) AllReadyH.nil)
            rotate_left
            case hit27 => (simp only [List.getElem?_toArray, List.getElem?_cons_succ, List.getElem?_cons_zero]; rfl)
            (rw [if_pos (by rfl)]; obtain ⟨fc0, fc1, ff0, ff1, fz⟩ := F7.out; go_simp; have F8 := Lib.hid (c2_set F7.out (.int .i64 fn) (.int .i64 fd)); have E8 := keepOut (hHeld.2.setCell (p := ⟨gf, 0, none⟩) L6 (.int .i64 fn)) L6 (.int .i64 fd) (by omega) hHeld.1; generalize World.setCell (World.setCell _ ⟨gf, 0, none⟩ (.int .i64 fn)) ⟨gf, 1, none⟩ (.int .i64 fd) = W8 at F8 E8 ⊢; clear fc0 fc1 ff0 ff1 fz F7; refine hK.out _ _ (E8) (fun hHeld => ?_); clear hK K)
            try simp only [Act.put, List.setIfInBounds_toArray, List.set_cons_zero, List.set_cons_succ]
            refine wpAnyH_take (i := 12) (oi := ?oot28) (v := ?vvt28) ?hit28 (by kernel_rfl) ?h3t28 ?h4t28 ?h5t28 ?h6t28 (by assumption) ?h8t28
            case hit28 => (simp only [List.getElem?_toArray, List.getElem?_cons_succ, List.getElem?_cons_zero]; rfl)
            case h3t28 => kernel_rfl
            case h4t28 => kernel_rfl
            case h6t28 => (refine Or.inl ⟨by rfl, ?_⟩; intro w hSw; (try dsimp only at hSw); (go_simp <;> with_reducible rfl))
            case h5t28 => exact fun _ _ _ h => h
            try simp only [Act.put, List.setIfInBounds_toArray, List.set_cons_zero, List.set_cons_succ]
            refine wpAnyH_done (by kernel_rfl) ?_ _
            obtain ⟨fc0, fc1, ff0, ff1, fz⟩ := F8.out
            have hB8 : Below w3.heap.size w3 W8 := E8.2
            have hO8 : W8.ownsRow A.heap.size 58 3 u6 k2 (valsH hs) := HO3.out.kept (g_below hB8 (some b)) (.inr (by intro h; have := (HO3.out.lt b h).1; omega))
            have HO8 := Lib.hid hO8
            have HB8 := Lib.hid hB8
            have hs8 : A.heap.size ≤ W8.heap.size := by have := hB8.size; omega
            clear hHeld hO8 hB8 E8 HIW c0
            go_wp2_with (first | (at_builtin; refine wpList_append_own _ rfl (.tmp 47) (.tmp 51) _ rfl A.heap.size 58 j0 _ 3 24 Try.underlying38 hj hy0 hy1 hy2 rfl (by decide) _ _ _ rfl (HO8.out.alloc _) ⟨W8.heap.size, 0, none⟩ 1 1 [.int .i64 (o + 1 + (v3 : Int)), .int .i64 fn, .int .i64 fd] rfl rfl (new_cells W8 _ _) (vals_one [(o + 1 + (v3 : Int), fn, fd)]) (by unfold maxLen; omega) (by omega) (by simp; omega) ?_; intro v' W9 hown' hgrow9 hnil9))
            have hB9 : Below A.heap.size W8 W9 := ((Below.refl _ W8).alloc hs8 _).grown hgrow9 (by simp; omega) (fun q hq => (HO8.out.lt q hq).1)
            have hG8 := g_trans HG3.out (g_below HB8.out (some b))
            obtain ⟨R9, G9⟩ := rd_end (P := P + 1 + (xs.length : Int) + ((k2 + 1 : Nat) : Int)) hbA (rd_up (P' := P + 1 + (xs.length : Int) + ((k2 + 1 : Nat) : Int)) (rd_below HR3.out hb3 HB8.out) (by omega)) rfl hG8 hB9
            refine ⟨⟨k2 + 1, hs ++ [(o + 1 + (v3 : Int), fn, fd)], o + 1 + (v3 : Int), by omega, by go_num, rfl, by omega, by omega, ?_, by simp [HHL.out], R9, G9, by have := hB9.size; omega⟩, by simp [intOf]; omega⟩
            rw [vals_append]; exact hown'
        · have ek : k2 = xs.length := by omega
          have HF := Lib.hid (g_trans GA.out hG)
          have HRR := Lib.hid (rd_up (P' := P + 13) hR (by omega))
          have hO0 := own_lowerR hown (Nat.le_of_lt (Nat.lt_of_le_of_lt hsz0 (by assumption)))
          clear hown hG hR
          go_wp2_with fail
          go_ret
          exact ⟨_, k2, hs, rfl, by omega, by omega, hO0, hhl, HRR.out, HF.out⟩
end Go.Proofs.Ytclpbbhhaclgbaa
namespace Go.Proofs.Ytclpbbhhaclgbaa
open Go.RowKit
set_option linter.unusedSimpArgs false
set_option linter.unusedVariables false

theorem valsH_cons (h : Hd) (t : List Hd) : valsH (h :: t) = .int .i64 h.1 :: .int .i64 h.2.1 :: .int .i64 h.2.2 :: valsH t := rfl
theorem valsH_setO : ∀ (hs : List Hd) (j : Nat) (z : Int), j < hs.length → (valsH hs).set (j * 3) (.int .i64 z) = valsH (hs.set j (z, (hs.getD j hd0).2)) := by
  intro hs
  induction hs with
  | nil => intro j z h; exact absurd h (Nat.not_lt_zero _)
  | cons h t ih =>
    intro j z hj
    cases j with
    | zero => rfl
    | succ j =>
      have hl : j < t.length := by simpa using hj
      rw [valsH_cons, show (j + 1) * 3 = j * 3 + 1 + 1 + 1 from by omega, List.set_cons_succ, List.set_cons_succ, List.set_cons_succ, ih j z hl]; rfl
theorem valsH_setS {hs : List Hd} (x y : Int) (h : 0 < hs.length) : ((valsH hs).set 1 (.int .i64 x)).set 2 (.int .i64 y) = valsH (hs.set 0 ((hs.getD 0 hd0).1, x, y)) := by
  cases hs with
  | nil => exact absurd h (Nat.lt_irrefl _)
  | cons h t => rfl
theorem own_ishs {w : World} {base g cp k : Nat} {hs : List Hd} (h : w.ownsRow base 58 3 (.slice (some ⟨g, 0, none⟩) k cp) k (valsH hs)) (hl : hs.length = k) : IsHs w (some ⟨g, 0, none⟩) hs ∧ k ≤ cp := by
  subst hl
  rcases Flat.own (zs := flatH hs) h with ⟨hv, _⟩ | ⟨g', cp', hv, _, F, hc⟩
  · cases hv
  · injection hv with e1 e2 e3
    injection e1 with e1
    injection e1 with e1
    subst e1 e3
    exact ⟨F.hs, hc⟩
theorem hs_grown {w w' : World} {a : Option Addr} {hs : List Hd} {b base : Nat} (h : IsHs w a hs) (hb : ∀ ad, a = some ad → base ≤ ad.block) (hlt : b < base) (hG : w.grownBy w' (some b)) : IsHs w' a hs := by
  rcases h with h | ⟨g, o, ha, hc⟩
  · exact .inl h
  · refine .inr ⟨g, o, ha, fun i hi => ?_⟩
    have hg := hb _ ha
    have hne : g ≠ b := by
      have : base ≤ g := hg
      omega
    obtain ⟨c0, c1, c2⟩ := hc i hi
    exact ⟨(g_cell hG (World.block_lt_of_cell? w _ c0) hne).trans c0, (g_cell hG (World.block_lt_of_cell? w _ c1) hne).trans c1, (g_cell hG (World.block_lt_of_cell? w _ c2) hne).trans c2⟩

/-- what anyLedger leaves -/
def AnyHd (w : World) (b : Nat) (P : Int) (e : Ending) (w' : World) : Prop := ∃ (a : Option Addr) (cap : Nat) (hs : List Hd), e = .returned (.slice a hs.length cap) ∧ hs.length ≤ 6 ∧ hs.length ≤ cap ∧ IsHs w' a hs ∧ (∀ ad, a = some ad → w.heap.size ≤ ad.block) ∧ Rd w' b (P + 20) ∧ w.grownBy w' (some b)
theorem drop_ishs {w : World} {base g cp k : Nat} {hs : List Hd} (h : w.ownsRow base 58 3 (.slice (some ⟨g, 0, none⟩) k cp) k (valsH hs)) (hl : hs.length = k) (hk : 1 ≤ k) : IsHs w (if cp = 1 then some ⟨g, 0, none⟩ else some ⟨g, 3, none⟩) (hs.drop 1) ∧ (hs.drop 1).length = k - 1 := by
  obtain ⟨_, hc⟩ := own_ishs h hl
  have hr := (Reads.of_own h).cut (k := 1) (cap := cp) hk hc
  have e : (valsH hs).drop (1 * 3) = valsH (hs.drop 1) := vals_drop hs 1
  have hl1 : (hs.drop 1).length = k - 1 := by rw [List.length_drop]; omega
  rw [e, ← hl1] at hr
  have e2 : Option.map (fun a : Addr => a.add (1 * 3)) (some (⟨g, 0, none⟩ : Addr)) = some ⟨g, 3, none⟩ := by
    show some ((⟨g, 0, none⟩ : Addr).add 3) = _
    rw [add_off]
  rw [e2] at hr
  refine ⟨reads_hs hr (fun ad ha => ?_), hl1⟩
  split at ha <;> (injection ha with ha; subst ha; rfl)

set_option maxRecDepth 100000 in
set_option maxHeartbeats 4000000 in
theorem anyHd (b : Nat) (P : Int) (w : World) (h : Rd w b P) (hP : P ≤ 70000) (hb : b < w.heap.size) :
    Calls Try.prog 52 #[.pointer (some ⟨b, 0, none⟩)] w (AnyHd w b P) := by
  go_enter Try.func52, Try.ntmps52
  go_wp2_with fail
  refine (someHd b P _ h (by omega) hb).mono ?_
  rintro e w1 ⟨v, k, hs, rfl, k1, k6, hO, hxl, hR1, hG1⟩
  have hb1 := Nat.lt_of_lt_of_le hb hG1.size
  obtain ⟨g, cp, rfl, lg, ltg⟩ := hO.form (by omega)
  go_wp2_with fail
  refine (pick_any b _ 20 _ hR1 (by omega)).mono ?_
  rintro e w2 ⟨p, rfl, hp, hR2, hG2⟩
  have hb2 := Nat.lt_of_lt_of_le hb1 hG2.size
  have hO2 := hO.kept hG2 (.inr (by simp [Value.ownBlock]; omega))
  have G2 := g_trans hG1 hG2
  clear hO hG1 hG2 hR1
  have HXL := Lib.hid hxl
  by_cases p0 : p = 0
  · have e0 : ((p : Int) == 0) = true := by simp [p0]
    have kk : (0 : Int) < (k : Int) := by omega
    clear p0 hp
    go_wp2_with fail
    refine (anyFrac_any b _ w2 hR2 (by omega) hb2).mono ?_
    rintro e w3 ⟨x, y, rfl, _, _, _, _, hR3, hG3⟩
    have hO3 := hO2.kept hG3 (.inr (by simp [Value.ownBlock]; omega))
    have G3 := g_trans G2 hG3
    have hc0 := hO3.cellAt 1 (by omega)
    have hc1 := hO3.cellAt 2 (by omega)
    obtain ⟨_, v1, v2⟩ := vals_get (hs := hs) (k := 0) (by omega)
    simp only [Nat.zero_mul, Nat.zero_add] at v1 v2
    rw [v1] at hc0
    rw [v2] at hc1
    have hf0 := hO3.frozenAt 1
    have hf1 := hO3.frozenAt 2
    have hS := ((hO3.stored 1 (.int .i64 x)).1.stored 2 (.int .i64 y)).1
    rw [valsH_setS x y (by omega)] at hS
    have hB : Below w.heap.size w3 ((w3.setCell ⟨g, 1, none⟩ (.int .i64 x)).setCell ⟨g, 2, none⟩ (.int .i64 y)) := ((Below.refl _ _).setCell lg _).setCell lg _
    have hfin := rd_end (P := P + 20) hb (rd_up (P' := P + 20) hR3 (by omega)) rfl G3 hB
    have HS := Lib.hid (And.intro hS hfin)
    generalize (hs.getD 0 hd0).2.1 = x0 at hc0
    generalize (hs.getD 0 hd0).2.2 = x1 at hc1
    clear hS hfin hB hO3 hO2 hG3 G3 G2 hR3 hR2 hxl v1 v2
    go_wp2_with fail
    go_ret
    have hl2 : (hs.set 0 ((hs.getD 0 hd0).1, x, y)).length = k := by rw [List.length_set]; exact HXL.out
    obtain ⟨I, hcp⟩ := own_ishs HS.out.1 hl2
    exact ⟨some ⟨g, 0, none⟩, cp, hs.set 0 ((hs.getD 0 hd0).1, x, y), by rw [hl2]; rfl, by omega, by omega, I, (fun ad e => by injection e with e; subst e; exact lg), HS.out.2.1, HS.out.2.2⟩
  · have e0 : ((p : Int) == 0) = false := by simp; omega
    by_cases p1 : p = 1
    · have e1 : ((p : Int) == 1) = true := by simp [p1]
      obtain ⟨j, rfl⟩ : ∃ j, k = j + 1 := ⟨k - 1, by omega⟩
      have wj : IntKind.i64.wrap (((j + 1 : Nat) : Int) - 1) = (j : Int) := by rw [IntKind.wrap_i64]; omega
      have j0 : (0 : Int) ≤ (j : Int) := by omega
      have j1 : (j : Int) < ((j + 1 : Nat) : Int) := by omega
      clear p0 p1 hp
      have HKJ : Hid (1 ≤ j + 1 ∧ j + 1 ≤ 6) := ⟨by omega, by omega⟩
      generalize hjk : ((j + 1 : Nat) : Int) = K at *
      go_wp2_with fail
      refine (one_lit b 4 _ 0 1000 [0, 1, 1000, 999] _ w2 hR2 (by omega) hb2 rfl (by omega) (by omega) (by simp)).mono ?_
      rintro e w3 ⟨d, rfl, d0, d1, hR3, hG3⟩
      have hO3 := hO2.kept hG3 (.inr (by simp [Value.ownBlock]; omega))
      have G3 := g_trans G2 hG3
      have hc0 := hO3.cellAt (j * 3) (by omega)
      rw [(vals_get (hs := hs) (k := j) (by omega)).1] at hc0
      have hf0 := hO3.frozenAt (j * 3)
      have hS := (hO3.stored (j * 3) (.int .i64 d)).1
      rw [valsH_setO hs j d (by omega)] at hS
      have hB : Below w.heap.size w3 (w3.setCell ⟨g, j * 3, none⟩ (.int .i64 d)) := (Below.refl _ _).setCell lg _
      have hfin := rd_end (P := P + 20) hb (rd_up (P' := P + 20) hR3 (by omega)) rfl G3 hB
      have HS := Lib.hid (And.intro hS hfin)
      generalize (hs.getD j hd0).1 = x0 at hc0
      clear hS hfin hB hO3 hO2 hG3 G3 G2 hR3 hR2 hxl
      go_wp2_with fail
      go_ret
      have hl2 : (hs.set j (d, (hs.getD j hd0).2)).length = j + 1 := by rw [List.length_set]; exact HXL.out
      obtain ⟨I, hcp⟩ := own_ishs HS.out.1 hl2
      exact ⟨some ⟨g, 0, none⟩, cp, hs.set j (d, (hs.getD j hd0).2), by rw [hl2]; rfl, by omega, by omega, I, (fun ad e => by injection e with e; subst e; exact lg), HS.out.2.1, HS.out.2.2⟩
    · have e1 : ((p : Int) == 1) = false := by simp; omega
      have HF := Lib.hid (And.intro (rd_up (P' := P + 20) hR2 (by omega)) G2)
      have HO := Lib.hid hO2
      by_cases p2 : p = 2
      · have e2 : ((p : Int) == 2) = true := by simp [p2]
        have kk : (1 : Int) ≤ (k : Int) := by omega
        clear p0 p1 p2 hp hR2 G2 hO2
        obtain ⟨I, hl1⟩ := drop_ishs HO.out HXL.out (by omega)
        have hc := (own_ishs HO.out HXL.out).2
        have HI := Lib.hid I
        have HL1 := Lib.hid hl1
        clear I hl1
        by_cases c1 : cp = 1
        · subst c1
          obtain rfl : k = 1 := by omega
          go_wp2_with fail
          go_ret
          have hl1 := HL1.out
          have I := HI.out
          rw [if_pos trivial] at I
          exact ⟨some ⟨g, 0, none⟩, 0, hs.drop 1, by rw [hl1]; rfl, by omega, by omega, I, (fun ad e => by injection e with e; subst e; exact lg), HF.out.1, HF.out.2⟩
        · go_wp2_with fail
          go_ret
          have hl1 := HL1.out
          have I := HI.out
          rw [if_neg c1] at I
          exact ⟨some ⟨g, 3, none⟩, cp - 1, hs.drop 1, by rw [hl1]; rfl, by omega, by omega, I, (fun ad e => by injection e with e; subst e; exact lg), HF.out.1, HF.out.2⟩
      · have e2 : ((p : Int) == 2) = false := by simp; omega
        clear p0 p1 p2 hp hR2 G2 hO2
        go_wp2_with fail
        go_ret
        obtain ⟨I, hcp⟩ := own_ishs HO.out HXL.out
        exact ⟨some ⟨g, 0, none⟩, cp, hs, by rw [HXL.out]; rfl, by have := HXL.out; omega, by have := HXL.out; omega, I, (fun ad e => by injection e with e; subst e; exact lg), HF.out.1, HF.out.2⟩

/-- what anOwner leaves -/
def OwnerOf (w : World) (b : Nat) (P : Int) (e : Ending) (w' : World) : Prop := ∃ o : Int, e = .returned (.int .i64 o) ∧ Rd w' b (P + 3) ∧ w.grownBy w' (some b)
set_option maxRecDepth 100000 in
set_option maxHeartbeats 4000000 in
theorem anOwner (b : Nat) (P : Int) (a : Option Addr) (cap base : Nat) (hs : List Hd) (w : World) (h : Rd w b P) (hP : P ≤ 70000) (hb : b < w.heap.size) (hi : IsHs w a hs) (hl : hs.length ≤ 1048576) (ha : ∀ ad, a = some ad → base ≤ ad.block) (hbb : b < base) :
    Calls Try.prog 81 #[.pointer (some ⟨b, 0, none⟩), .slice a hs.length cap] w (OwnerOf w b P) := by
  have last : ∀ W, Rd W b (P + 1) → b < W.heap.size → w.grownBy W (some b) → True := fun _ _ _ _ => trivial
  by_cases h0 : hs.length = 0
  · have e0 : decide ((0 : Int) < (hs.length : Int)) = false := decide_eq_false (by omega)
    go_enter Try.func81, Try.ntmps81
    go_wp2_with fail
    refine (one_lit b 7 _ 0 1000 [1, 2, 5, 30, 999, 0, 1000] _ w h (by omega) hb rfl (by omega) (by omega) (by simp)).mono ?_
    rintro e w3 ⟨d, rfl, d0, d1, hR3, hG3⟩
    have HF := Lib.hid (And.intro (rd_up (P' := P + 3) hR3 (by omega)) hG3)
    clear hR3 hG3 h
    go_wp2_with fail
    go_ret
    exact ⟨d, rfl, HF.out.1, HF.out.2⟩
  · have e0 : decide ((0 : Int) < (hs.length : Int)) = true := decide_eq_true (by omega)
    go_enter Try.func81, Try.ntmps81
    go_wp2_with fail
    refine (pick_any b _ 4 _ h (by omega)).mono ?_
    rintro e w2 ⟨p, rfl, hp, hR2, hG2⟩
    have hb2 := Nat.lt_of_lt_of_le hb hG2.size
    clear hp
    by_cases p0 : p = 0
    · have e1 : decide ((0 : Int) < (p : Int)) = false := decide_eq_false (by omega)
      have e2 : decide (0 < p) = false := decide_eq_false (by omega)
      clear p0
      go_wp2_with fail
      refine (one_lit b 7 _ 0 1000 [1, 2, 5, 30, 999, 0, 1000] _ w2 hR2 (by omega) hb2 rfl (by omega) (by omega) (by simp)).mono ?_
      rintro e w3 ⟨d, rfl, d0, d1, hR3, hG3⟩
      have HF := Lib.hid (And.intro (rd_up (P' := P + 3) hR3 (by omega)) (g_trans hG2 hG3))
      clear hR3 hG3 h hR2 hG2
      go_wp2_with fail
      go_ret
      exact ⟨d, rfl, HF.out.1, HF.out.2⟩
    · have e1 : decide ((0 : Int) < (p : Int)) = true := decide_eq_true (by omega)
      have e2 : decide (0 < p) = true := decide_eq_true (by omega)
      clear p0
      go_wp2_with fail
      refine (pick_any b _ (hs.length : Int) _ hR2 (by omega)).mono ?_
      rintro e w3 ⟨u, rfl, hu, hR3, hG3⟩
      have hul : u < hs.length := by omega
      have i3 := hs_grown (hs_grown hi ha hbb hG2) ha hbb hG3
      have HF := Lib.hid (And.intro (rd_up (P' := P + 3) hR3 (by omega)) (g_trans hG2 hG3))
      rcases i3 with rfl | ⟨g, o, rfl, hc⟩
      · simp at hul
      obtain ⟨c0, _, _⟩ := hc u hul
      generalize (hs.getD u hd0).1 = x at c0
      have u0 : (0 : Int) ≤ (u : Int) := by omega
      have u1 : (u : Int) < (hs.length : Int) := by omega
      clear hR3 hG3 h hR2 hG2 hc hu hi
      go_wp2_with fail
      go_ret
      exact ⟨x, rfl, HF.out.1, HF.out.2⟩
end Go.Proofs.Ytclpbbhhaclgbaa
namespace Go.Proofs.Ytclpbbhhaclgbaa
open Go.RowKit
set_option linter.unusedSimpArgs false
set_option linter.unusedVariables false
def DrawnTurnsFor (w : World) (e : Ending) (w' : World) : Prop := ∃ (a : Option Addr) (cap : Nat) (hs : List Hd) (n : Int), e = .returned (.tuple #[.slice a hs.length cap, .int .i64 n]) ∧ hs.length ≤ 6 ∧ hs.length ≤ cap ∧ IsHs w' a hs ∧ 0 ≤ n ∧ n ≤ 337 ∧ Below w.heap.size w w'
set_option maxRecDepth 100000 in
set_option maxHeartbeats 4000000 in
theorem drawTurnsFor (a : Option Addr) (len cap : Nat) (zs : List Int) (w : World) (h : IsRow .u8 w a len cap zs) :
    Calls Try.prog 37 #[.slice a len cap] w (DrawnTurnsFor w) := by
  go_enter Try.func37, Try.ntmps37
  go_wp2_with fail
  refine (newReader_any a len cap zs _ h).mono ?_
  rintro e w1 ⟨rfl, hR1, hB1, hb1⟩
  have G1 := g_below (Below.refl w1.heap.size w1) (some w.heap.size)
  clear h
  go_wp2_with fail
  refine (anyHd w.heap.size _ _ hR1 (by omega) hb1).mono ?_
  rintro e w2 ⟨b, cp, hs, rfl, hl, hlc, hi, hblk, hR2, hG2⟩
  have hb2 := Nat.lt_of_lt_of_le hb1 hG2.size
  have G2 := g_trans G1 hG2
  clear hG2 hR1 G1
  go_wp2_with fail
  refine (one_lit w.heap.size 8 _ 0 337 [24, 48, 7, 100, 1, 336, 337, 0] _ w2 hR2 (by omega) hb2 rfl (by omega) (by omega) (by simp)).mono ?_
  rintro e w3 ⟨n, rfl, n0, n1, hR3, hG3⟩
  have G3 := g_trans G2 hG3
  replace hi := hs_grown hi hblk hb1 hG3
  clear hG3 hR2 G2
  have hB : Below w.heap.size w w3 := below_grown hB1 G3 (Nat.le_refl _)
  clear G3 hR3
  go_wp2_with fail
  go_returns
  exact ⟨b, cp, hs, n, rfl, hl, hlc, hi, n0, n1, hB⟩
end Go.Proofs.Ytclpbbhhaclgbaa
namespace Go.Proofs.Ytclpbbhhaclgbaa
open Go.RowKit

theorem cell_next {w w' : World} {p : Addr} {v : Value} (hb : Below w.heap.size w w') (h : w.cell? p = some v) : w'.cell? p = some v := (hb.cell (World.block_lt_of_cell? w _ h)).trans h
theorem keep4 {w w' : World} {p q r s : Addr} {u v x y : Value} (hb : Below w.heap.size w w') (h : w.cell? p = some u ∧ w.cell? q = some v ∧ w.cell? r = some x ∧ w.cell? s = some y) : w'.cell? p = some u ∧ w'.cell? q = some v ∧ w'.cell? r = some x ∧ w'.cell? s = some y := ⟨cell_next hb h.1, cell_next hb h.2.1, cell_next hb h.2.2.1, cell_next hb h.2.2.2⟩
theorem keep2 {w w' : World} {p q : Addr} {u v : Value} (hb : Below w.heap.size w w') (h : w.cell? p = some u ∧ w.cell? q = some v) : w'.cell? p = some u ∧ w'.cell? q = some v := ⟨cell_next hb h.1, cell_next hb h.2⟩
def allQ (hs : List Hd) : Bool := (List.range hs.length).all (fun j => frB (sumQ hs (j + 1)))
/-- a sum of fractions by spec.addFrac, its value known -/
theorem saddQ {an ad bn bd x y : Int} {b : Bool} (w : World) (ha : Wsh.vfB an ad = true) (hb : Wsh.vfB bn bd = true) (hr : Wsh.redB (an * bd + bn * ad) (ad * bd) = b) (hx : Wsh.rn (an * bd + bn * ad) (ad * bd) = x) (hy : Wsh.rd (an * bd + bn * ad) (ad * bd) = y) :
    Calls Try.prog 113 #[.agg #[.int .i64 an, .int .i64 ad], .agg #[.int .i64 bn, .int .i64 bd]] w fun e w' => e = .returned (.tuple #[.agg #[.int .i64 (Wsh.qn b x), .int .i64 (Wsh.qn b y)], .bool b]) ∧ Below w.heap.size w w' := by
  have := sadd an ad bn bd w ha hb
  rw [hr, hx, hy] at this; exact this
def SumV (w : World) (hs : List Hd) (e : Ending) (w' : World) : Prop := e = .returned (.tuple #[.agg #[.int .i64 (Wsh.qn (allQ hs) (sumQ hs hs.length).num), .int .i64 (Wsh.qn (allQ hs) ((sumQ hs hs.length).den : Int))], .bool (allQ hs)]) ∧ Below w.heap.size w w'

set_option maxHeartbeats 1000000 in
theorem ssumOf (a : Option Addr) (cap : Nat) (hs : List Hd) (w : World) (h : IsHs w a hs) (hn : hs.length ≤ 1048576) (hF : allF hs = true) :
    Calls Try.prog 87 #[.slice a hs.length cap] w (SumV w hs) := by
  have HF := Lib.hid ((rng_all _ _).1 hF)
  clear hF
  rcases h with rfl | ⟨g, off, rfl, hc⟩
  · go_enter Try.func87, Try.ntmps87
    go_wp2_with fail
    refine wp_loop_rounds 1 ?_
    rw [rounds_succ]
    go_wp2_with fail
    exact bodyPost_ret (v := .tuple #[.agg #[.int .i64 0, .int .i64 1], .bool true]) (by simp [results, Try.results87, go_sem]) rfl ⟨rfl, by go_grown⟩
  · have HC := Lib.hid hc
    clear hc
    go_enter Try.func87, Try.ntmps87
    go_wp2_with fail
    go_loopw [5, 6] (fun b i wr => ∃ (k : Nat) (c : Bool), k ≤ hs.length ∧ i = .int .i64 k ∧ b = .bool c ∧ Hid (∀ j, j < k → c = true → frB (sumQ hs (j + 1)) = true) ∧ Hid (c = false → ∃ j, j < k ∧ frB (sumQ hs (j + 1)) = false) ∧
        Blk wr w.heap.size 56 #[.int .i64 0, .int .i64 0] ∧ Blk wr (w.heap.size + 1) 56 #[.int .i64 (Wsh.qn c (sumQ hs k).num), .int .i64 (Wsh.qn c ((sumQ hs k).den : Int))] ∧ Below w.heap.size w wr) (fun _ i _ => hs.length - (intOf i).toNat)
    case atStart => exact ⟨0, true, Nat.zero_le _, rfl, rfl, fun j hj => by omega, (fun c => by cases c), (Blk.new _ _ _).alloc _, by have := Blk.new (w.alloc (.cells #[.int .i64 0, .int .i64 0] 56)) 56 #[.int .i64 0, .int .i64 1]; rw [World.size_alloc] at this; exact this, by go_grown⟩
    case round =>
      obtain ⟨k, c, hk, rfl, rfl, HK, HN, hR, hS, hB⟩ := hrel
      cases c with
      | false =>
        have hq : allQ hs = false := by
          obtain ⟨j, hj, hf⟩ := HN.out rfl
          exact rng_no (by omega) hf
        have HQ := Lib.hid hq
        obtain ⟨t0, t1, t2, t3, t4⟩ := blk_two hS
        obtain ⟨r0, r1, r2, r3, r4⟩ := blk_two hR
        clear hq hS hR
        rw [Wsh.qn_false] at t0 t1
        go_wp2_with fail
        all_goals exact bodyPost_ret (v := .tuple #[.agg #[.int .i64 0, .int .i64 0], .bool false]) (by simp [results, Try.results87, go_sem, r0, r1]) rfl ⟨by rw [HQ.out]; rfl, (hB.setCell (by simp) _).setCell (by simp) _⟩
      | true =>
        by_cases hlt : k < hs.length
        · obtain ⟨c0, c1, c2⟩ := cells_at HC.out hB hlt
          have hf := (okF_is (HF.out k hlt)).1
          have sr := sum_red hlt hf
          have qf : Wsh.vfB (sumQ hs k).num ((sumQ hs k).den : Int) = true := by
            cases k with
            | zero => exact q_vf frB_zero
            | succ k => exact q_vf (HK.out k (by omega) rfl)
          have y2 : ∀ c, frB (sumQ hs (k + 1)) = c → (∀ j, j < k + 1 → c = true → frB (sumQ hs (j + 1)) = true) ∧ (c = false → ∃ j, j < k + 1 ∧ frB (sumQ hs (j + 1)) = false) := fun c e => by
            refine ⟨fun j hj ct => ?_, fun cf => ⟨k, by omega, by rw [e, cf]⟩⟩
            by_cases ej : j = k
            · subst ej; rw [e, ct]
            · exact HK.out j (by omega) rfl
          obtain ⟨sr1, sr2, sr3⟩ := sr
          generalize hcc : frB (sumQ hs (k + 1)) = cc at sr1 y2
          have y3 := y2 cc rfl
          generalize hs.getD k hd0 = hh at c0 c1 c2 hf sr1 sr2 sr3
          obtain ⟨x, n, d⟩ := hh
          dsimp only at c0 c1 c2 hf sr1 sr2 sr3
          have A1 := Lib.hid sr1
          have A2 := Lib.hid sr2
          have A3 := Lib.hid sr3
          have A4 := Lib.hid qf
          have A5 := Lib.hid hf
          have A6 := Lib.hid y3
          have HS := Lib.hid hS
          have HR := Lib.hid hR
          have HB := Lib.hid hB
          obtain ⟨t0, t1, t2, t3, t4⟩ := blk_two hS
          clear sr1 sr2 sr3 qf hf y2 y3 hS hR hB hcc
          have hgne : g ≠ w.heap.size + 1 := by have := World.block_lt_of_cell? w _ (HC.out k hlt).1; dsimp only at this; omega
          have i0 : (0 : Int) ≤ (k : Int) := by omega
          have i1 : (k : Int) < (hs.length : Int) := by omega
          go_wp2_with fail
          go_region_with (first | (go_at_call 113; refine (saddQ _ A4.out A5.out A1.out A2.out A3.out).mono ?_; rintro e w3 ⟨rfl, hb⟩; obtain ⟨t0, t1, t2, t3, t4⟩ := blk_two (HS.out.drew.next hb)))
          all_goals (
            have hB3 := bel_tr HB.out.drew hb
            have hR3 := HR.out.drew.next hb
            have hS3 := HS.out.drew.next hb
            go_wp2_with fail
            go_roundw
            case rel => exact ⟨k + 1, cc, by omega, by go_num, rfl, A6.out.1, A6.out.2, (hR3.far (by simp) _).far (by simp) _, hS3.two _ _, (hB3.setCell (by simp) _).setCell (by simp) _⟩
            case measure => simp [intOf]; omega)
        · obtain rfl : hs.length = k := by omega
          have hq : allQ hs = true := rng_yes (fun j hj => HK.out j hj rfl)
          have HQ := Lib.hid hq
          obtain ⟨t0, t1, t2, t3, t4⟩ := blk_two hS
          obtain ⟨r0, r1, r2, r3, r4⟩ := blk_two hR
          clear hq hS hR
          rw [Wsh.qn_true] at t0 t1
          go_wp2_with fail
          exact bodyPost_ret (v := .tuple #[.agg #[.int .i64 (sumQ hs hs.length).num, .int .i64 ((sumQ hs hs.length).den : Int)], .bool true]) (by simp [results, Try.results87, go_sem, r0, r1]) rfl ⟨by rw [HQ.out]; rfl, (hB.setCell (by simp) _).setCell (by simp) _⟩

theorem vf_boolN {n d : Int} (h : Wsh.vfB n d = false) (w : World) : Calls Try.prog 84 #[.agg #[.int .i64 n, .int .i64 d]] w fun e w' => e = .returned (.bool false) ∧ Below w.heap.size w w' := by
  have := svalid n d w
  rw [h] at this; exact this
theorem vf_boolY {n d : Int} (h : Wsh.vfB n d = true) (w : World) : Calls Try.prog 84 #[.agg #[.int .i64 n, .int .i64 d]] w fun e w' => e = .returned (.bool true) ∧ Below w.heap.size w w' := by
  have := svalid n d w
  rw [h] at this; exact this
theorem keep4r {w w' : World} {p q r s : Addr} {u v x y : Value} (h : w.cell? p = some u ∧ w.cell? q = some v ∧ w.cell? r = some x ∧ w.cell? s = some y) (hb : Below w.heap.size w w') : w'.cell? p = some u ∧ w'.cell? q = some v ∧ w'.cell? r = some x ∧ w'.cell? s = some y := keep4 hb h
theorem vl_all {hs : List Hd} (h1 : ascB hs = true) (h2 : allF hs = true) : vlR hs = (allQ hs && decide (sumQ hs hs.length = 1) && decide (hs.length ≤ 12)) := by
  have e : allS hs = allQ hs := by
    unfold allS allQ
    rw [Bool.eq_iff_iff, rng_all, rng_all]
    unfold allF at h2; rw [rng_all] at h2
    exact ⟨fun h j hj => (okS_is (h j hj)).2, fun h j hj => okS_yes (h2 j hj) (h j hj)⟩
  unfold vlR
  rw [h1, e]
  cases allQ hs <;> cases decide (sumQ hs hs.length = 1) <;> cases decide (hs.length ≤ 12) <;> rfl
theorem vl_noF {hs : List Hd} {k : Nat} (hk : k < hs.length) (h : okF hs k = false) : vlR hs = false := vl_no2 hk (okS_no h)
theorem vl_noA {hs : List Hd} {k : Nat} (hk : k < hs.length) (h : okA hs k = false) : vlR hs = false := vl_no1 (rng_no hk h)

end Go.Proofs.Ytclpbbhhaclgbaa
