/- Marks in rows of numbers of the call's own. Condition: at most 1048576 numbers. -/
import Derived.Test.YtfdgaobdlibfpaaOwnI
import Derived.Test.YtfdgaobdlibfpaaFlat
import Derived.Test.YtfdgaobdlibfpaaMarks
namespace Go.Proofs.Ytfdgaobdlibfpaa
open Go.RowKit
set_option linter.unusedSimpArgs false
set_option linter.unusedVariables false
theorem OwnI.at_ {w : World} {base n c : Nat} {b : Option Addr} {zs : List Int} (h : OwnI w base (.slice b n c) zs) : IsInts w b zs := by
  obtain ⟨b', c', e, hi⟩ := OwnI.ints h
  injection e with e1 e2 e3
  subst e1; exact hi
theorem OwnI.len_ {w : World} {base n c : Nat} {b : Option Addr} {zs : List Int} (h : OwnI w base (.slice b n c) zs) : n = zs.length := by
  obtain ⟨b', c', e, hi⟩ := OwnI.ints h
  injection e with e1 e2 e3
theorem OwnI.apart {w w' : World} {base : Nat} {v : Value} {zs : List Int} {row : Option Nat} (h : OwnI w base v zs) (hg : w.grownBy w' row) (hr : ∀ q, row = some q → q < base) : OwnI w' base v zs :=
  World.ownsRow.kept h hg (by
    cases e : v.ownBlock with
    | none => exact .inl rfl
    | some k =>
      refine .inr (fun c => ?_)
      have a := hr k c.symm
      have b := (World.ownsRow.lt h k e).1
      omega)
theorem below_gv {w a b : World} {row : Option Nat} (h : Below w.heap.size w a) (hG : a.grownBy b row) (hg : ∀ q, row = some q → w.heap.size ≤ q) : Below w.heap.size w b := h.grown hG h.size hg
theorem vals_set (zs : List Int) (j : Nat) (z : Int) : (zs.map (Value.int .i64)).set j (.int .i64 z) = (zs.set j z).map (Value.int .i64) := by rw [List.map_set]
set_option maxHeartbeats 2000000 in
theorem lmarkO (b : Option Addr) (c base : Nat) (zs : List Int) (w : World) (h : OwnI w base (.slice b zs.length c) zs) (hn : zs.length ≤ 1048576) :
    Calls Try.prog 23 #[.slice b zs.length c, .int .i64 1] w fun e w' => e = .returned (.int .i64 (1 + (zs.length : Int))) ∧ OwnI w' base (.slice b zs.length c) (marksF zs.length) ∧ w.grownBy w' (Value.slice b zs.length c).ownBlock := by
  rcases h.2 with ⟨e, h0⟩ | ⟨g, cap, cur, e, hg, hb, hc, _⟩
  · injection e with e1 e2 e3
    subst e1 e3
    rw [h0]
    refine (lmark_nil w).mono ?_
    rintro e w' ⟨rfl, rfl⟩
    exact ⟨rfl, OwnI.nil _ _, g_of (Below.refl _ _) _⟩
  · injection e with e1 e2 e3
    subst e1 e3
    have H := Lib.hid h
    clear h hb
    go_enter Try.func23, Try.ntmps23
    go_wp2
    go_loopw [1, 5] (fun k i wr => ∃ j : Nat, j ≤ zs.length ∧ i = .int .i64 j ∧ k = .int .i64 (1 + (j : Int)) ∧ Hid (wr.ownsRow base 3 1 (.slice (some ⟨g, 0, none⟩) zs.length c) zs.length ((markTo zs j).map (Value.int .i64)) ∧ w.grownBy wr (some g))) (fun _ i _ => zs.length - (intOf i).toNat)
    case atStart => exact ⟨0, Nat.zero_le _, rfl, rfl, by rw [markTo_zero]; exact H.out, g_of (Below.refl _ _) _⟩
    case round =>
      obtain ⟨j, hj, rfl, rfl, HO⟩ := hrel
      by_cases hlt : j < zs.length
      · have hl := markTo_len hj
        have hd := World.ownsRow.cellAt HO.out.1 j (by omega)
        rw [List.getElem?_map, List.getElem?_eq_getElem (by omega)] at hd
        have hf := World.ownsRow.frozenAt HO.out.1 j
        have hs := World.ownsRow.stored HO.out.1 j (.int .i64 (1 + (j : Int)))
        rw [vals_set, markTo_succ hlt] at hs
        have HS : Hid ((wr.setCell ⟨g, j, none⟩ (.int .i64 (1 + (j : Int)))).ownsRow base 3 1 (.slice (some ⟨g, 0, none⟩) zs.length c) zs.length ((markTo zs (j + 1)).map (Value.int .i64)) ∧ w.grownBy (wr.setCell ⟨g, j, none⟩ (.int .i64 (1 + (j : Int)))) (some g)) := ⟨hs.1, g_set2 HO.out.2⟩
        simp only [Option.map_some] at hd
        generalize (markTo zs j)[j] = z at hd
        clear hs hl HO
        go_wp2
        go_roundw
        case rel => exact ⟨j + 1, by omega, by go_num, by go_num, HS.out⟩
        case measure => simp [intOf]; omega
      · obtain rfl : j = zs.length := by omega
        have HE : Hid (OwnI wr base (.slice (some ⟨g, 0, none⟩) zs.length c) (marksF zs.length)) := by
          have := HO.out.1
          rw [markTo_end] at this
          show _
          unfold OwnI
          rw [marksF_len]; exact this
        go_wp2
        go_ret
        exact ⟨ret_int rfl, HE.out, HO.out.2⟩
set_option maxHeartbeats 1000000 in
theorem lheldO (b : Option Addr) (c n base : Nat) (w : World) (h : OwnI w base (.slice b n c) (marksF n)) (hn : n ≤ 1048576) :
    Calls Try.prog 24 #[.slice b n c, .int .i64 1] w fun e w' => e = .returned (.int .i64 (1 + (n : Int))) ∧ w = w' := by
  rcases h.at_ with h0 | ⟨g, o, rfl, hc⟩
  · have h1 := h.len_
    rw [h0] at h1
    obtain rfl : n = 0 := by simpa using h1
    clear h1 h0 h
    go_enter Try.func24, Try.ntmps24
    go_wp2
    go_rounds 1
    go_ret
    exact ⟨rfl, rfl⟩
  · have HC := Lib.hid hc
    clear hc h
    go_enter Try.func24, Try.ntmps24
    go_wp2
    go_loop [1, 5] (fun k i => ∃ j : Nat, j ≤ n ∧ i = .int .i64 j ∧ k = .int .i64 (1 + (j : Int))) (fun _ i => n - (intOf i).toNat)
    case atStart => exact ⟨0, Nat.zero_le _, rfl, rfl⟩
    case round =>
      obtain ⟨j, hj, rfl, rfl⟩ := hrel
      by_cases hlt : j < n
      · have hd := HC.out j (by rw [marksF_len]; exact hlt)
        rw [marksF_get n hlt] at hd
        go_wp2
        go_round
        case rel => exact ⟨j + 1, by omega, by go_num, by go_num⟩
        case measure => simp [intOf]; omega
      · go_wp2
        go_ret
        exact ⟨ret_int (by omega), rfl⟩
end Go.Proofs.Ytfdgaobdlibfpaa
