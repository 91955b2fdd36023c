/- Marks on leases of the laws. Condition: at most 1048576 of them. -/
import Derived.Test.YthagafkjlecagabRowF
import Derived.Test.YthagafkjlecagabLsL
import Derived.Test.YthagafkjlecagabUse
namespace Go.Proofs.Ythagafkjlecagab
open Go.RowKit
set_option linter.unusedSimpArgs false
set_option linter.unusedVariables false
theorem lsv_int (x : Lr) (j : Nat) : ∃ z : Int, lsv x j = .int .i64 z := by
  unfold lsv
  split <;> exact ⟨_, rfl⟩
theorem RowLs.flat {w : World} {g : Nat} {ls : List Lr} (h : RowLs w g ls.length ls) : ∃ zs : List Int, zs.length = ls.length * 6 ∧ Flat w g 48 zs := by
  obtain ⟨cs, hb, hs, hc⟩ := h
  refine ⟨(List.range (ls.length * 6)).map (fun j => intOf (lsv (ls.getD (j / 6) lr0) (j % 6))), by simp, cs, hb, fun j hj => ?_⟩
  have hj2 : j < ls.length * 6 := by simpa using hj
  rw [hc j hj2]
  show some (if j < ls.length * 6 then lsv (ls.getD (j / 6) lr0) (j % 6) else Value.int IntKind.i64 0) = _
  rw [if_pos hj2, List.getD_eq_getElem?_getD (i := j), List.getElem?_map, List.getElem?_range hj2]
  obtain ⟨z, hz⟩ := lsv_int (ls.getD (j / 6) lr0) (j % 6)
  show some (lsv (ls.getD (j / 6) lr0) (j % 6)) = some (.int .i64 (intOf (lsv (ls.getD (j / 6) lr0) (j % 6))))
  rw [hz]; rfl
theorem RowLs.apart {w w' : World} {g g' : Nat} {ls : List Lr} (h : RowLs w g ls.length ls) (hG : w.grownBy w' (some g')) (hne : g ≠ g') : RowLs w' g ls.length ls :=
  World.rowIs.of_block h (hG.block g (World.rowIs.lt h) (fun e => hne (Option.some.inj e)))
theorem us_small {hs : List Hd} {ls : List Lr} {t : Int} (h : usB hs ls t = true) : 0 < (rawL (usL hs ls t)).length ∧ (rawL (usL hs ls t)).length ≤ 1048576 := by
  have hv : vlR (rawL (usL hs ls t)) = true := by
    have h0 := h
    unfold usB at h
    simp only [Bool.and_eq_true, decide_eq_true_eq] at h
    cases e : uO t (ledOf hs) ls with
    | none => rw [us_none e] at h0; cases h0
    | some L =>
      obtain ⟨e1, e2⟩ := us_some h.1.1.1 h.1.1.2 h.1.2 e
      rw [e2, ← e1]; exact h0
  obtain ⟨e1, e2⟩ := vlR_is hv
  have hl := e2.len
  rw [led_len] at hl
  refine ⟨?_, by omega⟩
  by_cases e : rawL (usL hs ls t) = []
  · rw [e] at hv; exact absurd hv (by decide)
  · exact List.length_pos_iff.2 e
set_option maxHeartbeats 4000000 in
theorem mkLz (b : Option Addr) (c n base : Nat) (zs : List Int) (s : Int) (w : World) (h : RowF w base 48 (.slice b n c) n zs) (hl : zs.length = n * 6) (hn : n ≤ 1048576) (s0 : 0 ≤ s) (s1 : s ≤ 1000000000000) :
    Calls Try.prog 18 #[.slice b n c, .int .i64 s] w fun e w' => e = .returned (.int .i64 (s + ((n * 6 : Nat) : Int))) ∧ RowF w' base 48 (.slice b n c) n (mkS s (n * 6)) ∧ w.grownBy w' (Value.slice b n c).ownBlock := by
  rcases h with ⟨e, h0⟩ | ⟨g, cap, e, hg, F, hc⟩
  · injection e with e1 e2 e3
    subst e1 e3 h0
    go_enter Try.func18, Try.ntmps18
    go_wp2
    go_rounds 1
    go_ret
    exact ⟨by simp, .inl ⟨rfl, rfl⟩, g_of (Below.refl _ _) _⟩
  · injection e with e1 e2 e3
    subst e1 e3
    have H := Lib.hid F
    have HL := Lib.hid hl
    clear F hl
    go_enter Try.func18, Try.ntmps18
    go_wp2
    go_loopw [1, 5] (fun q i wr => ∃ k : Nat, k ≤ n ∧ i = .int .i64 k ∧ q = .int .i64 (s + ((k * 6 : Nat) : Int)) ∧ Flat wr g 48 (mkTo s zs (k * 6)) ∧ w.grownBy wr (some g)) (fun _ i _ => n - (intOf i).toNat)
    case atStart => exact ⟨0, Nat.zero_le _, rfl, by simp, by rw [Nat.zero_mul, mkTo_zero]; exact H.out, g_of (Below.refl _ _) _⟩
    case round =>
      obtain ⟨k, hk, rfl, rfl, hF, hG⟩ := hrel
      by_cases hlt : k < n
      · have hzl := HL.out
        have l0 := mkTo_len s zs (k * 6)
        have c0 := hF.cell (j := k * 6) (by omega)
        have f0 := hF.frozen (k * 6)
        have c1 := hF.cell (j := k * 6 + 1) (by omega)
        have f1 := hF.frozen (k * 6 + 1)
        have c2 := hF.cell (j := k * 6 + 2) (by omega)
        have f2 := hF.frozen (k * 6 + 2)
        have c3 := hF.cell (j := k * 6 + 3) (by omega)
        have f3 := hF.frozen (k * 6 + 3)
        have c4 := hF.cell (j := k * 6 + 4) (by omega)
        have f4 := hF.frozen (k * 6 + 4)
        have c5 := hF.cell (j := k * 6 + 5) (by omega)
        have f5 := hF.frozen (k * 6 + 5)
        have n1 := (hF.set_ (i := k * 6) (by rw [mkTo_len]; omega) (s + ((k * 6 : Nat) : Int)))
        rw [mkTo_set s (by omega)] at n1
        have n2 := (n1.set_ (i := k * 6 + 1) (by rw [mkTo_len]; omega) (s + ((k * 6 + 1 : Nat) : Int)))
        rw [mkTo_set s (by omega)] at n2
        have n3 := (n2.set_ (i := k * 6 + 2) (by rw [mkTo_len]; omega) (s + ((k * 6 + 2 : Nat) : Int)))
        rw [mkTo_set s (by omega)] at n3
        have n4 := (n3.set_ (i := k * 6 + 3) (by rw [mkTo_len]; omega) (s + ((k * 6 + 3 : Nat) : Int)))
        rw [mkTo_set s (by omega)] at n4
        have n5 := (n4.set_ (i := k * 6 + 4) (by rw [mkTo_len]; omega) (s + ((k * 6 + 4 : Nat) : Int)))
        rw [mkTo_set s (by omega)] at n5
        have n6 := (n5.set_ (i := k * 6 + 5) (by rw [mkTo_len]; omega) (s + ((k * 6 + 5 : Nat) : Int)))
        rw [mkTo_set s (by omega)] at n6
        rw [show k * 6 + 5 + 1 = (k + 1) * 6 from by omega] at n6
        have e1 : (s + ((k * 6 + 1 : Nat) : Int)) = s + ((k * 6 : Nat) : Int) + 1 := by omega
        have e2 : (s + ((k * 6 + 2 : Nat) : Int)) = s + ((k * 6 : Nat) : Int) + 1 + 1 := by omega
        have e3 : (s + ((k * 6 + 3 : Nat) : Int)) = s + ((k * 6 : Nat) : Int) + 1 + 1 + 1 := by omega
        have e4 : (s + ((k * 6 + 4 : Nat) : Int)) = s + ((k * 6 : Nat) : Int) + 1 + 1 + 1 + 1 := by omega
        have e5 : (s + ((k * 6 + 5 : Nat) : Int)) = s + ((k * 6 : Nat) : Int) + 1 + 1 + 1 + 1 + 1 := by omega
        have e6 : (s + (((k + 1) * 6 : Nat) : Int)) = s + ((k * 6 : Nat) : Int) + 1 + 1 + 1 + 1 + 1 + 1 := by omega
        rw [e1, e2, e3, e4, e5] at n6
        have hq : ((k * 6 : Nat) : Int) ≤ 6291456 := by omega
        have hq0 : 0 ≤ ((k * 6 : Nat) : Int) := by omega
        generalize ((k * 6 : Nat) : Int) = q at n6 e6 hq hq0 ⊢
        generalize (mkTo s zs (k * 6)).getD (k * 6) 0 = z0 at c0
        generalize (mkTo s zs (k * 6)).getD (k * 6 + 1) 0 = z1 at c1
        generalize (mkTo s zs (k * 6)).getD (k * 6 + 2) 0 = z2 at c2
        generalize (mkTo s zs (k * 6)).getD (k * 6 + 3) 0 = z3 at c3
        generalize (mkTo s zs (k * 6)).getD (k * 6 + 4) 0 = z4 at c4
        generalize (mkTo s zs (k * 6)).getD (k * 6 + 5) 0 = z5 at c5
        have HN := Lib.hid n6
        have HG := Lib.hid hG
        have H3 := Lib.hid e6
        clear n1 n2 n3 n4 n5 n6 e1 e2 e3 e4 e5 e6 l0 hF hG hzl
        go_wp2_with fail
        go_roundw
        case rel => exact ⟨k + 1, by omega, by go_num, by rw [H3.out], HN.out, (g_set2 (g_set2 (g_set2 (g_set2 (g_set2 (g_set2 HG.out))))))⟩
        case measure => simp [intOf]; omega
      · obtain rfl : n = k := by omega
        have HF := Lib.hid hF
        have HG := Lib.hid hG
        clear hF hG
        go_wp2_with fail
        go_ret
        refine ⟨rfl, .inr ⟨g, c, rfl, hg, ?_, hc⟩, HG.out⟩
        have := HF.out
        rw [← HL.out, mkTo_end, HL.out] at this
        exact this
set_option maxHeartbeats 1000000 in
theorem lmarkLs (g : Nat) (ls : List Lr) (s : Int) (w : World) (h : RowLs w g ls.length ls) (hn : ls.length ≤ 1048576) (s0 : 0 ≤ s) (s1 : s ≤ 1000000000000) :
    Calls Try.prog 18 #[.slice (some ⟨g, 0, none⟩) ls.length ls.length, .int .i64 s] w fun e w' => e = .returned (.int .i64 (s + ((ls.length * 6 : Nat) : Int))) ∧ w.grownBy w' (some g) := by
  obtain ⟨zs, hl, F⟩ := h.flat
  refine (mkLz (some ⟨g, 0, none⟩) ls.length ls.length 0 zs s w (.inr ⟨g, ls.length, rfl, Nat.zero_le _, F, Nat.le_refl _⟩) hl hn s0 s1).mono ?_
  rintro e w' ⟨he, _, hG⟩
  exact ⟨he, hG⟩
end Go.Proofs.Ythagafkjlecagab
