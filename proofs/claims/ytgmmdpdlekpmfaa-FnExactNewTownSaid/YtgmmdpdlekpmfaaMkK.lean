/- Marks of the laws from any number on: holdings, turns, nodes, accounts. Condition: at most 1048576 of them. -/
import Derived.Test.YtgmmdpdlekpmfaaRowF
import Derived.Test.YtgmmdpdlekpmfaaGrB
namespace Go.Proofs.Ytgmmdpdlekpmfaa
open Go.RowKit
set_option linter.unusedSimpArgs false
set_option linter.unusedVariables false
set_option maxHeartbeats 4000000 in
theorem mkH (b : Option Addr) (c n base : Nat) (zs : List Int) (s : Int) (w : World) (h : RowF w base 97 (.slice b n c) n zs) (hl : zs.length = n * 3) (hn : n ≤ 1048576) (s0 : 0 ≤ s) (s1 : s ≤ 1000000000000) :
    Calls Try.prog 36 #[.slice b n c, .int .i64 s] w fun e w' => e = .returned (.int .i64 (s + ((n * 3 : Nat) : Int))) ∧ RowF w' base 97 (.slice b n c) n (mkS s (n * 3)) ∧ w.grownBy w' (Value.slice b n c).ownBlock := by
  rcases h with ⟨e, h0⟩ | ⟨g, cap, e, hg, F, hc⟩
  · injection e with e1 e2 e3
    subst e1 e3 h0
    go_enter Try.func36, Try.ntmps36
    go_wp2
    go_rounds 1
    go_ret
    exact ⟨by simp, .inl ⟨rfl, rfl⟩, g_of (Below.refl _ _) _⟩
  · injection e with e1 e2 e3
    subst e1 e3
    have H := Lib.hid F
    have HL := Lib.hid hl
    clear F hl
    go_enter Try.func36, Try.ntmps36
    go_wp2
    go_loopw [1, 5] (fun q i wr => ∃ k : Nat, k ≤ n ∧ i = .int .i64 k ∧ q = .int .i64 (s + ((k * 3 : Nat) : Int)) ∧ Flat wr g 97 (mkTo s zs (k * 3)) ∧ w.grownBy wr (some g)) (fun _ i _ => n - (intOf i).toNat)
    case atStart => exact ⟨0, Nat.zero_le _, rfl, by simp, by rw [Nat.zero_mul, mkTo_zero]; exact H.out, g_of (Below.refl _ _) _⟩
    case round =>
      obtain ⟨k, hk, rfl, rfl, hF, hG⟩ := hrel
      by_cases hlt : k < n
      · have hzl := HL.out
        have l0 := mkTo_len s zs (k * 3)
        have c0 := hF.cell (j := k * 3) (by omega)
        have f0 := hF.frozen (k * 3)
        have c1 := hF.cell (j := k * 3 + 1) (by omega)
        have f1 := hF.frozen (k * 3 + 1)
        have c2 := hF.cell (j := k * 3 + 2) (by omega)
        have f2 := hF.frozen (k * 3 + 2)
        have n1 := (hF.set_ (i := k * 3) (by rw [mkTo_len]; omega) (s + ((k * 3 : Nat) : Int)))
        rw [mkTo_set s (by omega)] at n1
        have n2 := (n1.set_ (i := k * 3 + 1) (by rw [mkTo_len]; omega) (s + ((k * 3 + 1 : Nat) : Int)))
        rw [mkTo_set s (by omega)] at n2
        have n3 := (n2.set_ (i := k * 3 + 2) (by rw [mkTo_len]; omega) (s + ((k * 3 + 2 : Nat) : Int)))
        rw [mkTo_set s (by omega)] at n3
        rw [show k * 3 + 2 + 1 = (k + 1) * 3 from by omega] at n3
        have e1 : (s + ((k * 3 + 1 : Nat) : Int)) = s + ((k * 3 : Nat) : Int) + 1 := by omega
        have e2 : (s + ((k * 3 + 2 : Nat) : Int)) = s + ((k * 3 : Nat) : Int) + 1 + 1 := by omega
        have e3 : (s + (((k + 1) * 3 : Nat) : Int)) = s + ((k * 3 : Nat) : Int) + 1 + 1 + 1 := by omega
        rw [e1, e2] at n3
        have hq : ((k * 3 : Nat) : Int) ≤ 3145728 := by omega
        have hq0 : 0 ≤ ((k * 3 : Nat) : Int) := by omega
        generalize ((k * 3 : Nat) : Int) = q at n3 e3 hq hq0 ⊢
        generalize (mkTo s zs (k * 3)).getD (k * 3) 0 = z0 at c0
        generalize (mkTo s zs (k * 3)).getD (k * 3 + 1) 0 = z1 at c1
        generalize (mkTo s zs (k * 3)).getD (k * 3 + 2) 0 = z2 at c2
        have HN := Lib.hid n3
        have HG := Lib.hid hG
        have H3 := Lib.hid e3
        clear n1 n2 n3 e1 e2 e3 l0 hF hG hzl
        go_wp2_with fail
        go_roundw
        case rel => exact ⟨k + 1, by omega, by go_num, by rw [H3.out], HN.out, (g_set2 (g_set2 (g_set2 HG.out)))⟩
        case measure => simp [intOf]; omega
      · obtain rfl : n = k := by omega
        have HF := Lib.hid hF
        have HG := Lib.hid hG
        clear hF hG
        go_wp2_with fail
        go_ret
        refine ⟨rfl, .inr ⟨g, c, rfl, hg, ?_, hc⟩, HG.out⟩
        have := HF.out
        rw [← HL.out, mkTo_end, HL.out] at this
        exact this
set_option maxHeartbeats 4000000 in
theorem hkH (b : Option Addr) (c n base : Nat) (s : Int) (w : World) (h : RowF w base 97 (.slice b n c) n (mkS s (n * 3))) (hn : n ≤ 1048576) (s0 : 0 ≤ s) (s1 : s ≤ 1000000000000) :
    Calls Try.prog 38 #[.slice b n c, .int .i64 s] w fun e w' => e = .returned (.int .i64 (s + ((n * 3 : Nat) : Int))) ∧ w = w' := by
  rcases h with ⟨e, h0⟩ | ⟨g, cap, e, hg, F, hc⟩
  · injection e with e1 e2 e3
    subst e1 e3 h0
    go_enter Try.func38, Try.ntmps38
    go_wp2
    go_rounds 1
    go_ret
    exact ⟨by simp, rfl⟩
  · injection e with e1 e2 e3
    subst e1 e3
    have H := Lib.hid F
    clear F
    go_enter Try.func38, Try.ntmps38
    go_wp2
    go_loop [1, 5] (fun q i => ∃ k : Nat, k ≤ n ∧ i = .int .i64 k ∧ q = .int .i64 (s + ((k * 3 : Nat) : Int))) (fun _ i => n - (intOf i).toNat)
    case atStart => exact ⟨0, Nat.zero_le _, rfl, by simp⟩
    case round =>
      obtain ⟨k, hk, rfl, rfl⟩ := hrel
      by_cases hlt : k < n
      · have c0 := H.out.cell (j := k * 3) (by rw [mkS_len]; omega)
        have c1 := H.out.cell (j := k * 3 + 1) (by rw [mkS_len]; omega)
        have c2 := H.out.cell (j := k * 3 + 2) (by rw [mkS_len]; omega)
        rw [mkS_get _ _ (by omega)] at c0 c1 c2
        rw [show (s + ((k * 3 + 1 : Nat) : Int)) = s + ((k * 3 : Nat) : Int) + 1 from by omega] at c1
        rw [show (s + ((k * 3 + 2 : Nat) : Int)) = s + ((k * 3 : Nat) : Int) + 1 + 1 from by omega] at c2
        have e3 : (s + (((k + 1) * 3 : Nat) : Int)) = s + ((k * 3 : Nat) : Int) + 1 + 1 + 1 := by omega
        have hq : ((k * 3 : Nat) : Int) ≤ 3145728 := by omega
        have hq0 : 0 ≤ ((k * 3 : Nat) : Int) := by omega
        generalize ((k * 3 : Nat) : Int) = q at c0 c1 c2 e3 hq hq0 ⊢
        have H3 := Lib.hid e3
        clear e3
        go_wp2_with fail
        go_round
        case rel => exact ⟨k + 1, by omega, by go_num, by rw [H3.out]⟩
        case measure => simp [intOf]; omega
      · obtain rfl : n = k := by omega
        go_wp2_with fail
        go_ret
        exact ⟨rfl, rfl⟩
set_option maxHeartbeats 4000000 in
theorem mkTn (b : Option Addr) (c n base : Nat) (zs : List Int) (s : Int) (w : World) (h : RowF w base 99 (.slice b n c) n zs) (hl : zs.length = n * 2) (hn : n ≤ 1048576) (s0 : 0 ≤ s) (s1 : s ≤ 1000000000000) :
    Calls Try.prog 65 #[.slice b n c, .int .i64 s] w fun e w' => e = .returned (.int .i64 (s + ((n * 2 : Nat) : Int))) ∧ RowF w' base 99 (.slice b n c) n (mkS s (n * 2)) ∧ w.grownBy w' (Value.slice b n c).ownBlock := by
  rcases h with ⟨e, h0⟩ | ⟨g, cap, e, hg, F, hc⟩
  · injection e with e1 e2 e3
    subst e1 e3 h0
    go_enter Try.func65, Try.ntmps65
    go_wp2
    go_rounds 1
    go_ret
    exact ⟨by simp, .inl ⟨rfl, rfl⟩, g_of (Below.refl _ _) _⟩
  · injection e with e1 e2 e3
    subst e1 e3
    have H := Lib.hid F
    have HL := Lib.hid hl
    clear F hl
    go_enter Try.func65, Try.ntmps65
    go_wp2
    go_loopw [1, 5] (fun q i wr => ∃ k : Nat, k ≤ n ∧ i = .int .i64 k ∧ q = .int .i64 (s + ((k * 2 : Nat) : Int)) ∧ Flat wr g 99 (mkTo s zs (k * 2)) ∧ w.grownBy wr (some g)) (fun _ i _ => n - (intOf i).toNat)
    case atStart => exact ⟨0, Nat.zero_le _, rfl, by simp, by rw [Nat.zero_mul, mkTo_zero]; exact H.out, g_of (Below.refl _ _) _⟩
    case round =>
      obtain ⟨k, hk, rfl, rfl, hF, hG⟩ := hrel
      by_cases hlt : k < n
      · have hzl := HL.out
        have l0 := mkTo_len s zs (k * 2)
        have c0 := hF.cell (j := k * 2) (by omega)
        have f0 := hF.frozen (k * 2)
        have c1 := hF.cell (j := k * 2 + 1) (by omega)
        have f1 := hF.frozen (k * 2 + 1)
        have n1 := (hF.set_ (i := k * 2) (by rw [mkTo_len]; omega) (s + ((k * 2 : Nat) : Int)))
        rw [mkTo_set s (by omega)] at n1
        have n2 := (n1.set_ (i := k * 2 + 1) (by rw [mkTo_len]; omega) (s + ((k * 2 + 1 : Nat) : Int)))
        rw [mkTo_set s (by omega)] at n2
        rw [show k * 2 + 1 + 1 = (k + 1) * 2 from by omega] at n2
        have e1 : (s + ((k * 2 + 1 : Nat) : Int)) = s + ((k * 2 : Nat) : Int) + 1 := by omega
        have e2 : (s + (((k + 1) * 2 : Nat) : Int)) = s + ((k * 2 : Nat) : Int) + 1 + 1 := by omega
        rw [e1] at n2
        have hq : ((k * 2 : Nat) : Int) ≤ 2097152 := by omega
        have hq0 : 0 ≤ ((k * 2 : Nat) : Int) := by omega
        generalize ((k * 2 : Nat) : Int) = q at n2 e2 hq hq0 ⊢
        generalize (mkTo s zs (k * 2)).getD (k * 2) 0 = z0 at c0
        generalize (mkTo s zs (k * 2)).getD (k * 2 + 1) 0 = z1 at c1
        have HN := Lib.hid n2
        have HG := Lib.hid hG
        have H3 := Lib.hid e2
        clear n1 n2 e1 e2 l0 hF hG hzl
        go_wp2_with fail
        go_roundw
        case rel => exact ⟨k + 1, by omega, by go_num, by rw [H3.out], HN.out, (g_set2 (g_set2 HG.out))⟩
        case measure => simp [intOf]; omega
      · obtain rfl : n = k := by omega
        have HF := Lib.hid hF
        have HG := Lib.hid hG
        clear hF hG
        go_wp2_with fail
        go_ret
        refine ⟨rfl, .inr ⟨g, c, rfl, hg, ?_, hc⟩, HG.out⟩
        have := HF.out
        rw [← HL.out, mkTo_end, HL.out] at this
        exact this
set_option maxHeartbeats 4000000 in
theorem hkTn (b : Option Addr) (c n base : Nat) (s : Int) (w : World) (h : RowF w base 99 (.slice b n c) n (mkS s (n * 2))) (hn : n ≤ 1048576) (s0 : 0 ≤ s) (s1 : s ≤ 1000000000000) :
    Calls Try.prog 68 #[.slice b n c, .int .i64 s] w fun e w' => e = .returned (.int .i64 (s + ((n * 2 : Nat) : Int))) ∧ w = w' := by
  rcases h with ⟨e, h0⟩ | ⟨g, cap, e, hg, F, hc⟩
  · injection e with e1 e2 e3
    subst e1 e3 h0
    go_enter Try.func68, Try.ntmps68
    go_wp2
    go_rounds 1
    go_ret
    exact ⟨by simp, rfl⟩
  · injection e with e1 e2 e3
    subst e1 e3
    have H := Lib.hid F
    clear F
    go_enter Try.func68, Try.ntmps68
    go_wp2
    go_loop [1, 5] (fun q i => ∃ k : Nat, k ≤ n ∧ i = .int .i64 k ∧ q = .int .i64 (s + ((k * 2 : Nat) : Int))) (fun _ i => n - (intOf i).toNat)
    case atStart => exact ⟨0, Nat.zero_le _, rfl, by simp⟩
    case round =>
      obtain ⟨k, hk, rfl, rfl⟩ := hrel
      by_cases hlt : k < n
      · have c0 := H.out.cell (j := k * 2) (by rw [mkS_len]; omega)
        have c1 := H.out.cell (j := k * 2 + 1) (by rw [mkS_len]; omega)
        rw [mkS_get _ _ (by omega)] at c0 c1
        rw [show (s + ((k * 2 + 1 : Nat) : Int)) = s + ((k * 2 : Nat) : Int) + 1 from by omega] at c1
        have e3 : (s + (((k + 1) * 2 : Nat) : Int)) = s + ((k * 2 : Nat) : Int) + 1 + 1 := by omega
        have hq : ((k * 2 : Nat) : Int) ≤ 2097152 := by omega
        have hq0 : 0 ≤ ((k * 2 : Nat) : Int) := by omega
        generalize ((k * 2 : Nat) : Int) = q at c0 c1 e3 hq hq0 ⊢
        have H3 := Lib.hid e3
        clear e3
        go_wp2_with fail
        go_round
        case rel => exact ⟨k + 1, by omega, by go_num, by rw [H3.out]⟩
        case measure => simp [intOf]; omega
      · obtain rfl : n = k := by omega
        go_wp2_with fail
        go_ret
        exact ⟨rfl, rfl⟩
set_option maxHeartbeats 4000000 in
theorem mkNd (b : Option Addr) (c n base : Nat) (zs : List Int) (s : Int) (w : World) (h : RowF w base 101 (.slice b n c) n zs) (hl : zs.length = n * 5) (hn : n ≤ 1048576) (s0 : 0 ≤ s) (s1 : s ≤ 1000000000000) :
    Calls Try.prog 66 #[.slice b n c, .int .i64 s] w fun e w' => e = .returned (.int .i64 (s + ((n * 5 : Nat) : Int))) ∧ RowF w' base 101 (.slice b n c) n (mkS s (n * 5)) ∧ w.grownBy w' (Value.slice b n c).ownBlock := by
  rcases h with ⟨e, h0⟩ | ⟨g, cap, e, hg, F, hc⟩
  · injection e with e1 e2 e3
    subst e1 e3 h0
    go_enter Try.func66, Try.ntmps66
    go_wp2
    go_rounds 1
    go_ret
    exact ⟨by simp, .inl ⟨rfl, rfl⟩, g_of (Below.refl _ _) _⟩
  · injection e with e1 e2 e3
    subst e1 e3
    have H := Lib.hid F
    have HL := Lib.hid hl
    clear F hl
    go_enter Try.func66, Try.ntmps66
    go_wp2
    go_loopw [1, 5] (fun q i wr => ∃ k : Nat, k ≤ n ∧ i = .int .i64 k ∧ q = .int .i64 (s + ((k * 5 : Nat) : Int)) ∧ Flat wr g 101 (mkTo s zs (k * 5)) ∧ w.grownBy wr (some g)) (fun _ i _ => n - (intOf i).toNat)
    case atStart => exact ⟨0, Nat.zero_le _, rfl, by simp, by rw [Nat.zero_mul, mkTo_zero]; exact H.out, g_of (Below.refl _ _) _⟩
    case round =>
      obtain ⟨k, hk, rfl, rfl, hF, hG⟩ := hrel
      by_cases hlt : k < n
      · have hzl := HL.out
        have l0 := mkTo_len s zs (k * 5)
        have c0 := hF.cell (j := k * 5) (by omega)
        have f0 := hF.frozen (k * 5)
        have c1 := hF.cell (j := k * 5 + 1) (by omega)
        have f1 := hF.frozen (k * 5 + 1)
        have c2 := hF.cell (j := k * 5 + 2) (by omega)
        have f2 := hF.frozen (k * 5 + 2)
        have c3 := hF.cell (j := k * 5 + 3) (by omega)
        have f3 := hF.frozen (k * 5 + 3)
        have c4 := hF.cell (j := k * 5 + 4) (by omega)
        have f4 := hF.frozen (k * 5 + 4)
        have n1 := (hF.set_ (i := k * 5) (by rw [mkTo_len]; omega) (s + ((k * 5 : Nat) : Int)))
        rw [mkTo_set s (by omega)] at n1
        have n2 := (n1.set_ (i := k * 5 + 1) (by rw [mkTo_len]; omega) (s + ((k * 5 + 1 : Nat) : Int)))
        rw [mkTo_set s (by omega)] at n2
        have n3 := (n2.set_ (i := k * 5 + 2) (by rw [mkTo_len]; omega) (s + ((k * 5 + 2 : Nat) : Int)))
        rw [mkTo_set s (by omega)] at n3
        have n4 := (n3.set_ (i := k * 5 + 3) (by rw [mkTo_len]; omega) (s + ((k * 5 + 3 : Nat) : Int)))
        rw [mkTo_set s (by omega)] at n4
        have n5 := (n4.set_ (i := k * 5 + 4) (by rw [mkTo_len]; omega) (s + ((k * 5 + 4 : Nat) : Int)))
        rw [mkTo_set s (by omega)] at n5
        rw [show k * 5 + 4 + 1 = (k + 1) * 5 from by omega] at n5
        have e1 : (s + ((k * 5 + 1 : Nat) : Int)) = s + ((k * 5 : Nat) : Int) + 1 := by omega
        have e2 : (s + ((k * 5 + 2 : Nat) : Int)) = s + ((k * 5 : Nat) : Int) + 1 + 1 := by omega
        have e3 : (s + ((k * 5 + 3 : Nat) : Int)) = s + ((k * 5 : Nat) : Int) + 1 + 1 + 1 := by omega
        have e4 : (s + ((k * 5 + 4 : Nat) : Int)) = s + ((k * 5 : Nat) : Int) + 1 + 1 + 1 + 1 := by omega
        have e5 : (s + (((k + 1) * 5 : Nat) : Int)) = s + ((k * 5 : Nat) : Int) + 1 + 1 + 1 + 1 + 1 := by omega
        rw [e1, e2, e3, e4] at n5
        have hq : ((k * 5 : Nat) : Int) ≤ 5242880 := by omega
        have hq0 : 0 ≤ ((k * 5 : Nat) : Int) := by omega
        generalize ((k * 5 : Nat) : Int) = q at n5 e5 hq hq0 ⊢
        generalize (mkTo s zs (k * 5)).getD (k * 5) 0 = z0 at c0
        generalize (mkTo s zs (k * 5)).getD (k * 5 + 1) 0 = z1 at c1
        generalize (mkTo s zs (k * 5)).getD (k * 5 + 2) 0 = z2 at c2
        generalize (mkTo s zs (k * 5)).getD (k * 5 + 3) 0 = z3 at c3
        generalize (mkTo s zs (k * 5)).getD (k * 5 + 4) 0 = z4 at c4
        have HN := Lib.hid n5
        have HG := Lib.hid hG
        have H3 := Lib.hid e5
        clear n1 n2 n3 n4 n5 e1 e2 e3 e4 e5 l0 hF hG hzl
        go_wp2_with fail
        go_roundw
        case rel => exact ⟨k + 1, by omega, by go_num, by rw [H3.out], HN.out, (g_set2 (g_set2 (g_set2 (g_set2 (g_set2 HG.out)))))⟩
        case measure => simp [intOf]; omega
      · obtain rfl : n = k := by omega
        have HF := Lib.hid hF
        have HG := Lib.hid hG
        clear hF hG
        go_wp2_with fail
        go_ret
        refine ⟨rfl, .inr ⟨g, c, rfl, hg, ?_, hc⟩, HG.out⟩
        have := HF.out
        rw [← HL.out, mkTo_end, HL.out] at this
        exact this
set_option maxHeartbeats 4000000 in
theorem hkNd (b : Option Addr) (c n base : Nat) (s : Int) (w : World) (h : RowF w base 101 (.slice b n c) n (mkS s (n * 5))) (hn : n ≤ 1048576) (s0 : 0 ≤ s) (s1 : s ≤ 1000000000000) :
    Calls Try.prog 69 #[.slice b n c, .int .i64 s] w fun e w' => e = .returned (.int .i64 (s + ((n * 5 : Nat) : Int))) ∧ w = w' := by
  rcases h with ⟨e, h0⟩ | ⟨g, cap, e, hg, F, hc⟩
  · injection e with e1 e2 e3
    subst e1 e3 h0
    go_enter Try.func69, Try.ntmps69
    go_wp2
    go_rounds 1
    go_ret
    exact ⟨by simp, rfl⟩
  · injection e with e1 e2 e3
    subst e1 e3
    have H := Lib.hid F
    clear F
    go_enter Try.func69, Try.ntmps69
    go_wp2
    go_loop [1, 5] (fun q i => ∃ k : Nat, k ≤ n ∧ i = .int .i64 k ∧ q = .int .i64 (s + ((k * 5 : Nat) : Int))) (fun _ i => n - (intOf i).toNat)
    case atStart => exact ⟨0, Nat.zero_le _, rfl, by simp⟩
    case round =>
      obtain ⟨k, hk, rfl, rfl⟩ := hrel
      by_cases hlt : k < n
      · have c0 := H.out.cell (j := k * 5) (by rw [mkS_len]; omega)
        have c1 := H.out.cell (j := k * 5 + 1) (by rw [mkS_len]; omega)
        have c2 := H.out.cell (j := k * 5 + 2) (by rw [mkS_len]; omega)
        have c3 := H.out.cell (j := k * 5 + 3) (by rw [mkS_len]; omega)
        have c4 := H.out.cell (j := k * 5 + 4) (by rw [mkS_len]; omega)
        rw [mkS_get _ _ (by omega)] at c0 c1 c2 c3 c4
        rw [show (s + ((k * 5 + 1 : Nat) : Int)) = s + ((k * 5 : Nat) : Int) + 1 from by omega] at c1
        rw [show (s + ((k * 5 + 2 : Nat) : Int)) = s + ((k * 5 : Nat) : Int) + 1 + 1 from by omega] at c2
        rw [show (s + ((k * 5 + 3 : Nat) : Int)) = s + ((k * 5 : Nat) : Int) + 1 + 1 + 1 from by omega] at c3
        rw [show (s + ((k * 5 + 4 : Nat) : Int)) = s + ((k * 5 : Nat) : Int) + 1 + 1 + 1 + 1 from by omega] at c4
        have e3 : (s + (((k + 1) * 5 : Nat) : Int)) = s + ((k * 5 : Nat) : Int) + 1 + 1 + 1 + 1 + 1 := by omega
        have hq : ((k * 5 : Nat) : Int) ≤ 5242880 := by omega
        have hq0 : 0 ≤ ((k * 5 : Nat) : Int) := by omega
        generalize ((k * 5 : Nat) : Int) = q at c0 c1 c2 c3 c4 e3 hq hq0 ⊢
        have H3 := Lib.hid e3
        clear e3
        go_wp2_with fail
        go_round
        case rel => exact ⟨k + 1, by omega, by go_num, by rw [H3.out]⟩
        case measure => simp [intOf]; omega
      · obtain rfl : n = k := by omega
        go_wp2_with fail
        go_ret
        exact ⟨rfl, rfl⟩
set_option maxHeartbeats 4000000 in
theorem mkAc (b : Option Addr) (c n base : Nat) (zs : List Int) (s : Int) (w : World) (h : RowF w base 45 (.slice b n c) n zs) (hl : zs.length = n * 2) (hn : n ≤ 1048576) (s0 : 0 ≤ s) (s1 : s ≤ 1000000000000) :
    Calls Try.prog 67 #[.slice b n c, .int .i64 s] w fun e w' => e = .returned (.int .i64 (s + ((n * 2 : Nat) : Int))) ∧ RowF w' base 45 (.slice b n c) n (mkS s (n * 2)) ∧ w.grownBy w' (Value.slice b n c).ownBlock := by
  rcases h with ⟨e, h0⟩ | ⟨g, cap, e, hg, F, hc⟩
  · injection e with e1 e2 e3
    subst e1 e3 h0
    go_enter Try.func67, Try.ntmps67
    go_wp2
    go_rounds 1
    go_ret
    exact ⟨by simp, .inl ⟨rfl, rfl⟩, g_of (Below.refl _ _) _⟩
  · injection e with e1 e2 e3
    subst e1 e3
    have H := Lib.hid F
    have HL := Lib.hid hl
    clear F hl
    go_enter Try.func67, Try.ntmps67
    go_wp2
    go_loopw [1, 5] (fun q i wr => ∃ k : Nat, k ≤ n ∧ i = .int .i64 k ∧ q = .int .i64 (s + ((k * 2 : Nat) : Int)) ∧ Flat wr g 45 (mkTo s zs (k * 2)) ∧ w.grownBy wr (some g)) (fun _ i _ => n - (intOf i).toNat)
    case atStart => exact ⟨0, Nat.zero_le _, rfl, by simp, by rw [Nat.zero_mul, mkTo_zero]; exact H.out, g_of (Below.refl _ _) _⟩
    case round =>
      obtain ⟨k, hk, rfl, rfl, hF, hG⟩ := hrel
      by_cases hlt : k < n
      · have hzl := HL.out
        have l0 := mkTo_len s zs (k * 2)
        have c0 := hF.cell (j := k * 2) (by omega)
        have f0 := hF.frozen (k * 2)
        have c1 := hF.cell (j := k * 2 + 1) (by omega)
        have f1 := hF.frozen (k * 2 + 1)
        have n1 := (hF.set_ (i := k * 2) (by rw [mkTo_len]; omega) (s + ((k * 2 : Nat) : Int)))
        rw [mkTo_set s (by omega)] at n1
        have n2 := (n1.set_ (i := k * 2 + 1) (by rw [mkTo_len]; omega) (s + ((k * 2 + 1 : Nat) : Int)))
        rw [mkTo_set s (by omega)] at n2
        rw [show k * 2 + 1 + 1 = (k + 1) * 2 from by omega] at n2
        have e1 : (s + ((k * 2 + 1 : Nat) : Int)) = s + ((k * 2 : Nat) : Int) + 1 := by omega
        have e2 : (s + (((k + 1) * 2 : Nat) : Int)) = s + ((k * 2 : Nat) : Int) + 1 + 1 := by omega
        rw [e1] at n2
        have hq : ((k * 2 : Nat) : Int) ≤ 2097152 := by omega
        have hq0 : 0 ≤ ((k * 2 : Nat) : Int) := by omega
        generalize ((k * 2 : Nat) : Int) = q at n2 e2 hq hq0 ⊢
        generalize (mkTo s zs (k * 2)).getD (k * 2) 0 = z0 at c0
        generalize (mkTo s zs (k * 2)).getD (k * 2 + 1) 0 = z1 at c1
        have HN := Lib.hid n2
        have HG := Lib.hid hG
        have H3 := Lib.hid e2
        clear n1 n2 e1 e2 l0 hF hG hzl
        go_wp2_with fail
        go_roundw
        case rel => exact ⟨k + 1, by omega, by go_num, by rw [H3.out], HN.out, (g_set2 (g_set2 HG.out))⟩
        case measure => simp [intOf]; omega
      · obtain rfl : n = k := by omega
        have HF := Lib.hid hF
        have HG := Lib.hid hG
        clear hF hG
        go_wp2_with fail
        go_ret
        refine ⟨rfl, .inr ⟨g, c, rfl, hg, ?_, hc⟩, HG.out⟩
        have := HF.out
        rw [← HL.out, mkTo_end, HL.out] at this
        exact this
set_option maxHeartbeats 4000000 in
theorem hkAc (b : Option Addr) (c n base : Nat) (s : Int) (w : World) (h : RowF w base 45 (.slice b n c) n (mkS s (n * 2))) (hn : n ≤ 1048576) (s0 : 0 ≤ s) (s1 : s ≤ 1000000000000) :
    Calls Try.prog 70 #[.slice b n c, .int .i64 s] w fun e w' => e = .returned (.int .i64 (s + ((n * 2 : Nat) : Int))) ∧ w = w' := by
  rcases h with ⟨e, h0⟩ | ⟨g, cap, e, hg, F, hc⟩
  · injection e with e1 e2 e3
    subst e1 e3 h0
    go_enter Try.func70, Try.ntmps70
    go_wp2
    go_rounds 1
    go_ret
    exact ⟨by simp, rfl⟩
  · injection e with e1 e2 e3
    subst e1 e3
    have H := Lib.hid F
    clear F
    go_enter Try.func70, Try.ntmps70
    go_wp2
    go_loop [1, 5] (fun q i => ∃ k : Nat, k ≤ n ∧ i = .int .i64 k ∧ q = .int .i64 (s + ((k * 2 : Nat) : Int))) (fun _ i => n - (intOf i).toNat)
    case atStart => exact ⟨0, Nat.zero_le _, rfl, by simp⟩
    case round =>
      obtain ⟨k, hk, rfl, rfl⟩ := hrel
      by_cases hlt : k < n
      · have c0 := H.out.cell (j := k * 2) (by rw [mkS_len]; omega)
        have c1 := H.out.cell (j := k * 2 + 1) (by rw [mkS_len]; omega)
        rw [mkS_get _ _ (by omega)] at c0 c1
        rw [show (s + ((k * 2 + 1 : Nat) : Int)) = s + ((k * 2 : Nat) : Int) + 1 from by omega] at c1
        have e3 : (s + (((k + 1) * 2 : Nat) : Int)) = s + ((k * 2 : Nat) : Int) + 1 + 1 := by omega
        have hq : ((k * 2 : Nat) : Int) ≤ 2097152 := by omega
        have hq0 : 0 ≤ ((k * 2 : Nat) : Int) := by omega
        generalize ((k * 2 : Nat) : Int) = q at c0 c1 e3 hq hq0 ⊢
        have H3 := Lib.hid e3
        clear e3
        go_wp2_with fail
        go_round
        case rel => exact ⟨k + 1, by omega, by go_num, by rw [H3.out]⟩
        case measure => simp [intOf]; omega
      · obtain rfl : n = k := by omega
        go_wp2_with fail
        go_ret
        exact ⟨rfl, rfl⟩
end Go.Proofs.Ytgmmdpdlekpmfaa
