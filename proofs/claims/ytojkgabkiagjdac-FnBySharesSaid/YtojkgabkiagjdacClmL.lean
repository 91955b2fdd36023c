/- Claims by the program: what nobody else claims, shares. Condition: at most 1048576 numbers. -/
import Derived.Test.YtojkgabkiagjdacClmJ
import Derived.Deep.RegionHeld3
namespace Go.Proofs.Ytojkgabkiagjdac
open Go.RowKit
set_option linter.unusedSimpArgs false
set_option linter.unusedVariables false
set_option maxRecDepth 100000 in
set_option maxHeartbeats 4000000 in
/-- impl.AtLeast -/
theorem iAtLeast (n : Int) (a : Option Addr) (ca : Nat) (cs : List Int) (w : World) (h : IsInts w a cs) (hn : cs.length ≤ 1048576) :
    Calls Try.prog 15 #[.int .i64 n, .slice a cs.length ca] w (OutI w (leastV n cs)) := by
  have CV := iVC n a ca cs w h hn
  cases hv : vcB n cs with
  | false =>
    rw [leastV_no hv]
    rw [hv] at CV
    clear hv h
    go_enter Try.func15, Try.ntmps15
    go_wp2_with fail
    refine CV.mono ?_
    rintro e w' ⟨rfl, rfl⟩
    go_wp2_with fail
    go_ret
    exact outI_nil (Below.refl _ _)
  | true =>
  rw [leastV_yes hv]
  rw [hv] at CV
  obtain ⟨v1, v2, v3, v4⟩ := vc_iff.1 hv
  have hs := vc_bd v1 v2
  have CS := isum a ca cs w h hn (all_bd v1 (by omega))
  have HA := Lib.hid h
  have HCB := Lib.hid (fun i (hi : i < cs.length) => allB_get v1 hi)
  have HSG := Lib.hid (fun i (hi : i < cs.length) => sureC_get n cs hi)
  have HSL := Lib.hid (sureC_len n cs)
  obtain ⟨m, hm⟩ : ∃ m, cs.length = m := ⟨_, rfl⟩
  have hmk := run_make_row' (P := Try.prog) 23 3 (.int .i64 0) 8 Try.underlying23 infoInt rfl .i64 .i64 m (by omega) (by omega)
  have hM := OwnI.made (Below.refl w.heap.size w) m (by omega)
  have hB2 := (Below.refl w.heap.size w).alloc (Nat.le_refl _) (.cells (madeCells #[.int .i64 0] m) 3)
  rw [show List.replicate m (0 : Int) = mixZ (sureC n cs) 0 from by rw [mix_none (fun i hi hl => by omega), sureC_len, hm]] at hM
  have HM := Lib.hid (And.intro hM hB2)
  have HL := Lib.hid hm
  have m12 : m ≤ 12 := by omega
  have n6 : n ≤ 6000 := by omega
  generalize cs.sum = S at *
  generalize sureC n cs = V at *
  rw [hm] at CV CS
  rw [hm]
  clear hM hB2 hm hv v1 v2 v4 h hn
  go_enter Try.func15, Try.ntmps15
  go_wp2_with fail
  refine CV.mono ?_
  rintro e w' ⟨rfl, rfl⟩
  clear CV
  go_wp2_with fail
  refine CS.mono ?_
  rintro e w' ⟨rfl, rfl⟩
  clear CS
  go_wp2_with fail
  clear hmk
  go_loopw [21] (fun i wr => ∃ k : Nat, k ≤ m ∧ i = .int .i64 k ∧ Hid (OwnI wr w.heap.size (.slice (some ⟨w.heap.size, 0, none⟩) m m) (mixZ V k) ∧ Below w.heap.size w wr)) (fun i _ => m - (intOf i).toNat)
  case atStart => exact ⟨0, Nat.zero_le _, rfl, HM.out⟩
  case round =>
    clear HM
    obtain ⟨k, hk, rfl, HR⟩ := hrel
    by_cases hlt : k < m
    · obtain ⟨O, B⟩ := HR.out
      have hkc : k < cs.length := by have := HL.out; omega
      obtain ⟨gc, oc, rfl, x0⟩ := ints_open HA.out (by omega)
      have x0 := cell_now (x0 k hkc) B
      have e0 := HSG.out k hkc
      have b1 := HCB.out k hkc
      have k0 : (0 : Int) ≤ (k : Int) := by omega
      have k1 : (k : Int) < (m : Int) := by omega
      have wz : IntKind.i64.wrap (S - cs.getD k 0) = S - cs.getD k 0 := by rw [IntKind.wrap_i64]; omega
      by_cases c : S - cs.getD k 0 < n
      · have hms := mix_set (zs := V) (k := k) (by rw [HSL.out]; exact hkc)
        have hd := O.cell (j := k) (by rw [mix_len, HSL.out]; exact hkc)
        have hf := O.frozen k
        rw [show V.getD k 0 = n - (S - cs.getD k 0) by omega] at hms
        have O2 := O.set_ k (n - (S - cs.getD k 0))
        rw [hms] at O2
        have HS := Lib.hid (And.intro O2 (B.setCell (p := ⟨w.heap.size, k, none⟩) (Nat.le_refl _) (.int .i64 (n - (S - cs.getD k 0)))))
        have wz2 : IntKind.i64.wrap (n - (S - cs.getD k 0)) = n - (S - cs.getD k 0) := by rw [IntKind.wrap_i64]; omega
        generalize (mixZ V k).getD k 0 = y at hd
        clear hms O2 O B HR e0 hkc
        generalize cs.getD k 0 = z at *
        go_wp2_with fail
        go_roundw
        case rel => exact ⟨k + 1, by omega, by go_num, HS.out⟩
        case measure => simp [intOf]; omega
      · have hsk := mix_skip (zs := V) (k := k) (by omega)
        rw [← hsk] at O
        have HS := Lib.hid (And.intro O B)
        clear hsk O B HR e0 hkc
        generalize cs.getD k 0 = z at *
        go_wp2_with fail
        go_roundw
        case rel => exact ⟨k + 1, by omega, by go_num, HS.out⟩
        case measure => simp [intOf]; omega
    · obtain rfl : k = m := by omega
      rw [mix_all (by rw [HSL.out, HL.out]; exact Nat.le_refl _)] at HR
      go_wp2_with fail
      go_ret
      exact ⟨_, rfl, HR.out⟩
/-- ByShares -/
def bsB (n : Int) (cs : List Int) : Bool := vcB n cs && decide (n ≤ 500)
def shareV (n : Int) (cs : List Int) : List Int := if bsB n cs = true then (if cs.sum = 0 then List.replicate cs.length 0 else sr n cs) else []
theorem bs_is {n : Int} {cs : List Int} (h : bsB n cs = true) : vcB n cs = true ∧ n ≤ 500 := by unfold bsB at h; rwa [Bool.and_eq_true, decide_eq_true_eq] at h
theorem bs_yes {n : Int} {cs : List Int} (h : vcB n cs = true) (h2 : n ≤ 500) : bsB n cs = true := by unfold bsB; rw [h, decide_eq_true h2]; rfl
theorem bs_no1 {n : Int} {cs : List Int} (h : vcB n cs = false) : bsB n cs = false := by unfold bsB; rw [h]; rfl
theorem bs_no2 {n : Int} {cs : List Int} (h : 500 < n) : bsB n cs = false := by unfold bsB; rw [decide_eq_false (by omega : ¬ n ≤ 500)]; simp
theorem share_no {n : Int} {cs : List Int} (h : bsB n cs = false) : shareV n cs = [] := by unfold shareV; rw [h]; rfl
theorem share_yes {n : Int} {cs : List Int} (h : bsB n cs = true) : shareV n cs = if cs.sum = 0 then List.replicate cs.length 0 else sr n cs := if_pos h
theorem share_cs {n : Int} {cs : List Int} (h : bsB n cs = true) (h0 : cs.sum ≠ 0) : csB n cs = true := by
  obtain ⟨a, b⟩ := bs_is h
  obtain ⟨v1, v2, v3, v4⟩ := vc_iff.1 a
  have hs := vc_bd v1 v2
  have v5 : allB cs 1000 = true := by
    rw [allB_iff] at v1 ⊢
    intro z hz; have := v1 z hz; omega
  unfold csB vwB
  rw [decide_eq_true v3, decide_eq_true b, v5, decide_eq_true v2, decide_eq_true (by omega)]; rfl
theorem share_len {n : Int} {cs : List Int} (h : bsB n cs = true) : (shareV n cs).length = cs.length := by
  rw [share_yes h]
  split
  · exact List.length_replicate ..
  · rename_i c; exact sr_len n cs
set_option maxRecDepth 100000 in
set_option maxHeartbeats 4000000 in
/-- impl.ByShares -/
theorem iShares (n : Int) (a : Option Addr) (ca : Nat) (cs : List Int) (w : World) (h : IsInts w a cs) (hn : cs.length ≤ 1048576) :
    Calls Try.prog 27 #[.int .i64 n, .slice a cs.length ca] w (OutI w (shareV n cs)) := by
  by_cases c5 : 500 < n
  · rw [share_no (bs_no2 c5)]
    clear h
    go_enter Try.func27, Try.ntmps27
    go_wp2_with fail
    go_ret
    exact outI_nil (Below.refl _ _)
  have e5 : decide (500 < n) = false := decide_eq_false c5
  have CV := iVC n a ca cs w h hn
  cases hv : vcB n cs with
  | false =>
    rw [share_no (bs_no1 hv)]
    rw [hv] at CV
    clear hv h
    go_enter Try.func27, Try.ntmps27
    go_wp2_with fail
    refine CV.mono ?_
    rintro e w' ⟨rfl, rfl⟩
    go_wp2_with fail
    go_ret
    exact outI_nil (Below.refl _ _)
  | true =>
  have hb := bs_yes hv (by omega)
  rw [share_yes hb]
  rw [hv] at CV
  obtain ⟨v1, v2, v3, v4⟩ := vc_iff.1 hv
  have CS := isum a ca cs w h hn (all_bd v1 (by omega))
  by_cases s0 : cs.sum = 0
  · rw [if_pos s0]
    rw [s0] at CS
    have hmk := run_make_row' (P := Try.prog) 23 3 (.int .i64 0) 8 Try.underlying23 infoInt rfl .i64 .i64 cs.length (by omega) (by omega)
    have hM := OwnI.made (Below.refl w.heap.size w) cs.length (by omega)
    have hB2 := (Below.refl w.heap.size w).alloc (Nat.le_refl _) (.cells (madeCells #[.int .i64 0] cs.length) 3)
    have HM := Lib.hid (And.intro hM hB2)
    clear hM hB2 s0 v1 v2 v3 v4 hb hv h
    go_enter Try.func27, Try.ntmps27
    go_wp2_with fail
    refine CV.mono ?_
    rintro e w' ⟨rfl, rfl⟩
    go_wp2_with fail
    refine CS.mono ?_
    rintro e w' ⟨rfl, rfl⟩
    go_wp2_with fail
    go_ret
    exact ⟨_, rfl, HM.out⟩
  · rw [if_neg s0]
    have CR := irest n a ca cs w h hn (share_cs hb s0)
    have HLN := Lib.hid (And.intro (sr_len n cs) hn)
    have e0 : (cs.sum == 0) = false := by rw [beq_eq_false_iff_ne]; exact s0
    generalize cs.sum = S at *
    generalize sr n cs = R at *
    clear s0 v1 v2 v3 v4 hb hv h
    go_enter Try.func27, Try.ntmps27
    go_wp2_with fail
    refine CV.mono ?_
    rintro e w' ⟨rfl, rfl⟩
    clear CV
    go_wp2_with fail
    refine CS.mono ?_
    rintro e w' ⟨rfl, rfl⟩
    clear CS
    go_wp2_with fail
    refine CR.mono ?_
    rintro e w1 ⟨g, rfl, hg, hrow, hB⟩
    have HF : Hid (OwnI w1 w.heap.size (.slice (some ⟨g, 0, none⟩) cs.length cs.length) R ∧ Below w.heap.size w w1) := ⟨OwnI.of_row (by have := hrow; unfold Row at this; rw [HLN.out.1] at this; exact this) HLN.out.1 (fun j _ => rfl) hg HLN.out.2, hB⟩
    clear hrow hB CR
    go_wp2_with fail
    go_ret
    exact ⟨_, rfl, HF.out⟩
end Go.Proofs.Ytojkgabkiagjdac
