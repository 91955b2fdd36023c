/- Claims by the model: what nobody else claims, shares. Condition: at most 1048576 numbers. -/
import Derived.Test.YtojkgabkiagjdacClmT
import Derived.Test.YtojkgabkiagjdacClmL
import Derived.Test.YtojkgabkiagjdacRestS
import Derived.Deep.RegionHeld3
import Derived.Deep.AppendLies
namespace Go.Proofs.Ytojkgabkiagjdac
open Go.RowKit
set_option linter.unusedSimpArgs false
set_option linter.unusedVariables false
set_option maxRecDepth 100000 in
set_option maxHeartbeats 4000000 in
/-- spec.AtLeast -/
theorem sAtLeast (n : Int) (a : Option Addr) (ca : Nat) (cs : List Int) (w : World) (h : IsInts w a cs) (hn : cs.length ≤ 1048576) :
    Calls Try.prog 22 #[.int .i64 n, .slice a cs.length ca] w (OutI w (leastV n cs)) := by
  have CV := svc n a ca cs w h hn
  cases hv : vcB n cs with
  | false =>
    rw [leastV_no hv]
    rw [hv] at CV
    clear hv h
    go_enter Try.func22, Try.ntmps22
    go_wp2_with fail
    refine CV.mono ?_
    rintro e w' ⟨rfl, rfl⟩
    go_wp2_with fail
    go_ret
    exact outI_nil (Below.refl _ _)
  | true =>
  rw [leastV_yes hv]
  rw [hv] at CV
  obtain ⟨i0, hi0, hz0, hz1, hz2⟩ := info_parts infoInt
  obtain ⟨v1, v2, v3, v4⟩ := vc_iff.1 hv
  have hs := vc_bd v1 v2
  have CT := fun (W : World) (hW : Below w.heap.size w W) => stotal a ca cs W (ints_below h hW) hn (all_bd v1 (by omega))
  have HA := Lib.hid h
  have HCB := Lib.hid (fun i (hi : i < cs.length) => allB_get v1 hi)
  have HSG := Lib.hid (fun i (hi : i < cs.length) => sureC_get n cs hi)
  have HSL := Lib.hid (sureC_len n cs)
  have HM := Lib.hid (And.intro (OwnI.new (Below.refl w.heap.size w)) ((Below.refl w.heap.size w).alloc (Nat.le_refl _) (.cells #[] 3)))
  obtain ⟨m, hm⟩ : ∃ m, cs.length = m := ⟨_, rfl⟩
  have HL := Lib.hid hm
  have m12 : m ≤ 12 := by omega
  have n6 : n ≤ 6000 := by omega
  rw [hm] at CV CT HSG HSL HCB
  rw [hm]
  have HCT := Lib.hid CT
  generalize cs.sum = S at *
  generalize sureC n cs = VV at *
  have HVL : Hid (VV.length = m) := HSL.out
  clear hm hv v1 v2 v4 h hn CT HSL
  go_enter Try.func22, Try.ntmps22
  go_wp2_with fail
  refine CV.mono ?_
  rintro e w' ⟨rfl, rfl⟩
  clear CV
  go_wp2_with fail
  go_loopw [5, 6] (fun v i wr => ∃ k : Nat, k ≤ m ∧ i = .int .i64 k ∧ Hid (OwnI wr w.heap.size v (VV.take k)) ∧ Hid (Below w.heap.size w wr)) (fun _ i _ => m - (intOf i).toNat)
  case atStart => exact ⟨0, Nat.zero_le _, rfl, HM.out.1, HM.out.2⟩
  case round =>
    clear HM
    obtain ⟨k, hk, rfl, HO, HB⟩ := hrel
    by_cases hlt : k < m
    · have hkc : k < cs.length := by have := HL.out; omega
      obtain ⟨gc, oc, rfl, x0⟩ := ints_open HA.out (by omega)
      have xw := x0 k hkc
      have x0 := cell_now xw HB.out
      have HVG := Lib.hid (HSG.out k hlt)
      have b1 := HCB.out k hlt
      have HMK := Lib.hid (fun (W : World) (hW : Below w.heap.size w W) => (⟨cell_now xw hW, hW⟩ : W.cell? ⟨gc, oc + k, none⟩ = some (.int .i64 (cs.getD k 0)) ∧ Below w.heap.size w W))
      generalize cs.getD k 0 = c at *
      have k0 : (0 : Int) ≤ (k : Int) := by omega
      have k1 : (k : Int) < (m : Int) := by omega
      have w1_ : IntKind.i64.wrap (n - S) = n - S := by rw [IntKind.wrap_i64]; omega
      have w2_ : IntKind.i64.wrap (n - S + c) = n - S + c := by rw [IntKind.wrap_i64]; omega
      have hBd : Below w.heap.size w wr.drew := HB.out.drew
      have HLT : Hid ((VV.take k).length = k) := by show _ = _; rw [List.length_take, HVL.out]; omega
      have HO1 := HO.out
      unfold OwnI at HO1
      rw [HLT.out] at HO1
      have HOA := Lib.hid (fun z : Int => (World.ownsRow.drew HO1).alloc (.cells #[.int .i64 z] 3))
      clear HO1
      have hbs : ∀ z : Int, w.heap.size ≤ (wr.drew.alloc (.cells #[.int .i64 z] 3)).heap.size := fun z => by have := hBd.size; simp at this ⊢; omega
      have hnew : ∀ z : Int, Reads (wr.drew.alloc (.cells #[.int .i64 z] 3)) (wr.heap.size + 1) 1 (some ⟨wr.heap.size, 0, none⟩) 1 [.int .i64 z] := fun z => ⟨rfl, fun _ => ⟨_, rfl, by simp, fun j u hu => cell_one_new _ _ _ j u hu⟩⟩
      clear hkc xw x0
      by_cases c0 : 0 < n - S + c
      · skip
        skip
        have HTK : Hid (VV.take (k + 1) = VV.take k ++ [n - S + c]) := by show _ = _; rw [take_next (by rw [HVL.out]; exact hlt), HVG.out]; congr 2; omega
        have HOZ := Lib.hid (HOA.out (n - S + c))
        have hbz := hbs (n - S + c)
        have hnz := hnew (n - S + c)
        clear HVG hbs hnew HOA
        go_wp2_with fail
        go_region_held3 (fun w' => w'.cell? ⟨gc, oc + k, none⟩ = some (.int .i64 c) ∧ Below w.heap.size w w') (first | (exact HMK.out _ hBd) | (exact HMK.out _ (hBd.alloc hBd.size _)) | (exact HMK.out _ ((hBd.alloc hBd.size _).grown hg3 (hBd.alloc hBd.size _).size (fun q hq => (World.ownsRow.lt HO.out q hq).1))))
          (first | (go_at_call_of 53 (Value.slice (some ⟨gc, oc, none⟩) m ca); refine (HCT.out _ hBd).mono ?_; rintro e w' ⟨rfl, rfl⟩) | (refine step_append_any _ rfl (.tmp 18) (.tmp 29) 23 (by rfl) w.heap.size 3 i0 (.int .i64 0) 1 8 Try.underlying23 hi0 hz0 hz1 hz2 rfl (by decide) _ k ((VV.take k).map (Value.int .i64)) (by rfl) HOZ.out (wr.heap.size + 1) (some ⟨wr.heap.size, 0, none⟩) 1 1 [.int .i64 (n - S + c)] (by rfl) hnz (fun x hx => by simp at hx; subst hx; rfl) (by unfold maxLen; omega) (by omega) hbz ?_; intro v' w3 hown' hg3 hat3) | fail)
        have hB3 : Below w.heap.size w w3 := And.right (by assumption)
        have Q3 : OwnI w3 w.heap.size v' (VV.take (k + 1)) := by
          rw [HTK.out]
          unfold OwnI
          rw [List.length_append, List.map_append, HLT.out]
          exact hown'
        have HS := Lib.hid (And.intro Q3 hB3)
        clear Q3 hB3 hown' hg3 hat3 HO hBd
        go_wp2_with fail
        go_roundw
        case rel => exact ⟨k + 1, by omega, by go_num, HS.out.1, HS.out.2⟩
        case measure => simp [intOf]; omega
      · skip
        skip
        have c1 : decide (0 < n - S + c) = false := decide_eq_false c0
        have c2 : (if 0 < n - S + c then n - S + c else 0) = 0 := if_neg c0
        have c3 : ¬ 0 < n - S + c := c0
        have HTK : Hid (VV.take (k + 1) = VV.take k ++ [0]) := by show _ = _; rw [take_next (by rw [HVL.out]; exact hlt), HVG.out]; congr 2; omega
        have HOZ := Lib.hid (HOA.out (0))
        have hbz := hbs (0)
        have hnz := hnew (0)
        clear HVG hbs hnew HOA
        go_wp2_with fail
        go_region_held3 (fun w' => w'.cell? ⟨gc, oc + k, none⟩ = some (.int .i64 c) ∧ Below w.heap.size w w') (first | (exact HMK.out _ hBd) | (exact HMK.out _ (hBd.alloc hBd.size _)) | (exact HMK.out _ ((hBd.alloc hBd.size _).grown hg3 (hBd.alloc hBd.size _).size (fun q hq => (World.ownsRow.lt HO.out q hq).1))))
          (first | (go_at_call_of 53 (Value.slice (some ⟨gc, oc, none⟩) m ca); refine (HCT.out _ hBd).mono ?_; rintro e w' ⟨rfl, rfl⟩) | (refine step_append_any _ rfl (.tmp 18) (.tmp 29) 23 (by rfl) w.heap.size 3 i0 (.int .i64 0) 1 8 Try.underlying23 hi0 hz0 hz1 hz2 rfl (by decide) _ k ((VV.take k).map (Value.int .i64)) (by rfl) HOZ.out (wr.heap.size + 1) (some ⟨wr.heap.size, 0, none⟩) 1 1 [.int .i64 (0)] (by rfl) hnz (fun x hx => by simp at hx; subst hx; rfl) (by unfold maxLen; omega) (by omega) hbz ?_; intro v' w3 hown' hg3 hat3) | fail)
        have hB3 : Below w.heap.size w w3 := And.right (by assumption)
        have Q3 : OwnI w3 w.heap.size v' (VV.take (k + 1)) := by
          rw [HTK.out]
          unfold OwnI
          rw [List.length_append, List.map_append, HLT.out]
          exact hown'
        have HS := Lib.hid (And.intro Q3 hB3)
        clear Q3 hB3 hown' hg3 hat3 HO hBd
        go_wp2_with fail
        go_roundw
        case rel => exact ⟨k + 1, by omega, by go_num, HS.out.1, HS.out.2⟩
        case measure => simp [intOf]; omega
    · obtain rfl : k = m := by omega
      rw [List.take_of_length_le (by rw [HVL.out]; exact Nat.le_refl _)] at HO
      go_wp2_with fail
      go_ret
      exact ⟨_, rfl, HO.out, HB.out⟩
/-- what a function hands back that hands numbers back -/
def OutW (w : World) (R : List Int) (e : Ending) (w' : World) : Prop := ∃ (b : Option Addr) (c : Nat), e = .returned (.slice b R.length c) ∧ IsInts w' b R ∧ Below w.heap.size w w'
theorem outW_of {w w' : World} {R : List Int} {e : Ending} (h : OutI w R e w') : OutW w R e w' := by
  obtain ⟨v, rfl, O, B⟩ := h
  obtain ⟨b, c, rfl, I⟩ := O.ints
  exact ⟨b, c, rfl, I, B⟩
set_option maxRecDepth 100000 in
set_option maxHeartbeats 4000000 in
/-- spec.ByShares -/
theorem sShares (n : Int) (a : Option Addr) (ca : Nat) (cs : List Int) (w : World) (h : IsInts w a cs) (hn : cs.length ≤ 1048576) :
    Calls Try.prog 28 #[.int .i64 n, .slice a cs.length ca] w (OutW w (shareV n cs)) := by
  have CV := svc n a ca cs w h hn
  cases hv : vcB n cs with
  | false =>
    rw [share_no (bs_no1 hv)]
    rw [hv] at CV
    clear hv h
    go_enter Try.func28, Try.ntmps28
    go_wp2_with fail
    refine CV.mono ?_
    rintro e w' ⟨rfl, rfl⟩
    go_wp2_with fail
    go_ret
    exact ⟨none, 0, rfl, .inl rfl, Below.refl _ _⟩
  | true =>
  rw [hv] at CV
  by_cases c5 : 500 < n
  · rw [share_no (bs_no2 c5)]
    clear h hv
    go_enter Try.func28, Try.ntmps28
    go_wp2_with fail
    refine CV.mono ?_
    rintro e w' ⟨rfl, rfl⟩
    go_wp2_with fail
    go_ret
    exact ⟨none, 0, rfl, .inl rfl, Below.refl _ _⟩
  have e5 : decide (500 < n) = false := decide_eq_false c5
  have hb := bs_yes hv (by omega)
  rw [share_yes hb]
  obtain ⟨v1, v2, v3, v4⟩ := vc_iff.1 hv
  have CS := stotal a ca cs w h hn (all_bd v1 (by omega))
  by_cases s0 : cs.sum = 0
  · rw [if_pos s0]
    rw [s0] at CS
    have hmk := run_make_row' (P := Try.prog) 23 3 (.int .i64 0) 8 Try.underlying23 infoInt rfl .i64 .i64 cs.length (by omega) (by omega)
    have hM := OwnI.made (Below.refl w.heap.size w) cs.length (by omega)
    have hB2 := (Below.refl w.heap.size w).alloc (Nat.le_refl _) (.cells (madeCells #[.int .i64 0] cs.length) 3)
    have HM := Lib.hid (And.intro hM.at_ hB2)
    clear hM hB2 s0 v1 v2 v3 v4 hb hv h
    go_enter Try.func28, Try.ntmps28
    go_wp2_with fail
    refine CV.mono ?_
    rintro e w' ⟨rfl, rfl⟩
    go_wp2_with fail
    refine CS.mono ?_
    rintro e w' ⟨rfl, rfl⟩
    go_wp2_with fail
    go_ret
    exact ⟨some ⟨w.heap.size, 0, none⟩, cs.length, by rw [List.length_replicate]; rfl, HM.out.1, HM.out.2⟩
  · rw [if_neg s0]
    have CR := sbyRest n a ca cs w h hn (share_cs hb s0)
    have HLN := Lib.hid (sr_len n cs)
    have e0 : (cs.sum == 0) = false := by rw [beq_eq_false_iff_ne]; exact s0
    generalize cs.sum = S at *
    generalize sr n cs = R at *
    clear s0 v1 v2 v3 v4 hb hv h
    go_enter Try.func28, Try.ntmps28
    go_wp2_with fail
    refine CV.mono ?_
    rintro e w' ⟨rfl, rfl⟩
    clear CV
    go_wp2_with fail
    refine CS.mono ?_
    rintro e w' ⟨rfl, rfl⟩
    clear CS
    go_wp2_with fail
    refine CR.mono ?_
    rintro e w1 ⟨b, c, rfl, hI, hB⟩
    have HF := Lib.hid (And.intro hI hB)
    clear hI hB CR
    go_wp2_with fail
    go_ret
    exact ⟨b, c, by rw [HLN.out]; rfl, HF.out⟩
end Go.Proofs.Ytojkgabkiagjdac
