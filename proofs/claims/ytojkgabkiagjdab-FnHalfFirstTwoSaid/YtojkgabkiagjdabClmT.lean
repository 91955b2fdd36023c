/- Claims by the model: halves first. Condition: at most 1048576 numbers. -/
import Derived.Test.YtojkgabkiagjdabClmS
import Derived.Test.YtojkgabkiagjdabClmK
namespace Go.Proofs.Ytojkgabkiagjdab
open Go.RowKit
set_option linter.unusedSimpArgs false
set_option linter.unusedVariables false
theorem take_next {l : List Int} {k : Nat} (h : k < l.length) : l.take (k + 1) = l.take k ++ [l.getD k 0] := by
  rw [List.take_succ_eq_append_getElem h, List.getD_eq_getElem?_getD, List.getElem?_eq_getElem h]; rfl
set_option maxRecDepth 100000 in
set_option maxHeartbeats 4000000 in
/-- spec.halves -/
theorem sHalves (a : Option Addr) (ca : Nat) (zs : List Int) (w : World) (ha : IsInts w a zs) (hn : zs.length ≤ 1048576) (hz : allB zs 500 = true) :
    Calls Try.prog 53 #[.slice a zs.length ca] w (OutI w (hv zs)) := by
  have HM := Lib.hid (And.intro (OwnI.new (Below.refl w.heap.size w)) ((Below.refl w.heap.size w).alloc (Nat.le_refl _) (.cells #[] 3)))
  have HA := Lib.hid ha
  have HZ := Lib.hid hz
  obtain ⟨m, hm⟩ : ∃ m, zs.length = m := ⟨_, rfl⟩
  have HL := Lib.hid hm
  have m1 : m ≤ 1048576 := by omega
  rw [hm]
  clear ha hz hm hn
  go_enter Try.func53, Try.ntmps53
  go_wp2_with fail
  go_loopw [3, 4] (fun v i wr => ∃ k : Nat, k ≤ m ∧ i = .int .i64 k ∧ Hid (OwnI wr w.heap.size v ((hv zs).take k)) ∧ Hid (Below w.heap.size w wr)) (fun _ i _ => m - (intOf i).toNat)
  case atStart => exact ⟨0, Nat.zero_le _, rfl, HM.out.1, HM.out.2⟩
  case round =>
    clear HM
    obtain ⟨k, hk, rfl, HO, HB⟩ := hrel
    by_cases hlt : k < m
    · have hkc : k < zs.length := by have := HL.out; omega
      obtain ⟨gc, oc, rfl, x0⟩ := ints_open (ints_below HA.out HB.out) (by omega)
      have x0 := x0 k hkc
      have HLT : Hid (((hv zs).take k).length = k) := by show _ = _; rw [List.length_take, hv_len]; omega
      have HNX : Hid ((hv zs).take (k + 1) = (hv zs).take k ++ [zs.getD k 0 / 2]) := by show _ = _; rw [take_next (by rw [hv_len]; exact hkc), hv_get zs hkc]
      have b1 := allB_get HZ.out hkc
      generalize zs.getD k 0 = z at *
      have t1 : z.tdiv 2 = z / 2 := Int.tdiv_eq_ediv_of_nonneg b1.1
      have wz : IntKind.i64.wrap (z / 2) = z / 2 := by rw [IntKind.wrap_i64]; omega
      have k0 : (0 : Int) ≤ (k : Int) := by omega
      have k1 : (k : Int) < (m : Int) := by omega
      clear hkc
      go_wp2_with (first | (at_builtin; refine wp_snoc rfl _ _ rfl rfl HO.out rfl rfl (by rw [HLT.out]; omega) (HB.out.size) ?_; intro v3 w3 Q1 G3 n3))
      have B2 := below_gv HB.out G3 (fun q hq => HO.out.grow q hq)
      rw [← HNX.out] at Q1
      have HS := Lib.hid (And.intro Q1 B2)
      clear Q1 B2 G3 n3 HO HB
      go_roundw
      case rel => exact ⟨k + 1, by omega, by go_num, HS.out.1, HS.out.2⟩
      case measure => simp [intOf]; omega
    · obtain rfl : k = m := by omega
      rw [List.take_of_length_le (by rw [hv_len, HL.out]; exact Nat.le_refl _)] at HO
      go_wp2_with fail
      go_ret
      exact ⟨_, rfl, HO.out, HB.out⟩
set_option maxRecDepth 100000 in
set_option maxHeartbeats 4000000 in
/-- spec.HalfFirst -/
theorem sHalf (n : Int) (a : Option Addr) (ca : Nat) (cs : List Int) (w : World) (h : IsInts w a cs) (hn : cs.length ≤ 1048576) :
    Calls Try.prog 33 #[.int .i64 n, .slice a cs.length ca] w (OutI w (halfV n cs)) := by
  have CV := svc n a ca cs w h hn
  cases hvc : vcB n cs with
  | false =>
    rw [half_no (hf_no1 hvc)]
    rw [hvc] at CV
    clear hvc h
    go_enter Try.func33, Try.ntmps33
    go_wp2_with fail
    refine CV.mono ?_
    rintro e w' ⟨rfl, rfl⟩
    go_wp2_with fail
    go_ret
    exact outI_nil (Below.refl _ _)
  | true =>
  rw [hvc] at CV
  obtain ⟨v1, v2, v3, v4⟩ := vc_iff.1 hvc
  have hs := vc_bd v1 v2
  have hls := hv_sum_le cs
  have ha5 := hv_all5 v1
  have hev2 := hv_ev cs
  have CT := fun (W : World) (hW : Below w.heap.size w W) => stotal a ca cs W (ints_below h hW) hn (all_bd v1 (by omega))
  have CH := fun (W : World) (hW : Below w.heap.size w W) => sHalves a ca cs W (ints_below h hW) hn v1
  have hs2 := sum_bdZ 500 (hv cs) ((allB_iff (hv cs) 500).1 ha5)
  have CS := fun (b : Option Addr) (c : Nat) (W : World) (hI : IsInts W b (hv cs)) => stotal b c (hv cs) W hI (by rw [hv_len]; omega) (all_bd ha5 (by omega))
  cases hev : evB cs with
  | false =>
    rw [half_no (hf_no2 hev)]
    have hne : (hv cs).sum * 2 ≠ cs.sum := fun c => by rw [hev2.1 c] at hev; cases hev
    have e1 : ((hv cs).sum * 2 != cs.sum) = true := by simp; omega
    have wz : IntKind.i64.wrap ((hv cs).sum * 2) = (hv cs).sum * 2 := by rw [IntKind.wrap_i64]; omega
    have HCT := Lib.hid CT
    have HCH := Lib.hid CH
    have HCS := Lib.hid CS
    have hne' : ¬ (hv cs).sum * 2 = cs.sum := hne
    generalize hv cs = H at *
    generalize H.sum = S at *
    generalize cs.sum = T at *
    clear hvc hev hev2 hls hs hs2 ha5 CT CH CS v1 v2 v3 v4 h hne
    go_enter Try.func33, Try.ntmps33
    go_wp2_with fail
    refine CV.mono ?_
    rintro e w' ⟨rfl, rfl⟩
    go_wp2_with fail
    refine (HCH.out _ (Below.refl _ _)).mono ?_
    rintro e w1 ⟨v1, rfl, O1, B1⟩
    obtain ⟨b1, c1, rfl, I1⟩ := O1.ints
    clear O1
    go_wp2_with fail
    refine (HCS.out b1 c1 _ I1).mono ?_
    rintro e w' ⟨rfl, rfl⟩
    go_wp2_with fail
    refine (HCT.out _ B1).mono ?_
    rintro e w' ⟨rfl, rfl⟩
    go_wp2_with fail
    go_ret
    exact outI_nil B1
  | true =>
  have hh := hf_yes hvc hev
  have hE := half_yes hh
  have hlo := fun c => hf_low (n := n) (cs := cs) hh c
  have hhi := fun c => hf_high (n := n) (cs := cs) hh c
  have heq : (hv cs).sum * 2 = cs.sum := hev2.2 hev
  have e1 : (cs.sum != cs.sum) = false := by simp
  have wz : IntKind.i64.wrap ((hv cs).sum * 2) = cs.sum := by rw [IntKind.wrap_i64]; omega
  have lH := hv_len cs
  have H12 : Hid (cs.length ≤ 12) := v2
  generalize hv cs = H at *
  have CG := fun (hv : vcB n H = true) (b : Option Addr) (c : Nat) (W : World) (hI : IsInts W b H) => sFill n b c H W hI hv
  have CL := fun (hv : vcB (n - H.sum) H = true) (b : Option Addr) (c : Nat) (W : World) (hI : IsInts W b H) => slosses (n - H.sum) b c H W hI hv
  have hgy := fun (hv : vcB n H = true) => gain_yes hv
  have HCT := Lib.hid CT
  have HCH := Lib.hid CH
  have HCS := Lib.hid CS
  have HCG := Lib.hid CG
  have HCL := Lib.hid CL
  have HLO := Lib.hid hlo
  have HHI := Lib.hid hhi
  have HE := Lib.hid hE
  have HA5 := Lib.hid ha5
  have HLN := Lib.hid lH
  have HGY := Lib.hid hgy
  have H0 : 0 ≤ H.sum := hs2.1
  have n6 : n ≤ 6000 := by omega
  have h6 : H.sum ≤ 6000 := by omega
  generalize H.sum = S at *
  generalize cs.sum = T at *
  clear hh hE hlo hhi hs hls ha5 lH hs2 CG CL CS CH CT hev hev2 heq hvc hgy v1 v2 v4 h hn
  go_enter Try.func33, Try.ntmps33
  go_wp2_with fail
  refine CV.mono ?_
  rintro e w' ⟨rfl, rfl⟩
  clear CV
  go_wp2_with fail
  refine (HCH.out _ (Below.refl _ _)).mono ?_
  rintro e w0 ⟨v0, rfl, O0, B0⟩
  obtain ⟨b0, c0, rfl, I0⟩ := O0.ints
  clear O0
  go_wp2_with fail
  refine (HCS.out b0 c0 _ I0).mono ?_
  rintro e w' ⟨rfl, rfl⟩
  go_wp2_with fail
  refine (HCT.out _ B0).mono ?_
  rintro e w' ⟨rfl, rfl⟩
  clear I0 HCT
  go_wp2_with fail
  refine (HCH.out _ B0).mono ?_
  rintro e w1 ⟨v1, rfl, O1, C1⟩
  obtain ⟨b1, c1, rfl, I1⟩ := O1.ints
  replace O1 := own_lower O1 B0.size
  have B1 := bel_tr B0 C1
  clear HCH C1 B0
  go_wp2_with fail
  refine (HCS.out b1 c1 _ I1).mono ?_
  rintro e w' ⟨rfl, rfl⟩
  by_cases c : n ≤ S
  · have e2 : decide (n ≤ S) = true := decide_eq_true c
    have hvl := HLO.out (by omega)
    have CF := HCG.out hvl b1 c1 w1 I1
    rw [if_pos c, HGY.out hvl] at HE
    clear HLO HHI HCL HGY HCG hvl
    go_wp2_with fail
    refine CF.mono ?_
    rintro e w2 ⟨v2, rfl, O2, B2⟩
    rw [← HE.out] at O2
    clear HE CF
    go_wp2_with fail
    go_ret
    exact ⟨_, rfl, own_lower O2 B1.size, bel_tr B1 B2⟩
  have e2 : decide (n ≤ S) = false := decide_eq_false c
  rw [if_neg c] at HE
  have hvl := HHI.out (by omega)
  have CF := HCL.out hvl b1 c1 w1 I1
  obtain ⟨d, hd⟩ : ∃ d, n - S = d := ⟨_, rfl⟩
  have wn : IntKind.i64.wrap (n - S) = d := by rw [IntKind.wrap_i64]; omega
  have lL := loss_len hvl
  have fl := loss_fair hvl
  rw [hd] at hvl lL fl CF HE
  have HCF := Lib.hid CF
  clear hd CF HCL
  generalize lossV d H = L at *
  obtain ⟨m, hm⟩ : ∃ m, H.length = m := ⟨_, rfl⟩
  have HLB : Hid (∀ i, i < m → 0 ≤ L.getD i 0 ∧ L.getD i 0 ≤ 500 ∧ 0 ≤ H.getD i 0 ∧ H.getD i 0 ≤ 500) := fun i hi => by
    have x1 := fl.2.1 i (by omega)
    have x2 := allB_get HA5.out (i := i) (by omega)
    omega
  have HL : Hid (H.length = m ∧ L.length = m) := ⟨hm, by omega⟩
  have m12 : m ≤ 12 := by have := H12.out; have := HLN.out; omega
  clear lL fl hvl HLO HHI HCG HGY c hm
  go_wp2_with fail
  refine (HCS.out b1 c1 _ I1).mono ?_
  rintro e w' ⟨rfl, rfl⟩
  go_wp2_with fail
  refine HCF.out.mono ?_
  rintro e w2 ⟨v2, rfl, O2, C2⟩
  have sep : ∀ q, v2.ownBlock = some q → w1.heap.size ≤ q := O2.grow
  have lt1 : ∀ q, (Value.slice b1 H.length c1).ownBlock = some q → q < w1.heap.size := fun q hq => (World.ownsRow.lt O1 q hq).2
  have O3 := own_lower O2 B1.size
  have B2 := bel_tr B1 C2
  have I2 := ints_below I1 C2
  obtain ⟨b3, c3, rfl, I3⟩ := O3.ints
  have HNE : Hid (∀ g g3 o : Nat, b1 = some ⟨g, o, none⟩ → b3 = some ⟨g3, 0, none⟩ → g ≠ g3) := fun g g3 o e1 e2 e => by
    have x1 := lt1 g (by rw [e1]; rfl)
    have x2 := sep g3 (by rw [e2]; rfl)
    omega
  have O4 : OwnI w2 w.heap.size (.slice b3 m c3) (mix2 (addZ L H) L 0) := by
    rw [mix2_zero (by rw [addZ_len])]
    have := O3
    rw [HL.out.2] at this
    exact this
  rw [HL.out.1]
  rw [HL.out.2]
  have HM := Lib.hid (And.intro O4 (And.intro B2 I2))
  clear O1 O2 O3 O4 B1 B2 I1 I2 I3 C2 sep lt1 HCF HCS
  go_wp2_with fail
  go_loopw [7] (fun i wr => ∃ k : Nat, k ≤ m ∧ i = .int .i64 k ∧ Hid (OwnI wr w.heap.size (.slice b3 m c3) (mix2 (addZ L H) L k) ∧ Below w.heap.size w wr ∧ IsInts wr b1 H)) (fun i _ => m - (intOf i).toNat)
  case atStart => exact ⟨0, Nat.zero_le _, rfl, HM.out⟩
  case round =>
    clear HM
    obtain ⟨k, hk, rfl, HR⟩ := hrel
    by_cases hlt : k < m
    · obtain ⟨O, B, I⟩ := HR.out
      have hkc : k < H.length := by have := HL.out; omega
      have lA : (addZ L H).length = m := by rw [addZ_len]; exact HL.out.2
      obtain ⟨g3, rfl, hg3⟩ := O.form_ (by rw [mix2_len]; omega)
      obtain ⟨gh, oh, rfl, x0⟩ := ints_open I (by omega)
      have x0 := x0 k hkc
      have ne : gh ≠ g3 := fun e => HNE.out _ _ _ rfl rfl e
      have hms := mix2_set (zs := addZ L H) L (k := k) (by omega)
      rw [addZ_get L H (by have := HL.out; omega)] at hms
      have hd := O.cell (j := k) (by rw [mix2_len]; omega)
      rw [mix2_get _ _ _ (by omega), if_neg (by omega)] at hd
      have hf := O.frozen k
      have O2 := O.set_ k (L.getD k 0 + H.getD k 0)
      rw [hms] at O2
      have b1 := HLB.out k hlt
      have I2 : IsInts (wr.setCell ⟨g3, k, none⟩ (.int .i64 (L.getD k 0 + H.getD k 0))) (some ⟨gh, oh, none⟩) H := ints_far I ne
      have HS := Lib.hid (And.intro O2 (And.intro (B.setCell (p := ⟨g3, k, none⟩) hg3 (.int .i64 (L.getD k 0 + H.getD k 0))) I2))
      generalize L.getD k 0 = y at *
      generalize H.getD k 0 = z at *
      have wz : IntKind.i64.wrap (y + z) = y + z := by rw [IntKind.wrap_i64]; omega
      have k0 : (0 : Int) ≤ (k : Int) := by omega
      have k1 : (k : Int) < (m : Int) := by omega
      clear O O2 B I I2 HR hms hkc lA
      go_wp2_with fail
      go_region
      all_goals (
        go_wp2_with fail
        go_roundw
        case rel => exact ⟨k + 1, by omega, by go_num, HS.out.1, HS.out.2.1.drew, HS.out.2.2⟩
        case measure => simp [intOf]; omega)
    · obtain rfl : k = m := by omega
      have O := HR.out.1
      have B := HR.out.2.1
      rw [mix2_all _ (by rw [addZ_len, HL.out.2]; exact Nat.le_refl _), ← HE.out] at O
      have HF := Lib.hid (And.intro O B)
      clear O B HR
      go_wp2_with fail
      go_ret
      exact ⟨_, rfl, HF.out⟩
end Go.Proofs.Ytojkgabkiagjdab
