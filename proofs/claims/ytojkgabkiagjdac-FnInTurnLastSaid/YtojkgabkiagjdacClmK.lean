/- Claims by the program: halves first, what nobody else claims, shares, gaps, gifts. Condition: at most 1048576 numbers. -/
import Derived.Test.YtojkgabkiagjdacClmJ
namespace Go.Proofs.Ytojkgabkiagjdac
open Go.RowKit
set_option linter.unusedSimpArgs false
set_option linter.unusedVariables false
/-- the first k of some numbers, and others behind them -/
def mix2 (zs ys : List Int) (k : Nat) : List Int := (List.range zs.length).map fun i => if i < k then zs.getD i 0 else ys.getD i 0
theorem mix2_len (zs ys : List Int) (k : Nat) : (mix2 zs ys k).length = zs.length := by unfold mix2; simp
theorem mix2_get (zs ys : List Int) (k : Nat) {i : Nat} (h : i < zs.length) : (mix2 zs ys k).getD i 0 = if i < k then zs.getD i 0 else ys.getD i 0 := by
  unfold mix2
  rw [List.getD_eq_getElem?_getD, List.getElem?_map, List.getElem?_range h]; rfl
theorem mix2_zero {zs ys : List Int} (h : ys.length = zs.length) : mix2 zs ys 0 = ys := by
  refine ext_z (by rw [mix2_len, h]) (fun i hi => ?_)
  rw [mix2_len] at hi
  rw [mix2_get zs ys 0 hi, if_neg (by omega)]
theorem mix2_all {zs : List Int} (ys : List Int) {k : Nat} (h : zs.length ≤ k) : mix2 zs ys k = zs := by
  refine ext_z (mix2_len zs ys k) (fun i hi => ?_)
  rw [mix2_len] at hi
  rw [mix2_get zs ys k hi, if_pos (by omega)]
theorem mix2_set {zs : List Int} (ys : List Int) {k : Nat} (h : k < zs.length) : (mix2 zs ys k).set k (zs.getD k 0) = mix2 zs ys (k + 1) := by
  refine ext_z (by rw [List.length_set, mix2_len, mix2_len]) (fun i hi => ?_)
  rw [List.length_set, mix2_len] at hi
  rw [getD_setZ i _ (by rw [mix2_len]; exact h), mix2_get zs ys k hi, mix2_get zs ys (k + 1) hi]
  by_cases e : i = k
  · subst e; rw [if_pos rfl, if_pos (by omega)]
  · rw [if_neg e]
    by_cases c : i < k
    · rw [if_pos c, if_pos (by omega)]
    · rw [if_neg c, if_neg (by omega)]
theorem hf_no1 {n : Int} {cs : List Int} (h : vcB n cs = false) : hfB n cs = false := by unfold hfB; rw [h]; rfl
theorem hf_no2 {n : Int} {cs : List Int} (h : evB cs = false) : hfB n cs = false := by unfold hfB; rw [h]; simp
theorem hf_yes {n : Int} {cs : List Int} (h : vcB n cs = true) (h2 : evB cs = true) : hfB n cs = true := by unfold hfB; rw [h, h2]; rfl
theorem ints_far {wr : World} {g gh oh j : Nat} {v : Value} {zs : List Int} (h : IsInts wr (some ⟨gh, oh, none⟩) zs) (hne : gh ≠ g) : IsInts (wr.setCell ⟨g, j, none⟩ v) (some ⟨gh, oh, none⟩) zs := by
  rcases h with h | ⟨g', o', e, hc⟩
  · exact .inl h
  · injection e with e
    injection e with e1 e2 e3
    subst e1 e2
    exact .inr ⟨gh, oh, rfl, fun i hi => (World.cell?_setCell_other wr ⟨g, j, none⟩ ⟨gh, oh + i, none⟩ v (fun e => hne (by injection e with e1 e2; first | exact e1.symm | exact e1))).trans (hc i hi)⟩
set_option maxRecDepth 100000 in
set_option maxHeartbeats 4000000 in
/-- impl.HalfFirst -/
theorem iHalf (n : Int) (a : Option Addr) (ca : Nat) (cs : List Int) (w : World) (h : IsInts w a cs) (hn : cs.length ≤ 1048576) :
    Calls Try.prog 20 #[.int .i64 n, .slice a cs.length ca] w (OutI w (halfV n cs)) := by
  have CV := iVC n a ca cs w h hn
  cases hvc : vcB n cs with
  | false =>
    rw [half_no (hf_no1 hvc)]
    rw [hvc] at CV
    clear hvc h
    go_enter Try.func20, Try.ntmps20
    go_wp2_with fail
    refine CV.mono ?_
    rintro e w' ⟨rfl, rfl⟩
    go_wp2_with fail
    go_ret
    exact outI_nil (Below.refl _ _)
  | true =>
  rw [hvc] at CV
  have CE := iEven a ca cs w h hn (vc_iff.1 hvc).1
  cases hev : evB cs with
  | false =>
    rw [half_no (hf_no2 hev)]
    rw [hev] at CE
    clear hvc hev h
    go_enter Try.func20, Try.ntmps20
    go_wp2_with fail
    refine CV.mono ?_
    rintro e w' ⟨rfl, rfl⟩
    go_wp2_with fail
    refine CE.mono ?_
    rintro e w' ⟨rfl, rfl⟩
    go_wp2_with fail
    go_ret
    exact outI_nil (Below.refl _ _)
  | true =>
  rw [hev] at CE
  have hh := hf_yes hvc hev
  have hE := half_yes hh
  have hlo := fun c => hf_low (n := n) (cs := cs) hh c
  have hhi := fun c => hf_high (n := n) (cs := cs) hh c
  obtain ⟨v1, v2, v3, v4⟩ := vc_iff.1 hvc
  have hs := vc_bd v1 v2
  have hls := hv_sum_le cs
  have ha5 := hv_all5 v1
  have CH := iHalves a ca cs w h hn v1
  have lH := hv_len cs
  generalize hv cs = H at *
  have hs2 := sum_bdZ 500 H ((allB_iff H 500).1 ha5)
  have CS := fun (b : Option Addr) (c : Nat) (W : World) (hI : IsInts W b H) => isum b c H W hI (by omega) (all_bd ha5 (by omega))
  have CG := fun (b : Option Addr) (c : Nat) (W : World) (hI : IsInts W b H) => iGains n b c H W hI (by omega)
  have CL := fun (b : Option Addr) (c : Nat) (W : World) (hI : IsInts W b H) => iLosses (n - H.sum) b c H W hI (by omega)
  have HCS := Lib.hid CS
  have HCG := Lib.hid CG
  have HCL := Lib.hid CL
  have HLO := Lib.hid hlo
  have HHI := Lib.hid hhi
  have HE := Lib.hid hE
  have HA5 := Lib.hid ha5
  have HLN := Lib.hid lH
  have H12 : Hid (cs.length ≤ 12) := v2
  have H0 : 0 ≤ H.sum := hs2.1
  have n6 : n ≤ 6000 := by omega
  have h6 : H.sum ≤ 6000 := by omega
  have HCH := Lib.hid CH
  generalize H.sum = S at *
  clear hh hE hlo hhi hs hls ha5 lH hs2 CS CG CL CH hev hvc v1 v2 v4 h hn
  go_enter Try.func20, Try.ntmps20
  go_wp2_with fail
  refine CV.mono ?_
  rintro e w' ⟨rfl, rfl⟩
  clear CV
  go_wp2_with fail
  refine CE.mono ?_
  rintro e w' ⟨rfl, rfl⟩
  clear CE
  go_wp2_with fail
  refine HCH.out.mono ?_
  rintro e w1 ⟨v1, rfl, O1, B1⟩
  obtain ⟨b1, c1, rfl, I1⟩ := O1.ints
  clear HCH
  go_wp2_with fail
  refine (HCS.out b1 c1 _ I1).mono ?_
  rintro e w' ⟨rfl, rfl⟩
  by_cases c : n ≤ S
  · have e1 : decide (n ≤ S) = true := decide_eq_true c
    rw [if_pos c] at HE
    clear HLO HHI HCL
    go_wp2_with fail
    refine (HCG.out b1 c1 _ I1).mono ?_
    rintro e w2 ⟨v2, rfl, O2, B2⟩
    rw [← HE.out] at O2
    clear HE
    go_wp2_with fail
    go_ret
    exact ⟨_, rfl, own_lower O2 B1.size, bel_tr B1 B2⟩
  have e1 : decide (n ≤ S) = false := decide_eq_false c
  rw [if_neg c] at HE
  have hvl := HHI.out (by omega)
  obtain ⟨d, hd⟩ : ∃ d, n - S = d := ⟨_, rfl⟩
  have wn : IntKind.i64.wrap (n - S) = d := by rw [IntKind.wrap_i64]; omega
  have lL := loss_len hvl
  have fl := loss_fair hvl
  rw [hd] at hvl lL fl HCL HE
  clear hd
  generalize lossV d H = L at *
  obtain ⟨m, hm⟩ : ∃ m, H.length = m := ⟨_, rfl⟩
  have HLB : Hid (∀ i, i < m → 0 ≤ L.getD i 0 ∧ L.getD i 0 ≤ 500 ∧ 0 ≤ H.getD i 0 ∧ H.getD i 0 ≤ 500) := fun i hi => by
    have x1 := fl.2.1 i (by omega)
    have x2 := allB_get HA5.out (i := i) (by omega)
    omega
  have HL : Hid (H.length = m ∧ L.length = m) := ⟨hm, by omega⟩
  have m12 : m ≤ 12 := by have := H12.out; have := HLN.out; omega
  clear lL fl hvl HLO HHI HCG c hm
  go_wp2_with fail
  refine (HCL.out b1 c1 _ I1).mono ?_
  rintro e w2 ⟨v2, rfl, O2, C2⟩
  have sep : ∀ q, v2.ownBlock = some q → w1.heap.size ≤ q := O2.grow
  have lt1 : ∀ q, (Value.slice b1 H.length c1).ownBlock = some q → q < w1.heap.size := fun q hq => (World.ownsRow.lt O1 q hq).2
  have O3 := own_lower O2 B1.size
  have B2 := bel_tr B1 C2
  have I2 := ints_below I1 C2
  obtain ⟨b3, c3, rfl, I3⟩ := O3.ints
  have HNE : Hid (∀ g g3 o : Nat, b1 = some ⟨g, o, none⟩ → b3 = some ⟨g3, 0, none⟩ → g ≠ g3) := fun g g3 o e1 e2 e => by
    have x1 := lt1 g (by rw [e1]; rfl)
    have x2 := sep g3 (by rw [e2]; rfl)
    omega
  have O4 : OwnI w2 w.heap.size (.slice b3 m c3) (mix2 (addZ L H) L 0) := by
    rw [mix2_zero (by rw [addZ_len])]
    have := O3
    rw [HL.out.2] at this
    exact this
  rw [HL.out.1]
  rw [HL.out.2]
  have HM := Lib.hid (And.intro O4 (And.intro B2 I2))
  clear O1 O2 O3 O4 B1 B2 I1 I2 I3 C2 sep lt1 HCL HCS
  go_wp2_with fail
  go_loopw [35] (fun i wr => ∃ k : Nat, k ≤ m ∧ i = .int .i64 k ∧ Hid (OwnI wr w.heap.size (.slice b3 m c3) (mix2 (addZ L H) L k) ∧ Below w.heap.size w wr ∧ IsInts wr b1 H)) (fun i _ => m - (intOf i).toNat)
  case atStart => exact ⟨0, Nat.zero_le _, rfl, HM.out⟩
  case round =>
    clear HM
    obtain ⟨k, hk, rfl, HR⟩ := hrel
    by_cases hlt : k < m
    · obtain ⟨O, B, I⟩ := HR.out
      have hkc : k < H.length := by have := HL.out; omega
      have lA : (addZ L H).length = m := by rw [addZ_len]; exact HL.out.2
      obtain ⟨g3, rfl, hg3⟩ := O.form_ (by rw [mix2_len]; omega)
      obtain ⟨gh, oh, rfl, x0⟩ := ints_open I (by omega)
      have x0 := x0 k hkc
      have ne : gh ≠ g3 := fun e => HNE.out _ _ _ rfl rfl e
      have hms := mix2_set (zs := addZ L H) L (k := k) (by omega)
      rw [addZ_get L H (by have := HL.out; omega)] at hms
      have hd := O.cell (j := k) (by rw [mix2_len]; omega)
      rw [mix2_get _ _ _ (by omega), if_neg (by omega)] at hd
      have hf := O.frozen k
      have O2 := O.set_ k (L.getD k 0 + H.getD k 0)
      rw [hms] at O2
      have b1 := HLB.out k hlt
      have I2 : IsInts (wr.setCell ⟨g3, k, none⟩ (.int .i64 (L.getD k 0 + H.getD k 0))) (some ⟨gh, oh, none⟩) H := ints_far I ne
      have HS := Lib.hid (And.intro O2 (And.intro (B.setCell (p := ⟨g3, k, none⟩) hg3 (.int .i64 (L.getD k 0 + H.getD k 0))) I2))
      generalize L.getD k 0 = y at *
      generalize H.getD k 0 = z at *
      have wz : IntKind.i64.wrap (y + z) = y + z := by rw [IntKind.wrap_i64]; omega
      have k0 : (0 : Int) ≤ (k : Int) := by omega
      have k1 : (k : Int) < (m : Int) := by omega
      clear O O2 B I I2 HR hms hkc lA
      go_wp2_with fail
      go_region
      all_goals (
        go_wp2_with fail
        go_roundw
        case rel => exact ⟨k + 1, by omega, by go_num, HS.out.1, HS.out.2.1.drew, HS.out.2.2⟩
        case measure => simp [intOf]; omega)
    · obtain rfl : k = m := by omega
      have O := HR.out.1
      have B := HR.out.2.1
      rw [mix2_all _ (by rw [addZ_len, HL.out.2]; exact Nat.le_refl _), ← HE.out] at O
      have HF := Lib.hid (And.intro O B)
      clear O B HR
      go_wp2_with fail
      go_ret
      exact ⟨_, rfl, HF.out⟩
end Go.Proofs.Ytojkgabkiagjdac
