/- Claims by the program: all orders of turns. Condition: at most 1048576 numbers. -/
import Derived.Test.YtojkgabkiagjdacClmR
import Derived.Test.YtojkgabkiagjdacClmN
import Derived.Test.YtojkgabkiagjdacClmK
namespace Go.Proofs.Ytojkgabkiagjdac
open Go.RowKit
set_option linter.unusedSimpArgs false
set_option linter.unusedVariables false
theorem av_no1 {n : Int} {cs : List Int} (h : vcB n cs = false) : avB n cs = false := by unfold avB; rw [h]; rfl
theorem av_no2 {n : Int} {cs : List Int} (h : 5 < cs.length) : avB n cs = false := by unfold avB; rw [decide_eq_false (by omega : ¬ cs.length ≤ 5)]; simp
theorem av_yes {n : Int} {cs : List Int} (h : vcB n cs = true) (h2 : cs.length ≤ 5) : avB n cs = true := by unfold avB; rw [h, decide_eq_true h2]; rfl
theorem allV_len {n : Int} {cs : List Int} (h : avB n cs = true) : (allV n cs).length = cs.length := by rw [allV_yes h, totV_len]
set_option maxRecDepth 100000 in
set_option maxHeartbeats 4000000 in
/-- impl.AllTurns -/
theorem iAll (n : Int) (a : Option Addr) (ca : Nat) (cs : List Int) (w : World) (h : IsInts w a cs) (hn : cs.length ≤ 1048576) :
    Calls Try.prog 17 #[.int .i64 n, .slice a cs.length ca] w (OutI w (allV n cs)) := by
  by_cases h5 : 5 < cs.length
  · have e1 : (5 : Int) < (cs.length : Int) := by omega
    rw [allV_no (av_no2 h5)]
    clear h5 h
    go_enter Try.func17, Try.ntmps17
    go_wp2_with fail
    go_ret
    exact outI_nil (Below.refl _ _)
  have e1 : ¬ (5 : Int) < (cs.length : Int) := by omega
  have CV := iVC n a ca cs w h hn
  cases hv : vcB n cs with
  | false =>
    rw [allV_no (av_no1 hv)]
    rw [hv] at CV
    clear hv h
    go_enter Try.func17, Try.ntmps17
    go_wp2_with fail
    refine CV.mono ?_
    rintro e w' ⟨rfl, rfl⟩
    go_wp2_with fail
    go_ret
    exact outI_nil (Below.refl _ _)
  | true =>
  rw [hv] at CV
  have h5' : cs.length ≤ 5 := by omega
  rw [allV_yes (av_yes hv h5')]
  obtain ⟨v1, v2, v3, v4⟩ := vc_iff.1 hv
  have hs := vc_bd v1 v2
  have HA := Lib.hid h
  have HV := Lib.hid hv
  have HE := Lib.hid (accT_end (n := n) h5')
  have HBD := Lib.hid (fun i (hi : i < cs.length) j (hj : j ≤ facN cs.length) => accT_bd h5' (clF_nn v1) v3 hi j hj)
  have HTG := Lib.hid (fun nr (hnr : nr < facN cs.length) => it_yes hv (ordZ_ord h5' hnr))
  have HST := Lib.hid (fun j => show accT n cs (facN cs.length) (j + 1) = addZ (accT n cs (facN cs.length) j) (turnV n cs (ordZ (facN cs.length - 1 - j) cs.length)) from rfl)
  have HAL := Lib.hid (fun j => accT_len n cs (facN cs.length) j)
  have HTB := Lib.hid (fun os (ho : itB n cs os = true) => turn_good ho)
  have hF := facN_le cs.length h5'
  have HI := Lib.hid (fun (b : Option Addr) (cb : Nat) (os : List Int) (W : World) (h1 : IsInts W a cs) (h2 : IsInts W b os) (hl : os.length = cs.length) => iInTurn n a b ca cb cs.length cs os W h1 h2 hn hl (by omega))
  obtain ⟨m, hm⟩ : ∃ m, cs.length = m := ⟨_, rfl⟩
  have hmk := run_make_row' (P := Try.prog) 23 3 (.int .i64 0) 8 Try.underlying23 infoInt rfl .i64 .i64 m (by omega) (by omega)
  have hM := OwnI.made (Below.refl w.heap.size w) m (by omega)
  have hB2 := (Below.refl w.heap.size w).alloc (Nat.le_refl _) (.cells (madeCells #[.int .i64 0] m) 3)
  rw [show List.replicate m (0 : Int) = accT n cs (facN m) 0 from by rw [← hm]; rfl] at hM
  have HM := Lib.hid (And.intro hM hB2)
  have HL := Lib.hid hm
  have m5 : m ≤ 5 := by omega
  have n6 : n ≤ 6000 := by omega
  have CC := fun (W : World) => iCount m W m5
  rw [hm] at CV hF HE HBD HTG HST HAL HI e1 ⊢
  obtain ⟨F, hFF⟩ : ∃ F, facN m = F := ⟨_, rfl⟩
  rw [hFF] at hF HE HBD HTG HST HAL CC HM
  obtain ⟨f1, f2⟩ := hF
  clear hM hB2 hm hFF hv v1 v2 v4 hs h hn h5 h5'
  go_enter Try.func17, Try.ntmps17
  go_wp2_with fail
  refine CV.mono ?_
  rintro e w' ⟨rfl, rfl⟩
  clear CV
  go_wp2_with fail
  refine (CC _).mono ?_
  rintro e w' ⟨rfl, rfl⟩
  clear CC
  have wf : IntKind.i64.wrap ((F : Int) - 1) = (F : Int) - 1 := by rw [IntKind.wrap_i64]; omega
  go_wp2_with fail
  clear hmk
  go_loopw [6] (fun x wr => ∃ j : Nat, j ≤ F ∧ x = .int .i64 ((F : Int) - 1 - j) ∧ Hid (OwnI wr w.heap.size (.slice (some ⟨w.heap.size, 0, none⟩) m m) (accT n cs F j) ∧ Below w.heap.size w wr)) (fun x _ => (intOf x + 1).toNat)
  case atStart => exact ⟨0, Nat.zero_le _, by go_num, HM.out⟩
  case round =>
    clear HM wf
    obtain ⟨j, hj, rfl, HR⟩ := hrel
    by_cases hlt : j < F
    · obtain ⟨nr, hnr⟩ : ∃ nr : Nat, F - 1 - j = nr := ⟨_, rfl⟩
      have enr : (F : Int) - 1 - (j : Int) = (nr : Int) := by omega
      have hnF : nr < F := by omega
      have CO := fun (W : World) => iOrder nr m W (by omega) m5
      have lO := ordZ_len nr m
      have hit := HTG.out nr hnF
      have hst := HST.out j
      rw [hnr] at hst
      have tg := HTB.out _ hit
      have bd0 := fun i (hi : i < m) => HBD.out i hi j hj
      have la := HAL.out j
      obtain ⟨OS, hOS⟩ : ∃ OS, ordZ nr m = OS := ⟨_, rfl⟩
      rw [hOS] at CO lO hit hst tg
      have CI := fun (b : Option Addr) (cb : Nat) (W : World) h1 h2 => HI.out b cb OS W h1 h2 lO
      rw [inV_yes hit] at CI
      obtain ⟨GV, hGV⟩ : ∃ GV, turnV n cs OS = GV := ⟨_, rfl⟩
      rw [hGV] at CI hst tg
      have lg : GV.length = m := tg.1.trans HL.out
      have HGB : Hid (∀ i, i < m → 0 ≤ GV.getD i 0 ∧ GV.getD i 0 ≤ 6000) := fun i hi => by
        have x1 := tg.2.2 i (by have := HL.out; omega)
        have x2 := allB_get (vc_iff.1 HV.out).1 (i := i) (by have := HL.out; omega)
        omega
      have HTB2 : Hid (∀ i, i < m → 0 ≤ (accT n cs F j).getD i 0 ∧ (accT n cs F j).getD i 0 ≤ 1000000) := fun i hi => by
        have x1 := bd0 i hi
        have x2 : n * (j : Int) ≤ 6000 * (j : Int) := Int.mul_le_mul_of_nonneg_right n6 (by omega)
        omega
      have HLO : Hid (OS.length = m) := lO
      have HLG : Hid (GV.length = m) := lg
      have HLA : Hid ((accT n cs F j).length = m) := la
      have HSTEP : Hid (accT n cs F (j + 1) = addZ (accT n cs F j) GV) := hst
      have HCO := Lib.hid CO
      have HCI := Lib.hid CI
      have B0 := HR.out.2
      have HR0 := Lib.hid HR.out.1
      have HA0 := Lib.hid (ints_below HA.out B0)
      have HB0 := Lib.hid B0
      have HNR := Lib.hid enr
      have HJ := Lib.hid hj
      have q0 : decide ((F : Int) - 1 - (j : Int) ≥ 0) = true := decide_eq_true (by omega)
      have q1 : (0 : Int) ≤ (F : Int) - 1 - (j : Int) := by omega
      generalize accT n cs F j = TT at *
      clear CO CI lO hit hst tg bd0 la hOS hGV lg B0 HR hnr
      rw [enr] at q0 q1 ⊢
      clear enr
      go_wp2_with fail
      refine (HCO.out _).mono ?_
      rintro e w1 ⟨v1, rfl, O1, C1⟩
      obtain ⟨b1, c1, rfl, I1⟩ := O1.ints
      rw [HLO.out]
      have R1 := HR0.out.of_block C1
      have A1 := ints_below HA0.out C1
      have B1 := bel_tr HB0.out C1
      clear O1 HR0 HA0 HB0 HCO
      go_wp2_with fail
      refine (HCI.out b1 c1 _ A1 I1).mono ?_
      rintro e w2 ⟨v2, rfl, O2, C2⟩
      obtain ⟨b2, c2, rfl, I2⟩ := O2.ints
      have ltw := R1.blk.2
      have HNE : Hid (∀ gg oo : Nat, b2 = some ⟨gg, oo, none⟩ → gg ≠ w.heap.size) := fun gg oo e => by
        have := O2.grow gg (by rw [e]; rfl)
        omega
      rw [HLG.out]
      have R2 := R1.of_block C2
      have B2 := bel_tr B1 C2
      have R3 : OwnI w2 w.heap.size (.slice (some ⟨w.heap.size, 0, none⟩) m m) (mix2 (addZ TT GV) TT 0) := by rw [mix2_zero (by rw [addZ_len])]; exact R2
      have HM2 := Lib.hid (And.intro R3 (And.intro B2 I2))
      clear O2 R1 A1 B1 I1 C1 C2 R2 R3 B2 I2 HCI ltw
      go_wp2_with fail
      go_loopw [38] (fun i wi => ∃ k : Nat, k ≤ m ∧ i = .int .i64 k ∧ Hid (OwnI wi w.heap.size (.slice (some ⟨w.heap.size, 0, none⟩) m m) (mix2 (addZ TT GV) TT k) ∧ Below w.heap.size w wi ∧ IsInts wi b2 GV)) (fun i _ => m - (intOf i).toNat)
      case atStart => exact ⟨0, Nat.zero_le _, rfl, HM2.out⟩
      case round =>
        clear HM2
        obtain ⟨k, hk, rfl, HR⟩ := hrel
        by_cases hlk : k < m
        · obtain ⟨O, B, I⟩ := HR.out
          have lA : (addZ TT GV).length = m := by rw [addZ_len]; exact HLA.out
          obtain ⟨gh, oh, rfl, x0⟩ := ints_open I (by have := HLG.out; omega)
          have x0 := x0 k (by have := HLG.out; omega)
          have ne : gh ≠ w.heap.size := HNE.out _ _ rfl
          have hms := mix2_set (zs := addZ TT GV) TT (k := k) (by omega)
          rw [addZ_get TT GV (by have := HLA.out; omega)] at hms
          have hd := O.cell (j := k) (by rw [mix2_len]; omega)
          rw [mix2_get _ _ _ (by omega), if_neg (by omega)] at hd
          have hf := O.frozen k
          have O2 := O.set_ k (TT.getD k 0 + GV.getD k 0)
          rw [hms] at O2
          have b1 := HGB.out k hlk
          have b2 := HTB2.out k hlk
          have I2 := ints_far (j := k) (v := .int .i64 (TT.getD k 0 + GV.getD k 0)) I ne
          have HS := Lib.hid (And.intro O2 (And.intro (B.setCell (p := ⟨w.heap.size, k, none⟩) (Nat.le_refl _) (.int .i64 (TT.getD k 0 + GV.getD k 0))) I2))
          generalize TT.getD k 0 = y at *
          generalize GV.getD k 0 = z at *
          have wz : IntKind.i64.wrap (y + z) = y + z := by rw [IntKind.wrap_i64]; omega
          have k0 : (0 : Int) ≤ (k : Int) := by omega
          have k1 : (k : Int) < (m : Int) := by omega
          clear O O2 B I I2 HR hms lA
          go_wp2_with fail
          go_region
          all_goals (
            go_wp2_with fail
            go_roundw
            case rel => exact ⟨k + 1, by omega, by go_num, HS.out.1, HS.out.2.1.drew, HS.out.2.2⟩
            case measure => simp [intOf]; omega)
        · obtain rfl : k = m := by omega
          have O := HR.out.1
          have B := HR.out.2.1
          rw [mix2_all _ (by rw [addZ_len, HLA.out]; exact Nat.le_refl _), ← HSTEP.out] at O
          have HF := Lib.hid (And.intro O B)
          have nb : IntKind.i64.wrap ((nr : Int) - 1) = (nr : Int) - 1 := by rw [IntKind.wrap_i64]; omega
          clear O B HR
          go_wp2_with fail
          go_roundw
          case rel => exact ⟨j + 1, by omega, by have := HNR.out; refine congrArg (Value.int .i64) ?_; omega, HF.out⟩
          case measure => have := HNR.out; simp [intOf] <;> omega
    · obtain rfl : j = F := by omega
      have O := HR.out.1
      rw [HE.out] at O
      have HF := Lib.hid (And.intro O HR.out.2)
      have q0 : (j : Int) - 1 - (j : Int) = -1 := by omega
      rw [q0]
      clear O HR
      go_wp2_with fail
      go_ret
      exact ⟨_, rfl, HF.out⟩
end Go.Proofs.Ytojkgabkiagjdac
