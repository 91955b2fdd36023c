/- What arrives, by the program. Condition: at most 1048576 nodes. -/
import Derived.Test.YtlpmeljneogpiabFlowK
import Derived.Test.YtlpmeljneogpiabNodT
import Derived.Test.YtlpmeljneogpiabVfl
namespace Go.Proofs.Ytlpmeljneogpiab
open Go.RowKit
set_option linter.unusedSimpArgs false
set_option linter.unusedVariables false
theorem av_no {ns : List Nd} {at_ : Int} {fs : List Int} (h : (vnB ns && inN ns.length at_) = false ∨ 200 < fs.length ∨ allB fs 500 = false) : avB ns at_ fs = false := by
  unfold avB
  rcases h with h | h | h
  · rw [h]; rfl
  · rw [decide_eq_false (by omega : ¬ fs.length ≤ 200)]; simp
  · rw [h]; simp
theorem delay_neg {ns : List Nd} {at_ : Int} : ((vnB ns && inN ns.length at_) = false ∧ delayV ns at_ = -1) ∨ ((vnB ns && inN ns.length at_) = true ∧ delayV ns at_ = delayF ns at_ ∧ 0 ≤ delayF ns at_ ∧ delayF ns at_ ≤ 240) := by
  cases hb : (vnB ns && inN ns.length at_) with
  | false => exact .inl ⟨rfl, by unfold delayV; rw [hb]; rfl⟩
  | true =>
    rw [Bool.and_eq_true] at hb
    obtain ⟨k, rfl, hk⟩ := inN_yes hb.2
    exact .inr ⟨rfl, delay_yes hb.1 hb.2, delay_bd hb.1 hk⟩
set_option maxHeartbeats 8000000 in
/-- impl.ArriveAt -/
theorem iArrive (a b : Option Addr) (cap cb : Nat) (ns : List Nd) (at_ : Int) (fs : List Int) (w : World) (h : IsNd w a ns) (hn : ns.length ≤ 1048576) (hcap : ns.length ≤ cap) (hb : IsInts w b fs) (hf : fs.length ≤ 1048576) :
    Calls Try.prog 24 #[.slice a ns.length cap, .int .i64 at_, .slice b fs.length cb] w (OutI w (arriveV ns at_ fs)) := by
  have CD := iDelay a cap ns at_ w h hn hcap
  have CA := fun (W : World) (hW : Below w.heap.size w W) => iHours b cb fs W (ints_below hb hW) hf
  rcases delay_neg (ns := ns) (at_ := at_) with ⟨hv, hd⟩ | ⟨hv, hd, d0, d1⟩
  · rw [arrive_no (av_no (.inl hv))]
    rw [hd] at CD
    clear CA hd hv h hb
    go_enter Try.func24, Try.ntmps24
    go_wp2_with fail
    refine CD.mono ?_
    rintro e w1 ⟨rfl, C⟩
    go_wp2_with fail
    go_ret
    exact outI_nil C
  rw [hd] at CD
  obtain ⟨d, hdd⟩ : ∃ d : Nat, delayF ns at_ = (d : Int) := ⟨(delayF ns at_).toNat, by omega⟩
  rw [hdd] at CD
  have d240 : d ≤ 240 := by omega
  have d2 : decide ((d : Int) < 0) = false := decide_eq_false (by omega)
  cases hal : (decide (fs.length ≤ 200) && allB fs 500) with
  | false =>
    rw [arrive_no (av_no (by
      by_cases h2 : fs.length ≤ 200
      · rw [decide_eq_true h2, Bool.true_and] at hal; exact .inr (.inr hal)
      · exact .inr (.inl (by omega))))]
    rw [hal] at CA
    have HCA := Lib.hid CA
    clear CA hd hv h hb hal
    go_enter Try.func24, Try.ntmps24
    go_wp2_with fail
    refine CD.mono ?_
    rintro e w1 ⟨rfl, C⟩
    have CA := HCA.out w1 C
    go_wp2_with fail
    refine CA.mono ?_
    rintro e w' ⟨rfl, rfl⟩
    go_wp2_with fail
    go_ret
    exact outI_nil C
  | true =>
  rw [hal] at CA
  rw [Bool.and_eq_true, decide_eq_true_eq] at hal
  obtain ⟨l200, hal⟩ := hal
  rw [Bool.and_eq_true] at hv
  obtain ⟨k, rfl, hk⟩ := inN_yes hv.2
  rw [arrive_yes (by unfold avB; rw [hv.1, hv.2, hal, decide_eq_true l200]; rfl)]
  have CP := fun (W : World) (hW : Below w.heap.size w W) (x : Int) (h0 : 0 ≤ x ∧ x ≤ 500) => (by have := iPassed a cap ns x W (nd_below h hW) hn hcap; rw [passed_yes (by unfold flB; rw [hv.1, decide_eq_true h0.1, decide_eq_true h0.2]; rfl)] at this; exact this : Calls Try.prog 15 #[.slice a ns.length cap, .int .i64 x] W (OutI W (passF ns x)))
  have hmk := run_make_row' (P := Try.prog) 27 3 (.int .i64 0) 8 Try.underlying27 infoInt rfl .i64 .i64 fs.length (by omega) (by omega)
  have HFB := Lib.hid (fun i (hi : i < fs.length) => (allB_iff fs 500).1 hal _ (getD_mem hi))
  have HCA := Lib.hid CA
  have HCP := Lib.hid CP
  have HI := Lib.hid hb
  have HD := Lib.hid hdd
  have k0 : (0 : Int) ≤ (k : Int) := by omega
  have k1 : (k : Int) < (ns.length : Int) := by omega
  have l12 := (vn_is hv.1).2.1
  clear CA hd hv h hb hal CP hdd
  go_enter Try.func24, Try.ntmps24
  go_wp2_with fail
  refine CD.mono ?_
  rintro e w1 ⟨rfl, C⟩
  have CA := HCA.out w1 C
  go_wp2_with fail
  refine CA.mono ?_
  rintro e w' ⟨rfl, rfl⟩
  clear CA CD
  have hM := OwnI.made C fs.length hf
  have hB2 := C.alloc C.size (.cells (madeCells #[.int .i64 0] fs.length) 3)
  obtain ⟨g, hg⟩ : ∃ g, w1.heap.size = g := ⟨_, rfl⟩
  rw [hg] at hM
  have hgw : w.heap.size ≤ g := by rw [← hg]; exact C.size
  rw [show List.replicate fs.length (0 : Int) = mixZ (arrF ns k fs) d from by
    rw [mix_none (fun i hi hl => ?_), arrF_len]
    rw [arrF_len] at hl
    rw [arrF_get ns k fs hl]
    unfold arrAt
    rw [HD.out, if_pos (by omega)]] at hM
  have HM := Lib.hid hM
  have HB2 := Lib.hid hB2
  clear hM hB2 C
  go_wp2_with fail
  clear hmk
  go_loopw [9] (fun i wr => ∃ q : Nat, d ≤ q ∧ i = .int .i64 q ∧ q ≤ fs.length + 240 ∧ Hid (OwnI wr w.heap.size (.slice (some ⟨g, 0, none⟩) fs.length fs.length) (mixZ (arrF ns k fs) q) ∧ Below w.heap.size w wr)) (fun i _ => fs.length - (intOf i).toNat)
  case atStart => exact ⟨d, Nat.le_refl _, rfl, by omega, HM.out, HB2.out⟩
  case round =>
    clear HM HB2 hg
    obtain ⟨q, hq, rfl, hq2, HR⟩ := hrel
    by_cases hlt : q < fs.length
    · obtain ⟨m, hm⟩ : ∃ m : Nat, q - d = m := ⟨_, rfl⟩
      have hml : m < fs.length := by omega
      have wm : IntKind.i64.wrap ((q : Int) - (d : Int)) = (m : Int) := by rw [IntKind.wrap_i64]; omega
      have hx := HFB.out m hml
      have hi : IsInts w b fs := HI.out
      rcases hi with rfl | ⟨gf, of_, rfl, hcf⟩
      · simp at hlt
      have c0' := hcf m hml
      have c0 := (HR.out.2.cell (World.block_lt_of_cell? w _ c0')).trans c0'
      have hag : (arrF ns k fs).getD q 0 = (passF ns (fs.getD m 0)).getD k 0 := by
        rw [arrF_get ns k fs hlt]; unfold arrAt; rw [HD.out, if_neg (by omega), show q - ((d : Int)).toNat = m from by omega]
      have CP := HCP.out wr HR.out.2 (fs.getD m 0) hx
      have hpl := passF_len ns (fs.getD m 0)
      have hms := mix_set (zs := arrF ns k fs) (k := q) (by rw [arrF_len]; exact hlt)
      rw [hag] at hms
      generalize fs.getD m 0 = x at c0 CP hpl hms hx
      have m0 : (0 : Int) ≤ (m : Int) := by omega
      have m1 : (m : Int) < (fs.length : Int) := by omega
      have q0 : (0 : Int) ≤ (q : Int) := by omega
      have q1 : (q : Int) < (fs.length : Int) := by omega
      have HMS := Lib.hid hms
      have HMM := Lib.hid hm
      clear hcf c0' hag hms hm
      go_wp2_with fail
      refine CP.mono ?_
      rintro e wq ⟨v, rfl, hP, hb⟩
      obtain ⟨pb, pc, rfl, _⟩ := hP.ints
      rcases hP.at_ with e | ⟨gp, op, rfl, hpp⟩
      · rw [e] at hpl; simp at hpl; omega
      have c1 := hpp k (by omega)
      rw [hpl]
      have hR2 := HR.out.1.of_block hb
      have hB2 := bel_tr HR.out.2 hb
      have hd := hR2.cell (j := q) (by rw [mix_len, arrF_len]; exact hlt)
      have hf2 := hR2.frozen q
      have hst := hR2.set_ q ((passF ns x).getD k 0)
      rw [HMS.out] at hst
      have HS : Hid (OwnI (wq.setCell ⟨g, q, none⟩ (.int .i64 ((passF ns x).getD k 0))) w.heap.size (.slice (some ⟨g, 0, none⟩) fs.length fs.length) (mixZ (arrF ns k fs) (q + 1)) ∧ Below w.heap.size w (wq.setCell ⟨g, q, none⟩ (.int .i64 ((passF ns x).getD k 0)))) := ⟨hst, hB2.setCell (p := ⟨g, q, none⟩) hgw _⟩
      generalize (mixZ (arrF ns k fs) q).getD q 0 = y at hd
      generalize (passF ns x).getD k 0 = p at c1 HS
      clear hR2 hB2 hst hb CP c0 hP hpp HMS HR hpl
      go_wp2_with fail
      go_roundw
      case rel => exact ⟨q + 1, by omega, by go_num, by omega, HS.out⟩
      case measure => simp [intOf]; omega
    · have HE : Hid (OwnI wr w.heap.size (.slice (some ⟨g, 0, none⟩) fs.length fs.length) (arrF ns k fs) ∧ Below w.heap.size w wr) := by
        refine ⟨?_, HR.out.2⟩
        have := HR.out.1
        rw [mix_all (by rw [arrF_len]; omega)] at this
        exact this
      clear HR
      go_wp2_with fail
      go_ret
      exact ⟨_, rfl, HE.out⟩
end Go.Proofs.Ytlpmeljneogpiab
