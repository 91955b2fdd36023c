/- What arrives, by the model. Condition: at most 1048576 nodes. -/
import Derived.Test.YtlpmeljneogpiabFlowV
import Derived.Test.YtlpmeljneogpiabFlowA
namespace Go.Proofs.Ytlpmeljneogpiab
open Go.RowKit
set_option linter.unusedSimpArgs false
set_option linter.unusedVariables false
theorem arrive_nv {ns : List Nd} {at_ : Int} {fs : List Int} (h : vnB ns = false ∨ inN ns.length at_ = false) : arriveV ns at_ fs = [] :=
  arrive_no (av_no (.inl (by rcases h with h | h <;> rw [h] <;> simp)))
set_option maxHeartbeats 8000000 in
/-- spec.ArriveAt -/
theorem sArrive (a b : Option Addr) (cap cb : Nat) (ns : List Nd) (at_ : Int) (fs : List Int) (w : World) (h : IsNd w a ns) (hn : ns.length ≤ 1048576) (hb : IsInts w b fs) (hf : fs.length ≤ 1048576) :
    Calls Try.prog 26 #[.slice a ns.length cap, .int .i64 at_, .slice b fs.length cb] w (OutI w (arriveV ns at_ fs)) := by
  have HVF := Lib.hid (fun (W : World) (hW : Below w.heap.size w W) => svflows b cb fs W (ints_below hb hW) hf)
  have VN := svn a cap ns _ h hn
  have CI := fun W => sinRange at_ 0 ((ns.length : Int) - 1) W
  rw [inN_range] at CI
  have wn : IntKind.i64.wrap ((ns.length : Int) - 1) = (ns.length : Int) - 1 := by rw [IntKind.wrap_i64]; omega
  cases hv : vnB ns with
  | false =>
    rw [arrive_nv (.inl hv)]
    rw [hv] at VN
    clear hv h hb
    go_enter Try.func26, Try.ntmps26
    go_wp2_with fail
    refine VN.mono ?_
    rintro e w1 ⟨rfl, C⟩
    go_wp2_with fail
    go_ret
    exact outI_nil C
  | true =>
  rw [hv] at VN
  cases hi : inN ns.length at_ with
  | false =>
    rw [arrive_nv (.inr hi)]
    rw [hi] at CI
    clear hv hi h hb
    go_enter Try.func26, Try.ntmps26
    go_wp2_with fail
    refine VN.mono ?_
    rintro e w1 ⟨rfl, C⟩
    go_wp2_with fail
    refine (CI _).mono ?_
    rintro e w' ⟨rfl, rfl⟩
    go_wp2_with fail
    go_ret
    exact outI_nil C
  | true =>
    rw [hi] at CI
    obtain ⟨k, rfl, hk⟩ := inN_yes hi
    have hav : avB ns (k : Int) fs = (decide (fs.length ≤ 200) && allB fs 500) := by unfold avB; rw [hv, hi]; rfl
    obtain ⟨t, ht⟩ : ∃ t, (decide (fs.length ≤ 200) && allB fs 500) = t := ⟨_, rfl⟩
    have HT := Lib.hid ht
    rw [ht] at HVF hav
    cases t with
    | false =>
      rw [arrive_no hav]
      clear hi hv h hb ht hav
      go_enter Try.func26, Try.ntmps26
      go_wp2_with fail
      refine VN.mono ?_
      rintro e w1 ⟨rfl, C⟩
      go_wp2_with fail
      refine (CI _).mono ?_
      rintro e w' ⟨rfl, rfl⟩
      have CV := HVF.out w1 C
      clear VN CI
      go_wp2_with fail
      refine CV.mono ?_
      rintro e w' ⟨rfl, rfl⟩
      go_wp2_with fail
      go_ret
      exact outI_nil C
    | true =>
    rw [arrive_yes hav]
    have hav2 := av_is hav
    obtain ⟨i0, hi0, hz0, hz1, hz2⟩ := info_parts infoInt
    have hd := delay_bd hv hk
    obtain ⟨d, hdd⟩ : ∃ d : Nat, delayF ns (k : Int) = (d : Int) := ⟨(delayF ns (k : Int)).toNat, by omega⟩
    have CD := fun (W : World) (hW : Below w.heap.size w W) => (by have := sDelay a cap ns (k : Int) W (nd_below h hW) hn; rw [delay_yes hv hi, hdd] at this; exact this : Calls Try.prog 57 #[.slice a ns.length cap, .int .i64 (k : Int)] W fun e w' => e = .returned (.int .i64 (d : Int)) ∧ Below W.heap.size W w')
    have HD := Lib.hid (fun (W : World) (hW : Below w.heap.size w W) (x : Int) (hx : 0 ≤ x ∧ x ≤ 500) => sdelivered a cap ns k x W (nd_below h hW) hv hk hx)
    have HFB := Lib.hid (fun i (hi : i < fs.length) => (allB_iff fs 500).1 hav2.2.2.2 _ (getD_mem hi))
    have HCD := Lib.hid CD
    have HI := Lib.hid hb
    have HDD := Lib.hid hdd
    have l200 := hav2.2.2.1
    have d240 : d ≤ 240 := by omega
    clear hi hv h hb ht hav hav2 hd CD hdd
    go_enter Try.func26, Try.ntmps26
    go_wp2_with fail
    refine VN.mono ?_
    rintro e w1 ⟨rfl, C⟩
    go_wp2_with fail
    refine (CI _).mono ?_
    rintro e w' ⟨rfl, rfl⟩
    have CV := HVF.out w1 C
    clear VN CI
    go_wp2_with fail
    refine CV.mono ?_
    rintro e w' ⟨rfl, rfl⟩
    clear CV HVF
    have HO1 := Lib.hid (OwnI.new C)
    have hBa := C.alloc C.size (.cells #[] 3)
    have CD := HCD.out _ hBa
    have HBa := Lib.hid hBa
    clear hBa C
    go_wp2_with fail
    refine CD.mono ?_
    rintro e w3 ⟨rfl, hb3⟩
    have HO3 : Hid (OwnI w3 w.heap.size (.slice (some ⟨w1.heap.size, 0, none⟩) 0 0) [] ∧ Below w.heap.size w w3) := ⟨HO1.out.of_block hb3, bel_tr HBa.out hb3⟩
    clear CD hb3 HO1 HBa
    go_wp2_with fail
    go_loopw [7, 9] (fun v i wr => ∃ q : Nat, q ≤ fs.length ∧ i = .int .i64 q ∧ OwnI wr w.heap.size v ((arrF ns k fs).take q) ∧ Below w.heap.size w wr) (fun _ i _ => fs.length - (intOf i).toNat)
    case atStart => exact ⟨0, Nat.zero_le _, rfl, HO3.out.1, HO3.out.2⟩
    case round =>
      clear HO3
      obtain ⟨q, hq, rfl, hO, hB⟩ := hrel
      by_cases hlt : q < fs.length
      · have htk := take_snocD (arrF ns k fs) (k := q) (by rw [arrF_len]; exact hlt) 0
        rw [arrF_get ns k fs hlt] at htk
        unfold arrAt at htk
        rw [HDD.out] at htk
        have hll : ((arrF ns k fs).take q).length ≤ 1048576 := by rw [List.length_take]; omega
        generalize (arrF ns k fs).take q = tk at hO htk hll
        by_cases hqd : q < d
        · rw [if_pos (by omega)] at htk
          have e1 : decide ((d : Int) ≤ (q : Int)) = false := decide_eq_false (by omega)
          have e2 : decide (d ≤ q) = false := decide_eq_false (by omega)
          have HTK := Lib.hid htk
          have hsz := hB.size
          clear htk
          go_wp2_with (first | (at_builtin; refine wpList_append_own _ rfl (.tmp 49) (.tmp 51) _ rfl w.heap.size 3 i0 (.int .i64 0) 1 8 Try.underlying27 hi0 hz0 hz1 hz2 rfl (by decide) _ _ _ rfl (hO.alloc _) ⟨wr.heap.size, 0, none⟩ 1 1 [.int .i64 0] rfl rfl (cell_one_new _ _ _) (fun x hx => by simp at hx; subst hx; rfl) (by unfold maxLen; omega) (by omega) (by simp; omega) ?_; intro v3 w3 hown3 hgrow3 hnil3))
          have HR : Hid (OwnI w3 w.heap.size v3 ((arrF ns k fs).take (q + 1)) ∧ Below w.heap.size w w3) := ⟨by rw [HTK.out]; exact OwnI.snoc hown3, (hB.alloc hsz _).grown hgrow3 (by simp; omega) hO.grow⟩
          clear hO hown3 hgrow3 hnil3 hB
          go_roundw
          case rel => exact ⟨q + 1, by omega, by go_num, HR.out.1, HR.out.2⟩
          case measure => simp [intOf]; omega
        · rw [if_neg (by omega), show ((d : Int)).toNat = d from by omega] at htk
          have e1 : decide ((d : Int) ≤ (q : Int)) = true := decide_eq_true (by omega)
          have e2 : decide (d ≤ q) = true := decide_eq_true (by omega)
          obtain ⟨m, hm⟩ : ∃ m : Nat, q - d = m := ⟨_, rfl⟩
          have hml : m < fs.length := by omega
          have wm : IntKind.i64.wrap ((q : Int) - (d : Int)) = (m : Int) := by rw [IntKind.wrap_i64]; omega
          have hi : IsInts w b fs := HI.out
          rcases hi with rfl | ⟨gf, of_, rfl, hcf⟩
          · simp at hlt
          have c0' := hcf m hml
          have c0 := (hB.cell (World.block_lt_of_cell? w _ c0')).trans c0'
          rw [hm] at htk
          have CDL := HD.out wr hB _ (HFB.out m hml)
          generalize fs.getD m 0 = x at c0 CDL htk
          generalize (passF ns x).getD k 0 = p at CDL htk
          have m0 : (0 : Int) ≤ (m : Int) := by omega
          have m1 : (m : Int) < (fs.length : Int) := by omega
          have HTK := Lib.hid htk
          have HO := Lib.hid hO
          have HB := Lib.hid hB
          clear htk hcf c0' hm hO hB
          go_wp2_with fail
          refine CDL.mono ?_
          rintro e w4 ⟨rfl, hb4⟩
          have hO4 := HO.out.of_block hb4
          have hB4 := bel_tr HB.out hb4
          have hsz := hB4.size
          clear hb4 CDL c0
          go_wp2_with (first | (at_builtin; refine wpList_append_own _ rfl (.tmp 49) (.tmp 51) _ rfl w.heap.size 3 i0 (.int .i64 0) 1 8 Try.underlying27 hi0 hz0 hz1 hz2 rfl (by decide) _ _ _ rfl (hO4.alloc _) ⟨w4.heap.size, 0, none⟩ 1 1 [.int .i64 p] rfl rfl (cell_one_new _ _ _) (fun x hx => by simp at hx; subst hx; rfl) (by unfold maxLen; omega) (by omega) (by simp; omega) ?_; intro v3 w3 hown3 hgrow3 hnil3))
          have HR : Hid (OwnI w3 w.heap.size v3 ((arrF ns k fs).take (q + 1)) ∧ Below w.heap.size w w3) := ⟨by rw [HTK.out]; exact OwnI.snoc hown3, (hB4.alloc hsz _).grown hgrow3 (by simp; omega) hO4.grow⟩
          clear hO4 hown3 hgrow3 hnil3 hB4
          go_roundw
          case rel => exact ⟨q + 1, by omega, by go_num, HR.out.1, HR.out.2⟩
          case measure => simp [intOf]; omega
      · have HO : Hid (OwnI wr w.heap.size u7 (arrF ns k fs) ∧ Below w.heap.size w wr) := by
          rw [List.take_of_length_le (by rw [arrF_len]; omega)] at hO
          exact ⟨hO, hB⟩
        clear hO hB
        go_wp2_with fail
        go_ret
        exact ⟨_, rfl, HO.out⟩
end Go.Proofs.Ytlpmeljneogpiab
