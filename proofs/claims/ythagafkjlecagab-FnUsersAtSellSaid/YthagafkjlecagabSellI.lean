/- A part that is sold, by impl. Condition: at most 1048576 holdings. -/
import Derived.Test.YthagafkjlecagabSell
import Derived.Test.YthagafkjlecagabLease
namespace Go.Proofs.Ythagafkjlecagab
open Go.RowKit

theorem ipart_yes (n d : Int) (w : World) (h : Wsh.vfB n d = true) (h0 : 0 < n) :
    Calls Try.prog 60 #[.agg #[.int .i64 n, .int .i64 d]] w fun e w' => e = .returned (.bool true) ∧ Below w.heap.size w w' := by
  have IV := iValid n d (w.alloc (.cells #[.int .i64 n, .int .i64 d] 46))
  rw [h] at IV
  clear h
  go_enter Try.func60, Try.ntmps60
  go_wp2_with fail
  refine IV.mono ?_
  rintro e w1 ⟨rfl, hb⟩
  obtain ⟨t0, t1, t2, t3, t4⟩ := blk_two ((Blk.new w 46 #[.int .i64 n, .int .i64 d]).next hb)
  have hB1 : Below w.heap.size w w1 := bel_tr (by go_grown) hb
  clear hb
  go_wp2_with fail
  go_ret
  exact ⟨ret_bool (by simp), hB1⟩
theorem ipart_no (n d : Int) (w : World) (h : Wsh.vfB n d = false ∨ n ≤ 0) :
    Calls Try.prog 60 #[.agg #[.int .i64 n, .int .i64 d]] w fun e w' => e = .returned (.bool false) ∧ Below w.heap.size w w' := by
  have IV := iValid n d (w.alloc (.cells #[.int .i64 n, .int .i64 d] 46))
  cases hv : Wsh.vfB n d with
  | false =>
    rw [hv] at IV
    clear h hv
    go_enter Try.func60, Try.ntmps60
    go_wp2_with fail
    refine IV.mono ?_
    rintro e w1 ⟨rfl, hb⟩
    have hB1 : Below w.heap.size w w1 := bel_tr (by go_grown) hb
    go_wp2_with fail
    go_ret
    exact ⟨rfl, hB1⟩
  | true =>
    rw [hv] at IV
    have h0 : n ≤ 0 := by
      rcases h with h | h
      · rw [hv] at h; cases h
      · exact h
    clear h hv
    go_enter Try.func60, Try.ntmps60
    go_wp2_with fail
    refine IV.mono ?_
    rintro e w1 ⟨rfl, hb⟩
    obtain ⟨t0, t1, t2, t3, t4⟩ := blk_two ((Blk.new w 46 #[.int .i64 n, .int .i64 d]).next hb)
    have hB1 : Below w.heap.size w w1 := bel_tr (by go_grown) hb
    clear hb
    go_wp2_with fail
    go_ret
    exact ⟨ret_bool (by simp; omega), hB1⟩

set_option maxHeartbeats 2000000 in
theorem iSell (a : Option Addr) (cap : Nat) (hs : List Hd) (fr tt pn pd : Int) (w : World) (h : IsHs w a hs) (hn : hs.length ≤ 1048576) (hc : hs.length ≤ cap) :
    Calls Try.prog 27 #[.slice a hs.length cap, .int .i64 fr, .int .i64 tt, .agg #[.int .i64 pn, .int .i64 pd]] w (MoveV w (selB hs fr tt pn pd) (selL hs fr tt pn pd)) := by
  have hB0 : Below w.heap.size w (w.alloc (.cells #[.int .i64 pn, .int .i64 pd] 46)) := by go_grown
  have CV := iVL a cap hs (w.alloc (.cells #[.int .i64 pn, .int .i64 pd] 46)) (hs_below h hB0) hn
  have HI := Lib.hid h
  have HB0 := Lib.hid hB0
  have HC := Lib.hid hc
  clear h hB0 hc
  cases hv : vlR hs with
  | false =>
    rw [hv] at CV
    have HN : Hid (selB hs fr tt pn pd = false) := by show _ = _; unfold selB; rw [hv]; rfl
    clear hv
    go_enter Try.func27, Try.ntmps27
    go_wp2_with fail
    refine CV.mono ?_
    rintro e w1 ⟨rfl, hb⟩
    go_wp2_with fail
    go_returns
    exact ⟨_, by rw [HN.out]; rfl, (fun _ => rfl), (fun c => by rw [HN.out] at c; cases c), bel_tr HB0.out hb⟩
  | true =>
    rw [hv] at CV
    have HV := Lib.hid hv
    clear hv
    by_cases hr : tt < 1 ∨ 999 < tt
    · have HN : Hid (selB hs fr tt pn pd = false) := by
        show _ = _
        cases hx : selB hs fr tt pn pd with
        | false => rfl
        | true =>
          unfold selB at hx
          simp only [Bool.and_eq_true] at hx
          have := (sell_iff _ _ _ _).1 hx.2
          omega
      go_enter Try.func27, Try.ntmps27
      go_wp2_with fail
      refine CV.mono ?_
      rintro e w1 ⟨rfl, hb⟩
      have hB1 := bel_tr HB0.out hb
      go_wp2_with fail
      refine (iowner_no tt _ hr).mono ?_
      rintro e w' ⟨rfl, rfl⟩
      go_wp2_with fail
      go_returns
      exact ⟨_, by rw [HN.out]; rfl, (fun _ => rfl), (fun c => by rw [HN.out] at c; cases c), hB1⟩
    · have h1 : 1 ≤ tt := by omega
      have h2 : tt ≤ 999 := by omega
      clear hr
      by_cases hft : fr = tt
      · have HN : Hid (selB hs fr tt pn pd = false) := by
          show _ = _
          cases hx : selB hs fr tt pn pd with
          | false => rfl
          | true =>
            unfold selB at hx
            simp only [Bool.and_eq_true] at hx
            exact absurd hft ((sell_iff _ _ _ _).1 hx.2).2.2.2.1
        have e2 : (fr == tt) = true := by simpa using hft
        clear hft
        go_enter Try.func27, Try.ntmps27
        go_wp2_with fail
        refine CV.mono ?_
        rintro e w1 ⟨rfl, hb⟩
        have hB1 := bel_tr HB0.out hb
        go_wp2_with fail
        refine (iowner_yes tt _ h1 h2).mono ?_
        rintro e w' ⟨rfl, rfl⟩
        go_wp2_with fail
        go_returns
        exact ⟨_, by rw [HN.out]; rfl, (fun _ => rfl), (fun c => by rw [HN.out] at c; cases c), hB1⟩
      · have e2 : (fr == tt) = false := by simpa using hft
        have HFT := Lib.hid hft
        clear hft
        by_cases hp : Wsh.vfB pn pd = false ∨ pn ≤ 0
        · have HN : Hid (selB hs fr tt pn pd = false) := by
            show _ = _
            cases hx : selB hs fr tt pn pd with
            | false => rfl
            | true =>
              unfold selB at hx
              simp only [Bool.and_eq_true] at hx
              have hp0 := ((sell_iff _ _ _ _).1 hx.2).2.2.1
              have hvf := hx.1.2
              rcases hp with hp | hp
              · rw [hp] at hvf; cases hvf
              · have hk := (Wsh.vfB_iff _ _).1 hvf
                have : pn = 0 := by omega
                obtain ⟨e1, _, _⟩ := vf_q hvf
                exact absurd ((num_zero _).1 (e1.trans this)) hp0
          have HP : Hid (Wsh.vfB pn pd = false ∨ pn ≤ 0) := hp
          clear hp
          go_enter Try.func27, Try.ntmps27
          go_wp2_with fail
          refine CV.mono ?_
          rintro e w1 ⟨rfl, hb⟩
          obtain ⟨t0, t1, t2, t3, t4⟩ := blk_two ((Blk.new w 46 #[.int .i64 pn, .int .i64 pd]).next hb)
          have hB1 := bel_tr HB0.out hb
          clear hb CV
          go_wp2_with fail
          refine (iowner_yes tt _ h1 h2).mono ?_
          rintro e w' ⟨rfl, rfl⟩
          go_wp2_with fail
          refine (ipart_no pn pd _ HP.out).mono ?_
          rintro e w2 ⟨rfl, hb⟩
          go_wp2_with fail
          go_returns
          exact ⟨_, by rw [HN.out]; rfl, (fun _ => rfl), (fun c => by rw [HN.out] at c; cases c), bel_tr hB1 hb⟩
        · have hvf : Wsh.vfB pn pd = true := by
            cases hx : Wsh.vfB pn pd with
            | true => rfl
            | false => exact absurd (.inl hx) hp
          have hpos : 0 < pn := by
            rcases Int.lt_or_le 0 pn with h | h
            · exact h
            · exact absurd (.inr (by omega)) hp
          clear hp
          obtain ⟨e1, e2', e3⟩ := vf_q hvf
          have hL := (vlR_is HV.out).2
          have hle := led_le HV.out
          have HVL := Lib.hid hL
          have HEq := Lib.hid (led_eq HV.out)
          obtain ⟨p, hpe⟩ : ∃ p, p = Rat.divInt pn pd := ⟨_, rfl⟩
          rw [← hpe] at e1 e2' e3
          have HE : Hid (selB hs fr tt pn pd = (frB (shareL (ledOf hs) fr - p) && frB (shareL (ledOf hs) tt + p) && vlB (soldL (ledOf hs) fr tt p))) := by
            show _ = _
            have hp0 : p ≠ 0 := fun c => by rw [(num_zero p).2 c] at e1; omega
            unfold selB sellB
            rw [HV.out, hvf, ← hpe, decide_eq_true hp0, decide_eq_true HFT.out, decide_eq_true h1, decide_eq_true h2]
            simp
          have HSl : Hid (selL hs fr tt pn pd = soldL (ledOf hs) fr tt p) := by show _ = _; unfold selL; rw [hpe]
          have HT2 : Hid (setL (setL (ledOf hs) fr (shareL (ledOf hs) fr - p)) tt (shareL (setL (ledOf hs) fr (shareL (ledOf hs) fr - p)) tt + p) = soldL (ledOf hs) fr tt p) := sold_two hL.asc (fun e => HFT.out e.symm) p
          have HT3 : Hid (shareL (setL (ledOf hs) fr (shareL (ledOf hs) fr - p)) tt = shareL (ledOf hs) tt) := by show _ = _; rw [share_set hL.asc, if_neg (fun e => HFT.out e.symm)]
          have HVf := Lib.hid hvf
          have E1 := Lib.hid e1
          have E2 := Lib.hid e2'
          have E3 := Lib.hid e3
          have hl2 : (rawL (soldL (ledOf hs) fr tt p)).length ≤ 1048576 := by
            rw [raw_len]
            have b1 := set_len (L := setL (ledOf hs) fr (shareL (ledOf hs) fr - p)) tt (shareL (ledOf hs) tt + p)
            have b2 := set_len (L := ledOf hs) fr (shareL (ledOf hs) fr - p)
            rw [led_len] at b2
            unfold soldL
            omega
          clear e1 e2' e3 hvf hL hpe
          go_enter Try.func27, Try.ntmps27
          go_wp2_with fail
          refine CV.mono ?_
          rintro e w1 ⟨rfl, hb⟩
          have hblk := (Blk.new w 46 #[.int .i64 pn, .int .i64 pd]).next hb
          obtain ⟨t0, t1, t2, t3, t4⟩ := blk_two hblk
          have HK := Lib.hid hblk
          have hB1 := bel_tr HB0.out hb
          clear hb CV hblk
          go_wp2_with fail
          refine (iowner_yes tt _ h1 h2).mono ?_
          rintro e w' ⟨rfl, rfl⟩
          go_wp2_with fail
          refine (ipart_yes pn pd _ HVf.out hpos).mono ?_
          rintro e w2 ⟨rfl, hb⟩
          obtain ⟨t0, t1, t2, t3, t4⟩ := blk_two (HK.out.next hb)
          have hB2 := bel_tr hB1 hb
          clear hb HK
          go_wp2_with fail
          have MV := imove a cap (ledOf hs) hs fr tt pn pd p w2 (hs_below HI.out hB2) HEq.out (by omega) HVL.out.asc HVL.out.fr E3.out E1.out.symm E2.out.symm HC.out
          rw [HT2.out, HT3.out] at MV
          refine MV.mono ?_
          rintro e w3 ⟨v, rfl, m1, m2, hb⟩
          have hB3 := bel_tr hB2 hb
          have hO0 := fun c => own_le (m2 c) hB2.size
          have HE' := HE.out
          generalize (frB (shareL (ledOf hs) fr - p) && frB (shareL (ledOf hs) tt + p)) = bb at m1 m2 hO0 HE' ⊢
          have HM := Lib.hid m1
          have HO := Lib.hid hO0
          have HEE := Lib.hid HE'
          clear m1 m2 hO0 HE' hb MV
          cases bb with
          | false =>
            have HN : Hid (selB hs fr tt pn pd = false) := by show _ = _; rw [HEE.out]; rfl
            go_wp2_with fail
            go_returns
            exact ⟨_, by rw [HN.out]; rfl, (fun _ => rfl), (fun c => by rw [HN.out] at c; cases c), hB3⟩
          | true =>
            have hO := HO.out rfl
            obtain ⟨b2, cp2, rfl, hI2, hc2⟩ := own_hs2 hO
            have hv := iVL b2 cp2 _ w3 hI2 hl2
            rw [vlR_vl] at hv
            have HO3 := Lib.hid hO
            clear hO HO HM
            cases hvl : vlB (soldL (ledOf hs) fr tt p) with
            | false =>
              rw [hvl] at hv
              have HN : Hid (selB hs fr tt pn pd = false) := by show _ = _; rw [HEE.out, hvl]; rfl
              clear hvl
              go_wp2_with fail
              refine hv.mono ?_
              rintro e w4 ⟨rfl, hb4⟩
              go_wp2_with fail
              go_returns
              exact ⟨_, by rw [HN.out]; rfl, (fun _ => rfl), (fun c => by rw [HN.out] at c; cases c), bel_tr hB3 hb4⟩
            | true =>
              rw [hvl] at hv
              have HN : Hid (selB hs fr tt pn pd = true) := by show _ = _; rw [HEE.out, hvl]; rfl
              clear hvl
              go_wp2_with fail
              refine hv.mono ?_
              rintro e w4 ⟨rfl, hb4⟩
              go_wp2_with fail
              go_returns
              exact ⟨_, by rw [HN.out]; rfl, (fun c => by rw [HN.out] at c; cases c), (fun _ => by rw [HSl.out]; exact own_next HO3.out hb4), bel_tr hB3 hb4⟩
end Go.Proofs.Ythagafkjlecagab
