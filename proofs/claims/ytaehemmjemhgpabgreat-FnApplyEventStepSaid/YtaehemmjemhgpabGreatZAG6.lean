/- Contracts and facts of functions of this program, in build order. Conditions: those stated in each. -/
import Derived.Test.YtaehemmjemhgpabGreatZASell
import Derived.Test.YtaehemmjemhgpabGreatZAG1
import Derived.Test.YtaehemmjemhgpabGreatZAG5
import Derived.Deep.RegionHeld3
import Derived.Deep.DeepCutAuto
set_option maxRecDepth 100000
set_option maxHeartbeats 16000000
namespace Go.Proofs.YtaehemmjemhgpabGreat
open Go.RowKit
set_option linter.unusedSimpArgs false
set_option linter.unusedVariables false
theorem ipart_yes (n d : Int) (w : World) (h : Wsh.vfB n d = true) (h0 : 0 < n) :
  Calls Tryz.prog 166 #[.agg #[.int .i64 n, .int .i64 d]] w fun e w' => e = .returned (.bool true) ∧ Below w.heap.size w w' := by
 have IV := iValid n d (w.alloc (.cells #[.int .i64 n, .int .i64 d] 32)); rw [h] at IV; clear h; go_enter Tryz.func166, Tryz.ntmps166; go_wp2_with fail; refine IV.mono ?_; rintro e w1 ⟨rfl, hb⟩; obtain ⟨t0, t1, t2, t3, t4⟩ := jqh ((Blk.new w 32 #[.int .i64 n, .int .i64 d]).next hb); have hB1 : Below w.heap.size w w1 := jq1 (by go_grown) hb; clear hb; go_wp2_with fail; go_ret; exact ⟨jq4 (by simp), hB1⟩
theorem ipart_no (n d : Int) (w : World) (h : Wsh.vfB n d = false ∨ n ≤ 0) :
    Calls Tryz.prog 166 #[.agg #[.int .i64 n, .int .i64 d]] w fun e w' => e = .returned (.bool false) ∧ Below w.heap.size w w' := by
  have IV := iValid n d (w.alloc (.cells #[.int .i64 n, .int .i64 d] 32))
  cases hv : Wsh.vfB n d with
  | false =>
    rw [hv] at IV; clear h hv; go_enter Tryz.func166, Tryz.ntmps166; go_wp2_with fail; refine IV.mono ?_; rintro e w1 ⟨rfl, hb⟩; have hB1 : Below w.heap.size w w1 := jq1 (by go_grown) hb; go_wp2_with fail; go_ret; exact ⟨rfl, hB1⟩
  | true =>
    rw [hv] at IV
    have h0 : n ≤ 0 := by
      rcases h with h | h
      · rw [hv] at h; cases h
      · exact h
    clear h hv; go_enter Tryz.func166, Tryz.ntmps166; go_wp2_with fail; refine IV.mono ?_; rintro e w1 ⟨rfl, hb⟩; obtain ⟨t0, t1, t2, t3, t4⟩ := jqh ((Blk.new w 32 #[.int .i64 n, .int .i64 d]).next hb); have hB1 : Below w.heap.size w w1 := jq1 (by go_grown) hb; clear hb; go_wp2_with fail; go_ret; exact ⟨jq4 (by simp; omega), hB1⟩
theorem iSell (a : Option Addr) (cap : Nat) (hs : List Hd) (fr tt pn pd : Int) (w : World) (h : IsHs w a hs) (hn : hs.length ≤ 1048576) (hc : hs.length ≤ cap) :
    Calls Tryz.prog 133 #[.slice a hs.length cap, .int .i64 fr, .int .i64 tt, .agg #[.int .i64 pn, .int .i64 pd]] w (MoveV w (selB hs fr tt pn pd) (selL hs fr tt pn pd)) := by
  have hB0 : Below w.heap.size w (w.alloc (.cells #[.int .i64 pn, .int .i64 pd] 32)) := by go_grown
  have CV := iVL a cap hs (w.alloc (.cells #[.int .i64 pn, .int .i64 pd] 32)) (jqi h hB0) hn; have HI := Lib.hid h; have HB0 := Lib.hid hB0; have HC := Lib.hid hc; clear h hB0 hc
  cases hv : vlR hs with
  | false =>
    rw [hv] at CV
    have HN : Hid (selB hs fr tt pn pd = false) := by show _ = _; unfold selB; rw [hv]; rfl
    clear hv; go_enter Tryz.func133, Tryz.ntmps133; go_wp2_with fail; refine CV.mono ?_; rintro e w1 ⟨rfl, hb⟩; go_wp2_with fail
    go_returns
    exact ⟨_, by rw [HN.out]; rfl, (fun _ => rfl), (fun c => by rw [HN.out] at c; cases c), jq1 HB0.out hb⟩
  | true =>
    rw [hv] at CV; have HV := Lib.hid hv; clear hv
    by_cases hr : tt < 1 ∨ 999 < tt
    · have HN : Hid (selB hs fr tt pn pd = false) := by
        show _ = _
        cases hx : selB hs fr tt pn pd with
        | false => rfl
        | true =>
          unfold selB at hx; simp only [Bool.and_eq_true] at hx; have := (sell_iff _ _ _ _).1 hx.2
          omega
      go_enter Tryz.func133, Tryz.ntmps133; go_wp2_with fail; refine CV.mono ?_; rintro e w1 ⟨rfl, hb⟩; have hB1 := jq1 HB0.out hb; go_wp2_with fail; refine (iowner_no tt _ hr).mono ?_; rintro e w' ⟨rfl, rfl⟩; go_wp2_with fail
      go_returns
      exact ⟨_, by rw [HN.out]; rfl, (fun _ => rfl), (fun c => by rw [HN.out] at c; cases c), hB1⟩
    · have h1 : 1 ≤ tt := by omega
      have h2 : tt ≤ 999 := by omega
      clear hr
      by_cases hft : fr = tt
      · have HN : Hid (selB hs fr tt pn pd = false) := by
          show _ = _
          cases hx : selB hs fr tt pn pd with
          | false => rfl
          | true =>
            unfold selB at hx; simp only [Bool.and_eq_true] at hx; exact absurd hft ((sell_iff _ _ _ _).1 hx.2).2.2.2.1
        have e2 : (fr == tt) = true := by simpa using hft
        clear hft; go_enter Tryz.func133, Tryz.ntmps133; go_wp2_with fail; refine CV.mono ?_; rintro e w1 ⟨rfl, hb⟩; have hB1 := jq1 HB0.out hb; go_wp2_with fail; refine (jjd tt _ h1 h2).mono ?_; rintro e w' ⟨rfl, rfl⟩; go_wp2_with fail
        go_returns
        exact ⟨_, by rw [HN.out]; rfl, (fun _ => rfl), (fun c => by rw [HN.out] at c; cases c), hB1⟩
      · have e2 : (fr == tt) = false := by simpa using hft
        have HFT := Lib.hid hft; clear hft
        by_cases hp : Wsh.vfB pn pd = false ∨ pn ≤ 0
        · have HN : Hid (selB hs fr tt pn pd = false) := by
            show _ = _
            cases hx : selB hs fr tt pn pd with
            | false => rfl
            | true =>
              unfold selB at hx; simp only [Bool.and_eq_true] at hx; have hp0 := ((sell_iff _ _ _ _).1 hx.2).2.2.1; have hvf := hx.1.2
              rcases hp with hp | hp
              · rw [hp] at hvf; cases hvf
              · have hk := (Wsh.vfB_iff _ _).1 hvf
                have : pn = 0 := by omega
                obtain ⟨e1, _, _⟩ := vf_q hvf; exact absurd ((num_zero _).1 (e1.trans this)) hp0
          have HP : Hid (Wsh.vfB pn pd = false ∨ pn ≤ 0) := hp; clear hp; go_enter Tryz.func133, Tryz.ntmps133; go_wp2_with fail; refine CV.mono ?_; rintro e w1 ⟨rfl, hb⟩; obtain ⟨t0, t1, t2, t3, t4⟩ := jqh ((Blk.new w 32 #[.int .i64 pn, .int .i64 pd]).next hb); have hB1 := jq1 HB0.out hb; clear hb CV; go_wp2_with fail; refine (jjd tt _ h1 h2).mono ?_; rintro e w' ⟨rfl, rfl⟩; go_wp2_with fail; refine (ipart_no pn pd _ HP.out).mono ?_; rintro e w2 ⟨rfl, hb⟩; go_wp2_with fail
          go_returns
          exact ⟨_, by rw [HN.out]; rfl, (fun _ => rfl), (fun c => by rw [HN.out] at c; cases c), jq1 hB1 hb⟩
        · have hvf : Wsh.vfB pn pd = true := by
            cases hx : Wsh.vfB pn pd with
            | true => rfl
            | false => exact absurd (.inl hx) hp
          have hpos : 0 < pn := by
            rcases Int.lt_or_le 0 pn with h | h
            · exact h
            · exact absurd (.inr (by omega)) hp
          clear hp; obtain ⟨e1, e2', e3⟩ := vf_q hvf; have hL := (vlR_is HV.out).2; have hle := led_le HV.out; have HVL := Lib.hid hL; have HEq := Lib.hid (led_eq HV.out)
          obtain ⟨p, hpe⟩ : ∃ p, p = Rat.divInt pn pd := ⟨_, rfl⟩
          rw [← hpe] at e1 e2' e3
          have HE : Hid (selB hs fr tt pn pd = (frB (jq5 (jq8 hs) fr - p) && frB (jq5 (jq8 hs) tt + p) && vlB (soldL (jq8 hs) fr tt p))) := by
            show _ = _
            have hp0 : p ≠ 0 := fun c => by rw [(num_zero p).2 c] at e1; omega
            unfold selB sellB; rw [HV.out, hvf, ← hpe, decide_eq_true hp0, decide_eq_true HFT.out, decide_eq_true h1, decide_eq_true h2]
            simp
          have HSl : Hid (selL hs fr tt pn pd = soldL (jq8 hs) fr tt p) := by show _ = _; unfold selL; rw [hpe]
          have HT2 : Hid (setL (setL (jq8 hs) fr (jq5 (jq8 hs) fr - p)) tt (jq5 (setL (jq8 hs) fr (jq5 (jq8 hs) fr - p)) tt + p) = soldL (jq8 hs) fr tt p) := sold_two hL.asc (fun e => HFT.out e.symm) p
          have HT3 : Hid (jq5 (setL (jq8 hs) fr (jq5 (jq8 hs) fr - p)) tt = jq5 (jq8 hs) tt) := by show _ = _; rw [share_set hL.asc, if_neg (fun e => HFT.out e.symm)]
          have HVf := Lib.hid hvf; have E1 := Lib.hid e1; have E2 := Lib.hid e2'; have E3 := Lib.hid e3
          have hl2 : (rawL (soldL (jq8 hs) fr tt p)).length ≤ 1048576 := by
            rw [jx5]; have b1 := set_len (L := setL (jq8 hs) fr (jq5 (jq8 hs) fr - p)) tt (jq5 (jq8 hs) tt + p); have b2 := set_len (L := jq8 hs) fr (jq5 (jq8 hs) fr - p); rw [jv7] at b2; unfold soldL
            omega
          clear e1 e2' e3 hvf hL hpe; go_enter Tryz.func133, Tryz.ntmps133; go_wp2_with fail; refine CV.mono ?_; rintro e w1 ⟨rfl, hb⟩; have hblk := (Blk.new w 32 #[.int .i64 pn, .int .i64 pd]).next hb; obtain ⟨t0, t1, t2, t3, t4⟩ := jqh hblk; have HK := Lib.hid hblk; have hB1 := jq1 HB0.out hb; clear hb CV hblk; go_wp2_with fail; refine (jjd tt _ h1 h2).mono ?_; rintro e w' ⟨rfl, rfl⟩; go_wp2_with fail; refine (ipart_yes pn pd _ HVf.out hpos).mono ?_; rintro e w2 ⟨rfl, hb⟩; obtain ⟨t0, t1, t2, t3, t4⟩ := jqh (HK.out.next hb); have hB2 := jq1 hB1 hb; clear hb HK; go_wp2_with fail; have MV := imove a cap (jq8 hs) hs fr tt pn pd p w2 (jqi HI.out hB2) HEq.out (by omega) HVL.out.asc HVL.out.fr E3.out E1.out.symm E2.out.symm HC.out; rw [HT2.out, HT3.out] at MV; refine MV.mono ?_; rintro e w3 ⟨v, rfl, m1, m2, hb⟩; have hB3 := jq1 hB2 hb
          have hO0 := fun c => own_le (m2 c) hB2.size
          have HE' := HE.out; generalize (frB (jq5 (jq8 hs) fr - p) && frB (jq5 (jq8 hs) tt + p)) = bb at m1 m2 hO0 HE' ⊢; have HM := Lib.hid m1; have HO := Lib.hid hO0; have HEE := Lib.hid HE'; clear m1 m2 hO0 HE' hb MV
          cases bb with
          | false =>
            have HN : Hid (selB hs fr tt pn pd = false) := by show _ = _; rw [HEE.out]; rfl
            go_wp2_with fail
            go_returns
            exact ⟨_, by rw [HN.out]; rfl, (fun _ => rfl), (fun c => by rw [HN.out] at c; cases c), hB3⟩
          | true =>
            have hO := HO.out rfl; obtain ⟨b2, cp2, rfl, hI2, hc2⟩ := own_hs2 hO; have hv := iVL b2 cp2 _ w3 hI2 hl2; rw [vlR_vl] at hv; have HO3 := Lib.hid hO; clear hO HO HM
            cases hvl : vlB (soldL (jq8 hs) fr tt p) with
            | false =>
              rw [hvl] at hv
              have HN : Hid (selB hs fr tt pn pd = false) := by show _ = _; rw [HEE.out, hvl]; rfl
              clear hvl; go_wp2_with fail; refine hv.mono ?_; rintro e w4 ⟨rfl, hb4⟩; go_wp2_with fail
              go_returns
              exact ⟨_, by rw [HN.out]; rfl, (fun _ => rfl), (fun c => by rw [HN.out] at c; cases c), jq1 hB3 hb4⟩
            | true =>
              rw [hvl] at hv
              have HN : Hid (selB hs fr tt pn pd = true) := by show _ = _; rw [HEE.out, hvl]; rfl
              clear hvl; go_wp2_with fail; refine hv.mono ?_; rintro e w4 ⟨rfl, hb4⟩; go_wp2_with fail
              go_returns
              exact ⟨_, by rw [HN.out]; rfl, (fun c => by rw [HN.out] at c; cases c), (fun _ => by rw [HSl.out]; exact own_next HO3.out hb4), jq1 hB3 hb4⟩
def joinB (hs : List Hd) (fr tt : Int) : Bool := selB hs fr tt (shV hs fr).1 (shV hs fr).2
def joinL' (hs : List Hd) (fr tt : Int) : Led := selL hs fr tt (shV hs fr).1 (shV hs fr).2
theorem iJoin (a : Option Addr) (cap : Nat) (hs : List Hd) (fr tt : Int) (w : World) (h : IsHs w a hs) (hn : hs.length ≤ 1048576) (hc : hs.length ≤ cap) :
  Calls Tryz.prog 135 #[.slice a hs.length cap, .int .i64 fr, .int .i64 tt] w (MoveV w (joinB hs fr tt) (joinL' hs fr tt)) := by
 have HI := Lib.hid h; clear h; go_enter Tryz.func135, Tryz.ntmps135; go_wp2_with fail; refine (iShareOf a cap hs fr _ HI.out hn).mono ?_; rintro e w1 ⟨rfl, hb⟩; go_wp2_with fail; refine (iSell a cap hs fr tt _ _ _ (jqi HI.out hb) hn hc).mono ?_; rintro e w2 ⟨v, rfl, m1, m2, hb2⟩; go_wp2_with fail
 go_returns
 exact ⟨v, rfl, m1, (fun c => own_le (m2 c) hb.size), jq1 hb hb2⟩
def gvTo (p : Rat) (L : Led) (zs : List Int) (k : Nat) : Led := giveL p L (zs.take k)
def gvOk (p : Rat) (L : Led) (zs : List Int) (k : Nat) : Bool := frB (jq5 (gvTo p L zs k) (zs.getD k 0) + p)
def gvAll (p : Rat) (L : Led) (zs : List Int) : Bool := (List.range zs.length).all (gvOk p L zs)
theorem gv_zero (p : Rat) (L : Led) (zs : List Int) : gvTo p L zs 0 = L := rfl
theorem gv_succ (p : Rat) (L : Led) {zs : List Int} {k : Nat} (h : k < zs.length) : gvTo p L zs (k + 1) = setL (gvTo p L zs k) (zs.getD k 0) (jq5 (gvTo p L zs k) (zs.getD k 0) + p) := by
 unfold gvTo; rw [take_snocD zs h 0, give_snoc]
theorem gv_end (p : Rat) (L : Led) (zs : List Int) : gvTo p L zs zs.length = giveL p L zs := by unfold gvTo; rw [List.take_of_length_le (Nat.le_refl _)]
theorem gv_asc {p : Rat} {L : Led} (h : Asc L) (zs : List Int) (k : Nat) : Asc (gvTo p L zs k) := give_asc p _ _ h
theorem gv_fr {p : Rat} {L : Led} (h : ∀ x ∈ L, frB x.2 = true) {zs : List Int} : ∀ k, k ≤ zs.length → (∀ j, j < k → gvOk p L zs j = true) → ∀ x ∈ gvTo p L zs k, frB x.2 = true := by
  intro k
  induction k with
  | zero => intro _ _; exact h
  | succ k ih =>
    intro hk hj; rw [gv_succ p L (by omega)]; exact fr_set (ih (by omega) (fun j hj' => hj j (by omega))) _ (hj k (by omega))
theorem gv_len {p : Rat} {L : Led} {zs : List Int} : ∀ k, k ≤ zs.length → (gvTo p L zs k).length ≤ L.length + k := by
  intro k
  induction k with
  | zero => intro _; exact Nat.le_refl _
  | succ k ih =>
    intro hk; rw [gv_succ p L (by omega)]; have a := ih (by omega); have b := set_len (L := gvTo p L zs k) (zs.getD k 0) (jq5 (gvTo p L zs k) (zs.getD k 0) + p)
    omega
theorem igainEach (a : Option Addr) (cap : Nat) (L : Led) (hs : List Hd) (A : Option Addr) (capz : Nat) (zs : List Int) (pn pd : Int) (p : Rat) (w : World) (hcc : IsHs w a hs) (hh : hs = rawL L) (hn : hs.length ≤ 100) (hz : jqc w A zs) (hzn : zs.length ≤ 12) (ha : Asc L) (hf : ∀ x ∈ L, frB x.2 = true) (hp : frB p = true) (hpn : pn = p.num) (hpd : pd = (p.den : Int)) :
    Calls Tryz.prog 170 #[.slice a hs.length cap, .slice A zs.length capz, .agg #[.int .i64 pn, .int .i64 pd]] w (MoveV w (gvAll p L zs) (giveL p L zs)) := by
  have hll : hs.length = L.length := by rw [hh, jx5]
  have HI := Lib.hid hcc; have HH := Lib.hid hh; have HZ := Lib.hid hz; have HA := Lib.hid ha; have HF := Lib.hid hf; have HP := Lib.hid hp; have HPn := Lib.hid hpn; have HPd := Lib.hid hpd; have HL0 := Lib.hid hll
  have hln : L.length ≤ 100 := by omega
  clear hcc hh hz ha hf hp hpn hpd hll; go_enter Tryz.func170, Tryz.ntmps170; go_wp2_with fail
  have hB0 : Below w.heap.size w (w.alloc (.cells #[.int .i64 pn, .int .i64 pd] 32)) := by go_grown
  refine (icopyN hs.length a cap hs _ (jqi HI.out hB0) rfl (by omega)).mono ?_; rintro e w1 ⟨v, rfl, hO, hb⟩; have hB1 := jq1 hB0 hb; have hK1 := (Blk.new w 32 #[.int .i64 pn, .int .i64 pd]).next hb
  have hO1 : OwnH w1 w.heap.size v (rawL (gvTo p L zs 0)) := by rw [gv_zero, ← HH.out]; exact own_le hO hB0.size
  clear hO hb hB0; go_wp2_with fail
  go_loopw [8, 17] (fun v i wr => ∃ k : Nat, k ≤ zs.length ∧ i = .int .i64 k ∧ Hid (∀ j, j < k → gvOk p L zs j = true) ∧ OwnH wr w.heap.size v (rawL (gvTo p L zs k)) ∧ Blk wr w.heap.size 32 #[.int .i64 pn, .int .i64 pd] ∧ Below w.heap.size w wr) (fun _ i _ => zs.length - (intOf i).toNat)
  case atStart => exact ⟨0, Nat.zero_le _, rfl, (fun j hj => by omega), hO1, hK1, hB1⟩
  case round =>
    clear hO1 hK1 hB1; obtain ⟨k, hk, rfl, HK, hO, hS, hB⟩ := hrel; obtain ⟨b1, c1, hv1, hI1, hc1⟩ := own_hs2 hO; subst hv1
    by_cases hlt : k < zs.length
    · have hcz : ∃ g o, A = some ⟨g, o, none⟩ ∧ wr.cell? ⟨g, o + k, none⟩ = some (.int .i64 (zs.getD k 0)) := by
        rcases HZ.out with he | ⟨g, o, hA, hc⟩
        · rw [he] at hlt; simp at hlt
        · exact ⟨g, o, hA, (hB.cell (p := ⟨g, o + k, none⟩) (World.block_lt_of_cell? w _ (hc k hlt))).trans (hc k hlt)⟩
      obtain ⟨gz, oz, rfl, hcz⟩ := hcz
      have hlen : (rawL (gvTo p L zs k)).length ≤ 1000 := by
        rw [jx5]; have := gv_len (p := p) (L := L) (zs := zs) k hk; omega
      have hgain := fun W hW => igain b1 c1 (gvTo p L zs k) (rawL (gvTo p L zs k)) (zs.getD k 0) pn pd p W hW rfl hlen (gv_asc HA.out zs k) (gv_fr HF.out k hk HK.out) HP.out HPn.out HPd.out hc1
      rw [← gv_succ p L hlt] at hgain; have hgo : frB (jq5 (gvTo p L zs k) (zs.getD k 0) + p) = gvOk p L zs k := rfl; rw [hgo] at hgain
      obtain ⟨b, hb⟩ : ∃ b, gvOk p L zs k = b := ⟨_, rfl⟩
      rw [hb] at hgain
      have hno : b = false → gvAll p L zs = false := fun e => rng_no hlt (hb.trans e)
      have hyes : b = true → ∀ j, j < k + 1 → gvOk p L zs j = true := fun e => jj5 HK.out (hb.trans e)
      generalize zs.getD k 0 = z at hcz hgain; have HG := Lib.hid hgain; have HNO := Lib.hid hno; have HYES := Lib.hid hyes; have HI1 := Lib.hid hI1; have HB := Lib.hid hB; have HS := Lib.hid hS; obtain ⟨t0, t1, t2, t3, t4⟩ := jqh hS; clear hgain hgo hb hno hyes hI1 hO hB hS
      cases b with
      | false =>
        have HN := Lib.hid (HNO.out rfl); go_wp2_with fail; refine (HG.out _ HI1.out).mono ?_; rintro e w2 ⟨v, rfl, m1, m2, hb2⟩; clear m1 m2; go_wp2_with fail
        go_returns
        exact ⟨_, by rw [HN.out]; rfl, (fun _ => rfl), (fun c => by rw [HN.out] at c; cases c), jq1 HB.out hb2⟩
      | true =>
        have HY := Lib.hid (HYES.out rfl); go_wp2_with fail; refine (HG.out _ HI1.out).mono ?_; rintro e w2 ⟨v, rfl, m1, m2, hb2⟩; have hO2 := own_le (m2 rfl) HB.out.size; have HO2 := Lib.hid hO2; clear m1 m2 hO2; go_wp2_with fail
        go_roundw
        case rel => exact ⟨k + 1, by omega, by go_num, HY.out, HO2.out, HS.out.next hb2, jq1 HB.out hb2⟩
        case measure => simp [intOf]; omega
    · obtain rfl : zs.length = k := by omega
      have HN : Hid (gvAll p L zs = true) := jv5 HK.out; rw [gv_end] at hO hI1 hc1 ⊢; have HO := Lib.hid hO; clear hO hI1 hS; go_wp2_with fail
      go_returns
      exact ⟨_, by rw [HN.out]; rfl, (fun c => by rw [HN.out] at c; cases c), (fun _ => HO.out), hB⟩
def inhQ (hs : List Hd) (owner : Int) (zs : List Int) : Rat := Rat.divInt (jq5 (jq8 hs) owner).num ((jq5 (jq8 hs) owner).den * (zs.length : Int))
def inhL (hs : List Hd) (owner : Int) (zs : List Int) : Led := giveL (inhQ hs owner zs) (setL (jq8 hs) owner 0) zs
def inhB (hs : List Hd) (owner : Int) (zs : List Int) : Bool :=
 vlR hs && decide (jq5 (jq8 hs) owner ≠ 0) && heirsB zs owner && frB (inhQ hs owner zs) && gvAll (inhQ hs owner zs) (setL (jq8 hs) owner 0) zs && vlB (inhL hs owner zs)
theorem inh_no {hs : List Hd} {owner : Int} {zs : List Int} (h : vlR hs = false ∨ jq5 (jq8 hs) owner = 0 ∨ heirsB zs owner = false ∨ frB (inhQ hs owner zs) = false ∨ gvAll (inhQ hs owner zs) (setL (jq8 hs) owner 0) zs = false ∨ vlB (inhL hs owner zs) = false) : inhB hs owner zs = false := by
 unfold inhB
 rcases h with h | h | h | h | h | h
 ·rw [h]; rfl
 ·rw [h]; simp
 all_goals (rw [h]; simp)
theorem inh_yes {hs : List Hd} {owner : Int} {zs : List Int} (h1 : vlR hs = true) (h2 : jq5 (jq8 hs) owner ≠ 0) (h3 : heirsB zs owner = true) (h4 : frB (inhQ hs owner zs) = true) (h5 : gvAll (inhQ hs owner zs) (setL (jq8 hs) owner 0) zs = true) (h6 : vlB (inhL hs owner zs) = true) : inhB hs owner zs = true := by
 unfold inhB; rw [h1, h3, h4, h5, h6, decide_eq_true h2]; rfl
theorem shV_yes {hs : List Hd} (h : vlR hs = true) (o : Int) : shV hs o = ((jq5 (jq8 hs) o).num, ((jq5 (jq8 hs) o).den : Int)) := by
 unfold shV; rw [h]
 conv => lhs; rw [led_eq h]
 exact shR_raw _ _
theorem inh_red {hs : List Hd} (owner : Int) {zs : List Int} (h : 1 ≤ zs.length) :
  Wsh.redB (jq5 (jq8 hs) owner).num (((jq5 (jq8 hs) owner).den : Int) * (zs.length : Int)) = frB (inhQ hs owner zs) ∧ Wsh.rn (jq5 (jq8 hs) owner).num (((jq5 (jq8 hs) owner).den : Int) * (zs.length : Int)) = (inhQ hs owner zs).num ∧ Wsh.rd (jq5 (jq8 hs) owner).num (((jq5 (jq8 hs) owner).den : Int) * (zs.length : Int)) = ((inhQ hs owner zs).den : Int) := by
 have hd : 0 < ((jq5 (jq8 hs) owner).den : Int) * (zs.length : Int) := Int.mul_pos (by have := den_pos (jq5 (jq8 hs) owner); omega) (by omega); exact ⟨redB_q hd, rn_q hd, rd_q hd⟩
theorem iInherit (a : Option Addr) (cap : Nat) (hs : List Hd) (owner : Int) (A : Option Addr) (capz : Nat) (zs : List Int) (w : World) (h : IsHs w a hs) (hn : hs.length ≤ 1048576) (hc : hs.length ≤ cap) (hz : jqc w A zs) (hzn : zs.length ≤ 1048576) (hzc : zs.length ≤ capz) :
    Calls Tryz.prog 134 #[.slice a hs.length cap, .int .i64 owner, .slice A zs.length capz] w (MoveV w (inhB hs owner zs) (inhL hs owner zs)) := by
  have CV := iShareOf a cap hs owner w h hn; have HI := Lib.hid h; have HZ := Lib.hid hz; clear h hz
  cases hv : vlR hs with
  | false =>
    have HN : Hid (inhB hs owner zs = false) := inh_no (.inl hv); unfold ShareO shV at CV; rw [hv] at CV; clear hv; go_enter Tryz.func134, Tryz.ntmps134; go_wp2_with fail; refine CV.mono ?_; rintro e w1 ⟨rfl, hb⟩; have hB1 := hb.alloc hb.size (.cells #[.int .i64 0, .int .i64 0] 32); go_wp2_with fail
    go_returns
    exact ⟨_, by rw [HN.out]; rfl, (fun _ => rfl), (fun c => by rw [HN.out] at c; cases c), hB1⟩
  | true =>
    unfold ShareO at CV; rw [shV_yes hv] at CV; have HV := Lib.hid hv; have hVL := (vlR_is hv).2; have hle := led_le hv; have hbd := (frB_iff _).1 (share_frA hVL.fr owner); have hdp := den_pos (jq5 (jq8 hs) owner); have hz0 := num_zero (jq5 (jq8 hs) owner)
    have hred := fun h1 => inh_red (hs := hs) owner (zs := zs) h1
    have hfr0 := share_frA hVL.fr owner; have HVL := Lib.hid hVL; have HEq := Lib.hid (led_eq hv); clear hv hVL
    obtain ⟨n, hn'⟩ : ∃ n, n = (jq5 (jq8 hs) owner).num := ⟨_, rfl⟩
    obtain ⟨d, hd'⟩ : ∃ d, d = ((jq5 (jq8 hs) owner).den : Int) := ⟨_, rfl⟩
    rw [← hn', ← hd'] at CV hbd; rw [← hd'] at hdp; rw [← hn'] at hz0; rw [← hn', ← hd'] at hred; obtain ⟨hb0, hb1, hb2⟩ := hbd; have HZ0 := Lib.hid hz0; have HRED := Lib.hid hred; clear hz0 hred hn' hd'
    by_cases hnz : n = 0
    · have HN : Hid (inhB hs owner zs = false) := inh_no (.inr (.inl (HZ0.out.1 hnz)))
      have e0 : (n == 0) = true := by simpa using hnz
      clear hnz; go_enter Tryz.func134, Tryz.ntmps134; go_wp2_with fail; refine CV.mono ?_; rintro e w1 ⟨rfl, hb⟩; have hB1 := hb.alloc hb.size (.cells #[.int .i64 n, .int .i64 d] 32); go_wp2_with fail
      go_returns
      exact ⟨_, by rw [HN.out]; rfl, (fun _ => rfl), (fun c => by rw [HN.out] at c; cases c), hB1⟩
    · have e0 : (n == 0) = false := by simpa using hnz
      have HNZ : Hid (jq5 (jq8 hs) owner ≠ 0) := fun c => hnz (HZ0.out.2 c)
      clear hnz
      cases hhe : heirsB zs owner with
      | false =>
        have HN : Hid (inhB hs owner zs = false) := inh_no (.inr (.inr (.inl hhe))); have HHe := Lib.hid hhe; clear hhe; go_enter Tryz.func134, Tryz.ntmps134; go_wp2_with fail; refine CV.mono ?_; rintro e w1 ⟨rfl, hb⟩; have hB1 := hb.alloc hb.size (.cells #[.int .i64 n, .int .i64 d] 32); go_wp2_with fail; have AH := iheirs A capz zs owner _ (jqf HZ.out hB1) hzn hzc; rw [HHe.out] at AH; refine AH.mono ?_; rintro e w' ⟨rfl, rfl⟩; go_wp2_with fail
        go_returns
        exact ⟨_, by rw [HN.out]; rfl, (fun _ => rfl), (fun c => by rw [HN.out] at c; cases c), hB1⟩
      | true =>
        have hzl : 1 ≤ zs.length ∧ zs.length ≤ 12 := by
          unfold heirsB at hhe; simp only [Bool.and_eq_true, decide_eq_true_eq] at hhe; exact hhe.1
        obtain ⟨z1, z2⟩ := hzl; obtain ⟨r1, r2, r3⟩ := HRED.out z1; have HHe := Lib.hid hhe
        have hdm : 1 ≤ d * (zs.length : Int) ∧ d * (zs.length : Int) ≤ 120000 := ⟨Int.mul_pos (by omega) (by omega), Int.le_trans (Int.mul_le_mul hb2 (by omega : (zs.length : Int) ≤ 12) (by omega) (by omega)) (by decide)⟩
        obtain ⟨dm0, dm1⟩ := hdm
        have IR := fun W => ired n (d * (zs.length : Int)) W dm0 (by omega)
        rw [r1, r2, r3] at IR; have HIR := Lib.hid IR
        obtain ⟨p, hp⟩ : ∃ p, inhQ hs owner zs = p := ⟨_, rfl⟩
        rw [hp] at HIR; have HPQ := Lib.hid hp; clear hhe hp r1 r2 r3 IR
        obtain ⟨b, hb⟩ : ∃ b, frB p = b := ⟨_, rfl⟩
        rw [hb] at HIR; have HBb := Lib.hid hb; clear hb
        cases b with
        | false =>
          have HN : Hid (inhB hs owner zs = false) := inh_no (.inr (.inr (.inr (.inl (by rw [HPQ.out]; exact HBb.out))))); go_enter Tryz.func134, Tryz.ntmps134; go_wp2_with fail; refine CV.mono ?_; rintro e w1 ⟨rfl, hb⟩; have hB1 := hb.alloc hb.size (.cells #[.int .i64 n, .int .i64 d] 32); go_wp2_with fail; have AH := iheirs A capz zs owner _ (jqf HZ.out hB1) hzn hzc; rw [HHe.out] at AH; refine AH.mono ?_; rintro e w' ⟨rfl, rfl⟩; clear AH; go_wp2_with fail; refine (HIR.out _).mono ?_; rintro e w2 ⟨rfl, hb⟩; have hB2 := jq1 hB1 hb; clear hb CV; have hB3 := hB2.alloc hB2.size (.cells #[.int .i64 (Wsh.qn false p.num), .int .i64 (Wsh.qn false (p.den : Int))] 32); go_wp2_with fail
          go_returns
          exact ⟨_, by rw [HN.out]; rfl, (fun _ => rfl), (fun c => by rw [HN.out] at c; cases c), hB3⟩
        | true =>
          have HIR2 : ∀ W : World, Calls Tryz.prog 158 #[.int .i64 n, .int .i64 (d * (zs.length : Int))] W fun e w' => e = .returned (.tuple #[.agg #[.int .i64 p.num, .int .i64 (p.den : Int)], .bool true]) ∧ Below W.heap.size W w' := HIR.out
          go_enter Tryz.func134, Tryz.ntmps134; go_wp2_with fail; refine CV.mono ?_; rintro e w1 ⟨rfl, hb⟩; have hB1 := hb.alloc hb.size (.cells #[.int .i64 n, .int .i64 d] 32); go_wp2_with fail; have AH := iheirs A capz zs owner _ (jqf HZ.out hB1) hzn hzc; rw [HHe.out] at AH; refine AH.mono ?_; rintro e w' ⟨rfl, rfl⟩; clear AH; go_wp2_with fail; refine (HIR2 _).mono ?_; rintro e w2 ⟨rfl, hb⟩; have hB2 := jq1 hB1 hb; clear hb CV; have hB3 := hB2.alloc hB2.size (.cells #[.int .i64 p.num, .int .i64 (p.den : Int)] 32); have t3 := jqh (Blk.new w2 32 #[.int .i64 p.num, .int .i64 (p.den : Int)])
          obtain ⟨w3, hw3⟩ : ∃ w3, w3 = w2.alloc (.cells #[.int .i64 p.num, .int .i64 (p.den : Int)] 32) := ⟨_, rfl⟩
          obtain ⟨G, hG⟩ : ∃ G, G = w2.heap.size := ⟨_, rfl⟩
          rw [← hw3, ← hG] at t3; rw [← hw3] at hB3; go_wp2_with fail; rw [← hw3, ← hG]; clear hw3 hG
          have HN0 : ∀ c, inhB hs owner zs = c → True := fun _ _ => trivial
          have hpf := HBb.out; have hpn := Rat.num_nonneg.2 (frB_nonneg hpf)
          have hlen0 : (rawL (setL (jq8 hs) owner 0)).length ≤ 100 := by
            rw [jx5]; have := set_len (L := jq8 hs) owner 0; rw [jv7] at this; omega
          have HA0 : Hid (Asc (setL (jq8 hs) owner 0)) := asc_set HVL.out.asc _ _; have HF0 : Hid (∀ x ∈ setL (jq8 hs) owner 0, frB x.2 = true) := fr_set HVL.out.fr _ frB_zero
          have hlin : (rawL (inhL hs owner zs)).length ≤ 1048576 := by
            rw [jx5]; unfold inhL; rw [← gv_end]; have a := gv_len (p := inhQ hs owner zs) (L := setL (jq8 hs) owner 0) (zs := zs) zs.length (Nat.le_refl _); rw [jx5] at hlen0
            omega
          have hBd := hB3.drew
          go_upto_region 7 with fail
          go_cut [11, 10] (fun sx sy wx => ∃ v : Value, sx = v ∧ sy = .bool (gvAll p (setL (jq8 hs) owner 0) zs) ∧ (gvAll p (setL (jq8 hs) owner 0) zs = true → OwnH wx w.heap.size v (rawL (giveL p (setL (jq8 hs) owner 0) zs))) ∧ Below w.heap.size w wx)
          case first =>
            go_region_held3 (fun w' => w'.cell? ⟨G, 0, none⟩ = some (.int .i64 p.num) ∧ w'.cell? ⟨G, 1, none⟩ = some (.int .i64 (p.den : Int)) ∧ Below w.heap.size w w') (first | (exact keepQ hb (by assumption)) | (exact ⟨t3.1, t3.2.1, hBd⟩) | (refine ⟨?_, ?_, ?_⟩ <;> first | (go_keep; done) | exact hBd))
              (first | (go_at_call 109; refine (inoShare _).mono ?_; rintro e wq ⟨rfl, hb⟩) | (go_at_call 171; refine (iwithA a cap (jq8 hs) hs owner _ _ 0 _ (jqi HI.out (And.right (And.right (by assumption)))) HEq.out (by omega) HVL.out.asc share_no (by omega) hc).mono ?_; rintro e wq ⟨v1, rfl, hO, hb⟩; have hszq := (keepQ hb (by assumption)).2.2.size; obtain ⟨b1, cp1, rfl, hI1, hc1⟩ := own_hs2 hO) | (go_at_call 170; refine (igainEach b1 cp1 (setL (jq8 hs) owner 0) _ A capz zs _ _ p _ hI1 rfl hlen0 (jqf HZ.out (And.right (And.right (by assumption)))) z2 HA0.out HF0.out hpf rfl rfl).mono ?_; rintro e wq2 ⟨v2, rfl, m1, m2, hb⟩))
            have hS := ‹_ ∧ _›; go_wp2_with fail
            go_meet
            exact ⟨v2, rfl, rfl, (fun c => own_le (m2 c) hszq), hS.2.2⟩
          case rest =>
            obtain ⟨v, rfl, rfl, m2, hB⟩ := hcut; have HM := Lib.hid m2
            have HG2 : Hid (giveL p (setL (jq8 hs) owner 0) zs = inhL hs owner zs) := by show _ = _; unfold inhL; rw [HPQ.out]
            have HG3 : Hid (gvAll p (setL (jq8 hs) owner 0) zs = gvAll (inhQ hs owner zs) (setL (jq8 hs) owner 0) zs) := by show _ = _; rw [HPQ.out]
            clear m2
            cases hga : gvAll p (setL (jq8 hs) owner 0) zs with
            | false =>
              have HN : Hid (inhB hs owner zs = false) := inh_no (.inr (.inr (.inr (.inr (.inl (by rw [← HG3.out]; exact hga)))))); clear hga; go_wp2_with fail
              go_returns
              exact ⟨_, by rw [HN.out]; rfl, (fun _ => rfl), (fun c => by rw [HN.out] at c; cases c), hB⟩
            | true =>
              have hO := HM.out hga; rw [HG2.out] at hO
              have HGA : Hid (gvAll (inhQ hs owner zs) (setL (jq8 hs) owner 0) zs = true) := by show _ = _; rw [← HG3.out]; exact hga
              obtain ⟨b2, cp2, hv2, hI2, hc2⟩ := own_hs2 hO; subst hv2; have hv := iVL b2 cp2 _ wc hI2 hlin; rw [vlR_vl] at hv; have HO3 := Lib.hid hO; clear hO hga HM
              cases hvl : vlB (inhL hs owner zs) with
              | false =>
                rw [hvl] at hv; have HN : Hid (inhB hs owner zs = false) := inh_no (.inr (.inr (.inr (.inr (.inr hvl))))); clear hvl; go_wp2_with fail; refine hv.mono ?_; rintro e w4 ⟨rfl, hb4⟩; go_wp2_with fail
                go_returns
                exact ⟨_, by rw [HN.out]; rfl, (fun _ => rfl), (fun c => by rw [HN.out] at c; cases c), jq1 hB hb4⟩
              | true =>
                rw [hvl] at hv; have HN : Hid (inhB hs owner zs = true) := inh_yes HV.out HNZ.out HHe.out (by rw [HPQ.out]; exact hpf) HGA.out hvl; clear hvl; go_wp2_with fail; refine hv.mono ?_; rintro e w4 ⟨rfl, hb4⟩; go_wp2_with fail
                go_returns
                exact ⟨_, by rw [HN.out]; rfl, (fun c => by rw [HN.out] at c; cases c), (fun _ => own_next HO3.out hb4), jq1 hB hb4⟩
end Go.Proofs.YtaehemmjemhgpabGreat
