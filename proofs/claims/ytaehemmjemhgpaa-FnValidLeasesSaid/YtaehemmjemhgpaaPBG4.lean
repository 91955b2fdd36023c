/- Contracts and facts of functions of this program, in build order. Conditions: those stated in each. -/
import Derived.Test.YtaehemmjemhgpaaPBSell
import Derived.Test.YtaehemmjemhgpaaPBG1
import Derived.Deep.RegionHeld3
import Derived.Deep.DeepCutAuto
set_option maxRecDepth 100000
set_option maxHeartbeats 16000000
namespace Go.Proofs.Ytaehemmjemhgpaa
open Go.RowKit
set_option linter.unusedSimpArgs false
set_option linter.unusedVariables false
theorem ipart_yes (n d : Int) (w : World) (h : Wsh.vfB n d = true) (h0 : 0 < n) :
    Calls Try.prog 122 #[.agg #[.int .i64 n, .int .i64 d]] w fun e w' => e = .returned (.bool true) ∧ Below w.heap.size w w' := by
  have IV := iValid n d (w.alloc (.cells #[.int .i64 n, .int .i64 d] 58))
  rw [h] at IV
  clear h
  go_enter Try.func122, Try.ntmps122
  go_wp2_with fail
  refine IV.mono ?_
  rintro e w1 ⟨rfl, hb⟩
  obtain ⟨t0, t1, t2, t3, t4⟩ := blk_two ((Blk.new w 58 #[.int .i64 n, .int .i64 d]).next hb)
  have hB1 : Below w.heap.size w w1 := bel_tr (by go_grown) hb
  clear hb
  go_wp2_with fail
  go_ret
  exact ⟨ret_bool (by simp), hB1⟩
theorem ipart_no (n d : Int) (w : World) (h : Wsh.vfB n d = false ∨ n ≤ 0) :
    Calls Try.prog 122 #[.agg #[.int .i64 n, .int .i64 d]] w fun e w' => e = .returned (.bool false) ∧ Below w.heap.size w w' := by
  have IV := iValid n d (w.alloc (.cells #[.int .i64 n, .int .i64 d] 58))
  cases hv : Wsh.vfB n d with
  | false =>
    rw [hv] at IV
    clear h hv
    go_enter Try.func122, Try.ntmps122
    go_wp2_with fail
    refine IV.mono ?_
    rintro e w1 ⟨rfl, hb⟩
    have hB1 : Below w.heap.size w w1 := bel_tr (by go_grown) hb
    go_wp2_with fail
    go_ret
    exact ⟨rfl, hB1⟩
  | true =>
    rw [hv] at IV
    have h0 : n ≤ 0 := by
      rcases h with h | h
      · rw [hv] at h; cases h
      · exact h
    clear h hv
    go_enter Try.func122, Try.ntmps122
    go_wp2_with fail
    refine IV.mono ?_
    rintro e w1 ⟨rfl, hb⟩
    obtain ⟨t0, t1, t2, t3, t4⟩ := blk_two ((Blk.new w 58 #[.int .i64 n, .int .i64 d]).next hb)
    have hB1 : Below w.heap.size w w1 := bel_tr (by go_grown) hb
    clear hb
    go_wp2_with fail
    go_ret
    exact ⟨ret_bool (by simp; omega), hB1⟩
theorem iSell (a : Option Addr) (cap : Nat) (hs : List Hd) (fr tt pn pd : Int) (w : World) (h : IsHs w a hs) (hn : hs.length ≤ 1048576) (hc : hs.length ≤ cap) :
    Calls Try.prog 116 #[.slice a hs.length cap, .int .i64 fr, .int .i64 tt, .agg #[.int .i64 pn, .int .i64 pd]] w (MoveV w (selB hs fr tt pn pd) (selL hs fr tt pn pd)) := by
  have hB0 : Below w.heap.size w (w.alloc (.cells #[.int .i64 pn, .int .i64 pd] 58)) := by go_grown
  have CV := iVL a cap hs (w.alloc (.cells #[.int .i64 pn, .int .i64 pd] 58)) (hs_below h hB0) hn
  have HI := Lib.hid h
  have HB0 := Lib.hid hB0
  have HC := Lib.hid hc
  clear h hB0 hc
  cases hv : vlR hs with
  | false =>
    rw [hv] at CV
    have HN : Hid (selB hs fr tt pn pd = false) := by show _ = _; unfold selB; rw [hv]; rfl
    clear hv
    go_enter Try.func116, Try.ntmps116
    go_wp2_with fail
    refine CV.mono ?_
    rintro e w1 ⟨rfl, hb⟩
    go_wp2_with fail
    go_returns
    exact ⟨_, by rw [HN.out]; rfl, (fun _ => rfl), (fun c => by rw [HN.out] at c; cases c), bel_tr HB0.out hb⟩
  | true =>
    rw [hv] at CV
    have HV := Lib.hid hv
    clear hv
    by_cases hr : tt < 1 ∨ 999 < tt
    · have HN : Hid (selB hs fr tt pn pd = false) := by
        show _ = _
        cases hx : selB hs fr tt pn pd with
        | false => rfl
        | true =>
          unfold selB at hx
          simp only [Bool.and_eq_true] at hx
          have := (sell_iff _ _ _ _).1 hx.2
          omega
      go_enter Try.func116, Try.ntmps116
      go_wp2_with fail
      refine CV.mono ?_
      rintro e w1 ⟨rfl, hb⟩
      have hB1 := bel_tr HB0.out hb
      go_wp2_with fail
      refine (iowner_no tt _ hr).mono ?_
      rintro e w' ⟨rfl, rfl⟩
      go_wp2_with fail
      go_returns
      exact ⟨_, by rw [HN.out]; rfl, (fun _ => rfl), (fun c => by rw [HN.out] at c; cases c), hB1⟩
    · have h1 : 1 ≤ tt := by omega
      have h2 : tt ≤ 999 := by omega
      clear hr
      by_cases hft : fr = tt
      · have HN : Hid (selB hs fr tt pn pd = false) := by
          show _ = _
          cases hx : selB hs fr tt pn pd with
          | false => rfl
          | true =>
            unfold selB at hx
            simp only [Bool.and_eq_true] at hx
            exact absurd hft ((sell_iff _ _ _ _).1 hx.2).2.2.2.1
        have e2 : (fr == tt) = true := by simpa using hft
        clear hft
        go_enter Try.func116, Try.ntmps116
        go_wp2_with fail
        refine CV.mono ?_
        rintro e w1 ⟨rfl, hb⟩
        have hB1 := bel_tr HB0.out hb
        go_wp2_with fail
        refine (iowner_yes tt _ h1 h2).mono ?_
        rintro e w' ⟨rfl, rfl⟩
        go_wp2_with fail
        go_returns
        exact ⟨_, by rw [HN.out]; rfl, (fun _ => rfl), (fun c => by rw [HN.out] at c; cases c), hB1⟩
      · have e2 : (fr == tt) = false := by simpa using hft
        have HFT := Lib.hid hft
        clear hft
        by_cases hp : Wsh.vfB pn pd = false ∨ pn ≤ 0
        · have HN : Hid (selB hs fr tt pn pd = false) := by
            show _ = _
            cases hx : selB hs fr tt pn pd with
            | false => rfl
            | true =>
              unfold selB at hx
              simp only [Bool.and_eq_true] at hx
              have hp0 := ((sell_iff _ _ _ _).1 hx.2).2.2.1
              have hvf := hx.1.2
              rcases hp with hp | hp
              · rw [hp] at hvf; cases hvf
              · have hk := (Wsh.vfB_iff _ _).1 hvf
                have : pn = 0 := by omega
                obtain ⟨e1, _, _⟩ := vf_q hvf
                exact absurd ((num_zero _).1 (e1.trans this)) hp0
          have HP : Hid (Wsh.vfB pn pd = false ∨ pn ≤ 0) := hp
          clear hp
          go_enter Try.func116, Try.ntmps116
          go_wp2_with fail
          refine CV.mono ?_
          rintro e w1 ⟨rfl, hb⟩
          obtain ⟨t0, t1, t2, t3, t4⟩ := blk_two ((Blk.new w 58 #[.int .i64 pn, .int .i64 pd]).next hb)
          have hB1 := bel_tr HB0.out hb
          clear hb CV
          go_wp2_with fail
          refine (iowner_yes tt _ h1 h2).mono ?_
          rintro e w' ⟨rfl, rfl⟩
          go_wp2_with fail
          refine (ipart_no pn pd _ HP.out).mono ?_
          rintro e w2 ⟨rfl, hb⟩
          go_wp2_with fail
          go_returns
          exact ⟨_, by rw [HN.out]; rfl, (fun _ => rfl), (fun c => by rw [HN.out] at c; cases c), bel_tr hB1 hb⟩
        · have hvf : Wsh.vfB pn pd = true := by
            cases hx : Wsh.vfB pn pd with
            | true => rfl
            | false => exact absurd (.inl hx) hp
          have hpos : 0 < pn := by
            rcases Int.lt_or_le 0 pn with h | h
            · exact h
            · exact absurd (.inr (by omega)) hp
          clear hp
          obtain ⟨e1, e2', e3⟩ := vf_q hvf
          have hL := (vlR_is HV.out).2
          have hle := led_le HV.out
          have HVL := Lib.hid hL
          have HEq := Lib.hid (led_eq HV.out)
          obtain ⟨p, hpe⟩ : ∃ p, p = Rat.divInt pn pd := ⟨_, rfl⟩
          rw [← hpe] at e1 e2' e3
          have HE : Hid (selB hs fr tt pn pd = (frB (shareL (ledOf hs) fr - p) && frB (shareL (ledOf hs) tt + p) && vlB (soldL (ledOf hs) fr tt p))) := by
            show _ = _
            have hp0 : p ≠ 0 := fun c => by rw [(num_zero p).2 c] at e1; omega
            unfold selB sellB
            rw [HV.out, hvf, ← hpe, decide_eq_true hp0, decide_eq_true HFT.out, decide_eq_true h1, decide_eq_true h2]
            simp
          have HSl : Hid (selL hs fr tt pn pd = soldL (ledOf hs) fr tt p) := by show _ = _; unfold selL; rw [hpe]
          have HT2 : Hid (setL (setL (ledOf hs) fr (shareL (ledOf hs) fr - p)) tt (shareL (setL (ledOf hs) fr (shareL (ledOf hs) fr - p)) tt + p) = soldL (ledOf hs) fr tt p) := sold_two hL.asc (fun e => HFT.out e.symm) p
          have HT3 : Hid (shareL (setL (ledOf hs) fr (shareL (ledOf hs) fr - p)) tt = shareL (ledOf hs) tt) := by show _ = _; rw [share_set hL.asc, if_neg (fun e => HFT.out e.symm)]
          have HVf := Lib.hid hvf
          have E1 := Lib.hid e1
          have E2 := Lib.hid e2'
          have E3 := Lib.hid e3
          have hl2 : (rawL (soldL (ledOf hs) fr tt p)).length ≤ 1048576 := by
            rw [raw_len]
            have b1 := set_len (L := setL (ledOf hs) fr (shareL (ledOf hs) fr - p)) tt (shareL (ledOf hs) tt + p)
            have b2 := set_len (L := ledOf hs) fr (shareL (ledOf hs) fr - p)
            rw [led_len] at b2
            unfold soldL
            omega
          clear e1 e2' e3 hvf hL hpe
          go_enter Try.func116, Try.ntmps116
          go_wp2_with fail
          refine CV.mono ?_
          rintro e w1 ⟨rfl, hb⟩
          have hblk := (Blk.new w 58 #[.int .i64 pn, .int .i64 pd]).next hb
          obtain ⟨t0, t1, t2, t3, t4⟩ := blk_two hblk
          have HK := Lib.hid hblk
          have hB1 := bel_tr HB0.out hb
          clear hb CV hblk
          go_wp2_with fail
          refine (iowner_yes tt _ h1 h2).mono ?_
          rintro e w' ⟨rfl, rfl⟩
          go_wp2_with fail
          refine (ipart_yes pn pd _ HVf.out hpos).mono ?_
          rintro e w2 ⟨rfl, hb⟩
          obtain ⟨t0, t1, t2, t3, t4⟩ := blk_two (HK.out.next hb)
          have hB2 := bel_tr hB1 hb
          clear hb HK
          go_wp2_with fail
          have MV := imove a cap (ledOf hs) hs fr tt pn pd p w2 (hs_below HI.out hB2) HEq.out (by omega) HVL.out.asc HVL.out.fr E3.out E1.out.symm E2.out.symm HC.out
          rw [HT2.out, HT3.out] at MV
          refine MV.mono ?_
          rintro e w3 ⟨v, rfl, m1, m2, hb⟩
          have hB3 := bel_tr hB2 hb
          have hO0 := fun c => own_le (m2 c) hB2.size
          have HE' := HE.out
          generalize (frB (shareL (ledOf hs) fr - p) && frB (shareL (ledOf hs) tt + p)) = bb at m1 m2 hO0 HE' ⊢
          have HM := Lib.hid m1
          have HO := Lib.hid hO0
          have HEE := Lib.hid HE'
          clear m1 m2 hO0 HE' hb MV
          cases bb with
          | false =>
            have HN : Hid (selB hs fr tt pn pd = false) := by show _ = _; rw [HEE.out]; rfl
            go_wp2_with fail
            go_returns
            exact ⟨_, by rw [HN.out]; rfl, (fun _ => rfl), (fun c => by rw [HN.out] at c; cases c), hB3⟩
          | true =>
            have hO := HO.out rfl
            obtain ⟨b2, cp2, rfl, hI2, hc2⟩ := own_hs2 hO
            have hv := iVL b2 cp2 _ w3 hI2 hl2
            rw [vlR_vl] at hv
            have HO3 := Lib.hid hO
            clear hO HO HM
            cases hvl : vlB (soldL (ledOf hs) fr tt p) with
            | false =>
              rw [hvl] at hv
              have HN : Hid (selB hs fr tt pn pd = false) := by show _ = _; rw [HEE.out, hvl]; rfl
              clear hvl
              go_wp2_with fail
              refine hv.mono ?_
              rintro e w4 ⟨rfl, hb4⟩
              go_wp2_with fail
              go_returns
              exact ⟨_, by rw [HN.out]; rfl, (fun _ => rfl), (fun c => by rw [HN.out] at c; cases c), bel_tr hB3 hb4⟩
            | true =>
              rw [hvl] at hv
              have HN : Hid (selB hs fr tt pn pd = true) := by show _ = _; rw [HEE.out, hvl]; rfl
              clear hvl
              go_wp2_with fail
              refine hv.mono ?_
              rintro e w4 ⟨rfl, hb4⟩
              go_wp2_with fail
              go_returns
              exact ⟨_, by rw [HN.out]; rfl, (fun c => by rw [HN.out] at c; cases c), (fun _ => by rw [HSl.out]; exact own_next HO3.out hb4), bel_tr hB3 hb4⟩
def joinB (hs : List Hd) (fr tt : Int) : Bool := selB hs fr tt (shV hs fr).1 (shV hs fr).2
def joinL' (hs : List Hd) (fr tt : Int) : Led := selL hs fr tt (shV hs fr).1 (shV hs fr).2
theorem iJoin (a : Option Addr) (cap : Nat) (hs : List Hd) (fr tt : Int) (w : World) (h : IsHs w a hs) (hn : hs.length ≤ 1048576) (hc : hs.length ≤ cap) :
    Calls Try.prog 118 #[.slice a hs.length cap, .int .i64 fr, .int .i64 tt] w (MoveV w (joinB hs fr tt) (joinL' hs fr tt)) := by
  have HI := Lib.hid h
  clear h
  go_enter Try.func118, Try.ntmps118
  go_wp2_with fail
  refine (iShareOf a cap hs fr _ HI.out hn).mono ?_
  rintro e w1 ⟨rfl, hb⟩
  go_wp2_with fail
  refine (iSell a cap hs fr tt _ _ _ (hs_below HI.out hb) hn hc).mono ?_
  rintro e w2 ⟨v, rfl, m1, m2, hb2⟩
  go_wp2_with fail
  go_returns
  exact ⟨v, rfl, m1, (fun c => own_le (m2 c) hb.size), bel_tr hb hb2⟩
/-- a lease as its numbers -/
structure Lr where
  ow : Int
  te : Int
  n : Int
  d : Int
  fr : Int
  en : Int
def lr0 : Lr := ⟨0, 0, 0, 0, 0, 0⟩
/-- leases ls, read through a slice at address a -/
def IsLs (w : World) (a : Option Addr) (ls : List Lr) : Prop := ls = [] ∨ ∃ g o, a = some ⟨g, o, none⟩ ∧ ∀ i, i < ls.length → w.cell? ⟨g, o + i * 6, none⟩ = some (.int .i64 (ls.getD i lr0).ow) ∧ w.cell? ⟨g, o + i * 6 + 1, none⟩ = some (.int .i64 (ls.getD i lr0).te) ∧ w.cell? ⟨g, o + i * 6 + 2, none⟩ = some (.int .i64 (ls.getD i lr0).n) ∧ w.cell? ⟨g, o + i * 6 + 3, none⟩ = some (.int .i64 (ls.getD i lr0).d) ∧ w.cell? ⟨g, o + i * 6 + 4, none⟩ = some (.int .i64 (ls.getD i lr0).fr) ∧ w.cell? ⟨g, o + i * 6 + 5, none⟩ = some (.int .i64 (ls.getD i lr0).en)
theorem ls_below {w w' : World} {a : Option Addr} {ls : List Lr} (h : IsLs w a ls) (hB : Below w.heap.size w w') : IsLs w' a ls := by
  rcases h with h | ⟨g, o, ha, hc⟩
  · exact .inl h
  · refine .inr ⟨g, o, ha, fun i hi => ?_⟩
    obtain ⟨c0, c1, c2, c3, c4, c5⟩ := hc i hi
    have k : ∀ p v, w.cell? ⟨g, p, none⟩ = some v → w'.cell? ⟨g, p, none⟩ = some v := fun p v c => (hB.cell (p := ⟨g, p, none⟩) (World.block_lt_of_cell? w _ c)).trans c
    exact ⟨k _ _ c0, k _ _ c1, k _ _ c2, k _ _ c3, k _ _ c4, k _ _ c5⟩
/-- one lease alone is one that can be -/
def termB (l : Lr) : Bool := decide (1 ≤ l.te) && decide (l.te ≤ 999) && decide (l.te ≠ l.ow) && Wsh.vfB l.n l.d && decide (0 < l.n) && decide (0 ≤ l.fr) && decide (l.fr < l.en) && decide (l.en ≤ 5000)
def termsB (ls : List Lr) : Bool := (List.range ls.length).all fun k => termB (ls.getD k lr0)
theorem term_iff (l : Lr) : termB l = true ↔ 1 ≤ l.te ∧ l.te ≤ 999 ∧ l.te ≠ l.ow ∧ Wsh.vfB l.n l.d = true ∧ 0 < l.n ∧ 0 ≤ l.fr ∧ l.fr < l.en ∧ l.en ≤ 5000 := by unfold termB; simp only [Bool.and_eq_true, decide_eq_true_eq, and_assoc]
theorem term_no {l : Lr} (h : ¬ (1 ≤ l.te ∧ l.te ≤ 999 ∧ l.te ≠ l.ow ∧ Wsh.vfB l.n l.d = true ∧ 0 < l.n ∧ 0 ≤ l.fr ∧ l.fr < l.en ∧ l.en ≤ 5000)) : termB l = false := by
  cases e : termB l with
  | false => rfl
  | true => exact absurd ((term_iff l).1 e) h
/-- whether a lease runs at t -/
def atB (l : Lr) (t : Int) : Bool := decide (l.fr ≤ t) && decide (t < l.en)
theorem iruns (l : Lr) (t : Int) (w : World) :
    Calls Try.prog 123 #[.agg #[.int .i64 l.ow, .int .i64 l.te, .int .i64 l.n, .int .i64 l.d, .int .i64 l.fr, .int .i64 l.en], .int .i64 t] w fun e w' => e = .returned (.bool (atB l t)) ∧ Below w.heap.size w w' := by
  obtain ⟨ow, te, n, d, fr, en⟩ := l
  unfold atB
  dsimp only
  by_cases h1 : fr ≤ t
  · have e1 : decide (fr ≤ t) = true := decide_eq_true h1
    clear h1
    go_enter Try.func123, Try.ntmps123
    go_wp2
    go_ret
    exact ⟨ret_bool (by rw [e1]; rfl), by go_grown⟩
  · have e1 : decide (fr ≤ t) = false := decide_eq_false h1
    clear h1
    go_enter Try.func123, Try.ntmps123
    go_wp2
    go_ret
    exact ⟨ret_bool (by rw [e1]; rfl), by go_grown⟩
/-- impl.allTerms -/
theorem iterms (a : Option Addr) (cap : Nat) (ls : List Lr) (w : World) (h : IsLs w a ls) (hn : ls.length ≤ 1048576) :
    Calls Try.prog 65 #[.slice a ls.length cap] w fun e w' => e = .returned (.bool (termsB ls)) ∧ Below w.heap.size w w' := by
  rcases h with rfl | ⟨g, o, rfl, hc⟩
  · go_enter Try.func65, Try.ntmps65
    go_wp2
    go_rounds 1
    go_ret
    exact ⟨rfl, by go_grown⟩
  · have HC := Lib.hid hc
    clear hc
    go_enter Try.func65, Try.ntmps65
    go_wp2
    go_loopw [7] (fun i wr => ∃ k : Nat, k ≤ ls.length ∧ i = .int .i64 k ∧ Hid (∀ j, j < k → termB (ls.getD j lr0) = true) ∧ Below w.heap.size w wr) (fun i _ => ls.length - (intOf i).toNat)
    case atStart => exact ⟨0, Nat.zero_le _, rfl, fun j hj => by omega, by go_grown⟩
    case round =>
      obtain ⟨k, hk, rfl, HA, hB⟩ := hrel
      by_cases hlt : k < ls.length
      · obtain ⟨d0, d1, d2, d3, d4, d5⟩ := HC.out k hlt
        have kp : ∀ p v, w.cell? ⟨g, p, none⟩ = some v → wr.cell? ⟨g, p, none⟩ = some v := fun p v c => (hB.cell (p := ⟨g, p, none⟩) (World.block_lt_of_cell? w _ c)).trans c
        have c0 := kp _ _ d0
        have c1 := kp _ _ d1
        have c2 := kp _ _ d2
        have c3 := kp _ _ d3
        have c4 := kp _ _ d4
        have c5 := kp _ _ d5
        have hno : termB (ls.getD k lr0) = false → termsB ls = false := fun e => rng_no hlt e
        have hyes : termB (ls.getD k lr0) = true → ∀ j, j < k + 1 → termB (ls.getD j lr0) = true := fun e => rng_more HA.out e
        clear d0 d1 d2 d3 d4 d5 kp
        generalize ls.getD k lr0 = l at c0 c1 c2 c3 c4 c5 hno hyes
        obtain ⟨ow, te, n, d, fr, en⟩ := l
        have hno2 := fun e => hno (term_no e)
        have hyes2 := fun e => hyes ((term_iff _).2 e)
        dsimp only at c0 c1 c2 c3 c4 c5 hno2 hyes2
        have HNO := Lib.hid hno2
        have HYES := Lib.hid hyes2
        have HB := Lib.hid hB
        have hBa : Below w.heap.size w (wr.alloc (.cells #[.int .i64 ow, .int .i64 te, .int .i64 n, .int .i64 d, .int .i64 fr, .int .i64 en] 97)) := hB.alloc hB.size _
        have HBA := Lib.hid hBa
        clear hno hyes hno2 hyes2 hB hBa
        by_cases h1 : te < 1 ∨ 999 < te
        · have HN : Hid (termsB ls = false) := HNO.out (fun c => by omega)
          go_wp2_with fail
          refine (iowner_no te _ h1).mono ?_
          rintro e w' ⟨rfl, rfl⟩
          clear h1
          go_wp2_with fail
          go_ret
          exact ⟨ret_bool HN.out.symm, HBA.out⟩
        · have r1 : 1 ≤ te := by omega
          have r2 : te ≤ 999 := by omega
          clear h1
          by_cases h2 : te = ow
          · have HN : Hid (termsB ls = false) := HNO.out (fun c => c.2.2.1 h2)
            have e2 : (te == ow) = true := by simpa using h2
            clear h2
            go_wp2_with fail
            refine (iowner_yes te _ r1 r2).mono ?_
            rintro e w' ⟨rfl, rfl⟩
            go_wp2_with fail
            go_ret
            exact ⟨ret_bool HN.out.symm, HBA.out⟩
          · have e2 : (te == ow) = false := by simpa using h2
            have HE : Hid (te ≠ ow) := h2
            clear h2
            by_cases h3 : Wsh.vfB n d = false ∨ n ≤ 0
            · have HN : Hid (termsB ls = false) := HNO.out (fun c => by rcases h3 with h | h; exact absurd c.2.2.2.1 (by rw [h]; decide); omega)
              have H3 := Lib.hid h3
              clear h3
              go_wp2_with fail
              refine (iowner_yes te _ r1 r2).mono ?_
              rintro e w' ⟨rfl, rfl⟩
              go_wp2_with fail
              refine (ipart_no n d _ H3.out).mono ?_
              rintro e w2 ⟨rfl, hb⟩
              go_wp2_with fail
              go_ret
              exact ⟨ret_bool HN.out.symm, bel_tr HBA.out hb⟩
            · have hv : Wsh.vfB n d = true := by cases e : Wsh.vfB n d with | true => rfl | false => exact absurd (.inl e) h3
              have hn0 : 0 < n := by omega
              have IP := fun W => ipart_yes n d W hv hn0
              have HV := Lib.hid hv
              clear h3 hv
              have K0 := Blk.new wr 97 #[.int .i64 ow, .int .i64 te, .int .i64 n, .int .i64 d, .int .i64 fr, .int .i64 en]
              by_cases h4 : fr < 0 ∨ en ≤ fr ∨ 5000 < en
              · have HN : Hid (termsB ls = false) := HNO.out (fun c => by omega)
                go_wp2_with fail
                refine (iowner_yes te _ r1 r2).mono ?_
                rintro e w' ⟨rfl, rfl⟩
                go_wp2_with fail
                refine (IP _).mono ?_
                rintro e w2 ⟨rfl, hb⟩
                have K1 := K0.next hb
                have f4 := K1.cell 4
                have f5 := K1.cell 5
                dsimp at f4 f5
                have hB2 := bel_tr HBA.out hb
                clear K0 K1 hb IP
                by_cases h5 : fr < 0
                · have e5 : decide (fr < 0) = true := decide_eq_true h5
                  clear h4 h5
                  go_wp2_with fail
                  go_ret
                  exact ⟨ret_bool HN.out.symm, hB2⟩
                · have e5 : decide (fr < 0) = false := decide_eq_false h5
                  by_cases h6 : en ≤ fr
                  · have e6 : decide (en ≤ fr) = true := decide_eq_true h6
                    clear h4 h5 h6
                    go_wp2_with fail
                    go_ret
                    exact ⟨ret_bool HN.out.symm, hB2⟩
                  · have e6 : decide (en ≤ fr) = false := decide_eq_false h6
                    have e7 : decide (5000 < en) = true := decide_eq_true (by omega)
                    clear h4 h5 h6
                    go_wp2_with fail
                    go_ret
                    exact ⟨ret_bool HN.out.symm, hB2⟩
              · have e5 : decide (fr < 0) = false := decide_eq_false (by omega)
                have e6 : decide (en ≤ fr) = false := decide_eq_false (by omega)
                have e7 : decide (5000 < en) = false := decide_eq_false (by omega)
                have HY : Hid (∀ j, j < k + 1 → termB (ls.getD j lr0) = true) := HYES.out ⟨r1, r2, HE.out, HV.out, hn0, by omega, by omega, by omega⟩
                clear h4
                go_wp2_with fail
                refine (iowner_yes te _ r1 r2).mono ?_
                rintro e w' ⟨rfl, rfl⟩
                go_wp2_with fail
                refine (IP _).mono ?_
                rintro e w2 ⟨rfl, hb⟩
                have K1 := K0.next hb
                have f4 := K1.cell 4
                have f5 := K1.cell 5
                dsimp at f4 f5
                have hB2 := bel_tr HBA.out hb
                clear K0 K1 hb IP
                go_wp2_with fail
                go_roundw
                case rel => exact ⟨k + 1, by omega, by go_num, HY.out, hB2⟩
                case measure => simp [intOf]; omega
      · go_wp2_with fail
        go_ret
        exact ⟨ret_bool (rng_yes (fun j hj => HA.out j (by omega))).symm, hB⟩
def partQ (l : Lr) : Rat := Rat.divInt l.n l.d
/-- l lends for o at t -/
def lendB (l : Lr) (o t : Int) : Bool := decide (l.ow = o) && atB l t
/-- the parts that o lends at t, of the first k leases -/
def lentS (ls : List Lr) (o t : Int) : Nat → Rat
  | 0 => 0
  | k + 1 => lentS ls o t k + (if lendB (ls.getD k lr0) o t then partQ (ls.getD k lr0) else 0)
def lentOk (ls : List Lr) (o t : Int) : Bool := (List.range ls.length).all fun j => frB (lentS ls o t (j + 1))
theorem lent_fr {ls : List Lr} {o t : Int} {k : Nat} (h : ∀ j, j < k → frB (lentS ls o t (j + 1)) = true) : frB (lentS ls o t k) = true := by
  cases k with
  | zero => exact frB_zero
  | succ k => exact h k (by omega)
theorem lent_stay {ls : List Lr} {o t : Int} {k : Nat} (h : lendB (ls.getD k lr0) o t = false) : lentS ls o t (k + 1) = lentS ls o t k := by
  show _ + (if _ then _ else _) = _
  rw [h]
  show _ + (0 : Rat) = _
  grind
theorem lent_more {ls : List Lr} {o t : Int} {k : Nat} (h : lendB (ls.getD k lr0) o t = true) : lentS ls o t (k + 1) = lentS ls o t k + partQ (ls.getD k lr0) := by
  show _ + (if _ then _ else _) = _
  rw [h]; rfl
theorem terms_at {ls : List Lr} (h : termsB ls = true) {k : Nat} (hk : k < ls.length) : Wsh.vfB (ls.getD k lr0).n (ls.getD k lr0).d = true := ((term_iff _).1 ((rng_all _ _).1 h k hk)).2.2.2.1
/-- a sum, as the program makes it -/
theorem part_add {q : Rat} {n d : Int} (hq : frB q = true) (hv : Wsh.vfB n d = true) :
    (Wsh.vfB q.num (q.den : Int) && Wsh.vfB n d && Wsh.redB (q.num * d + n * (q.den : Int)) ((q.den : Int) * d)) = frB (q + Rat.divInt n d) ∧ Wsh.rn (q.num * d + n * (q.den : Int)) ((q.den : Int) * d) = (q + Rat.divInt n d).num ∧ Wsh.rd (q.num * d + n * (q.den : Int)) ((q.den : Int) * d) = ((q + Rat.divInt n d).den : Int) := by
  obtain ⟨a, b, _⟩ := vf_q hv
  obtain ⟨x, y, z⟩ := add_red q (Rat.divInt n d)
  rw [a, b] at x y z
  exact ⟨by rw [q_vf hq, hv, x]; rfl, y, z⟩
/-- impl.lentAt -/
theorem ilent (a : Option Addr) (cap : Nat) (ls : List Lr) (o t : Int) (w : World) (h : IsLs w a ls) (hn : ls.length ≤ 1048576) (ht : termsB ls = true) :
    Calls Try.prog 66 #[.slice a ls.length cap, .int .i64 o, .int .i64 t] w fun e w' => e = .returned (.tuple #[.agg #[.int .i64 (Wsh.qn (lentOk ls o t) (lentS ls o t ls.length).num), .int .i64 (Wsh.qn (lentOk ls o t) ((lentS ls o t ls.length).den : Int))], .bool (lentOk ls o t)]) ∧ Below w.heap.size w w' := by
  have HI := Lib.hid h
  have HT := Lib.hid ht
  clear h ht
  go_enter Try.func66, Try.ntmps66
  go_wp2_with fail
  refine (inoShare _).mono ?_
  rintro e w1 ⟨rfl, hb⟩
  have hB1 : Below w.heap.size w w1 := bel_tr (by go_grown) hb
  have K6 := (Blk.new w 58 #[.int .i64 0, .int .i64 0]).next hb
  have hz1 : w.heap.size < w1.heap.size := K6.lt
  have K6a := K6.alloc (.cells #[.int .i64 0, .int .i64 1] 58)
  have K8 := Blk.new w1 58 #[.int .i64 0, .int .i64 1]
  have hB2 := hB1.alloc hB1.size (.cells #[.int .i64 0, .int .i64 1] 58)
  have hSw : w.heap.size < w1.heap.size := hz1
  clear hb K6 hz1
  go_wp2_with fail
  go_loopw [16] (fun i wr => ∃ k : Nat, k ≤ ls.length ∧ i = .int .i64 k ∧ Hid (∀ j, j < k → frB (lentS ls o t (j + 1)) = true) ∧ Blk wr w.heap.size 58 #[.int .i64 0, .int .i64 0] ∧ Blk wr w1.heap.size 58 #[.int .i64 (lentS ls o t k).num, .int .i64 ((lentS ls o t k).den : Int)] ∧ Below w.heap.size w wr) (fun i _ => ls.length - (intOf i).toNat)
  case atStart => exact ⟨0, Nat.zero_le _, rfl, fun j hj => by omega, K6a, K8, hB2⟩
  case round =>
    clear K6a K8 hB2 hB1
    obtain ⟨k, hk, rfl, HA, hR, hS8, hB⟩ := hrel
    have HRb := Lib.hid hR
    have HSb := Lib.hid hS8
    have HB := Lib.hid hB
    obtain ⟨s0, s1, s2, s3, s4⟩ := blk_two hS8
    obtain ⟨r0, r1, r2, r3, r4⟩ := blk_two hR
    by_cases hlt : k < ls.length
    · have hcz : ∃ g u, a = some ⟨g, u, none⟩ ∧ wr.cell? ⟨g, u + k * 6, none⟩ = some (.int .i64 (ls.getD k lr0).ow) ∧ wr.cell? ⟨g, u + k * 6 + 1, none⟩ = some (.int .i64 (ls.getD k lr0).te) ∧ wr.cell? ⟨g, u + k * 6 + 2, none⟩ = some (.int .i64 (ls.getD k lr0).n) ∧ wr.cell? ⟨g, u + k * 6 + 3, none⟩ = some (.int .i64 (ls.getD k lr0).d) ∧ wr.cell? ⟨g, u + k * 6 + 4, none⟩ = some (.int .i64 (ls.getD k lr0).fr) ∧ wr.cell? ⟨g, u + k * 6 + 5, none⟩ = some (.int .i64 (ls.getD k lr0).en) := by
        rcases ls_below HI.out hB with he | ⟨g, u, hA, hc⟩
        · rw [he] at hlt; simp at hlt
        · exact ⟨g, u, hA, hc k hlt⟩
      obtain ⟨g, u, rfl, c0, c1, c2, c3, c4, c5⟩ := hcz
      have hfr := lent_fr HA.out
      have hv := terms_at HT.out hlt
      have hstay : lendB (ls.getD k lr0) o t = false → Hid (∀ j, j < k + 1 → frB (lentS ls o t (j + 1)) = true) ∧ Blk wr w1.heap.size 58 #[.int .i64 (lentS ls o t (k + 1)).num, .int .i64 ((lentS ls o t (k + 1)).den : Int)] := fun e => by
        have e2 := lent_stay e
        exact ⟨rng_more (f := fun j => frB (lentS ls o t (j + 1))) HA.out (by show frB (lentS ls o t (k + 1)) = true; rw [e2]; exact hfr), by rw [e2]; exact hS8⟩
      have hmore : lendB (ls.getD k lr0) o t = true → lentS ls o t (k + 1) = lentS ls o t k + Rat.divInt (ls.getD k lr0).n (ls.getD k lr0).d := fun e => lent_more e
      have hno : frB (lentS ls o t (k + 1)) = false → lentOk ls o t = false := fun e => rng_no (f := fun j => frB (lentS ls o t (j + 1))) hlt e
      have hyes : frB (lentS ls o t (k + 1)) = true → ∀ j, j < k + 1 → frB (lentS ls o t (j + 1)) = true := fun e => rng_more (f := fun j => frB (lentS ls o t (j + 1))) HA.out e
      have hlend : lendB (ls.getD k lr0) o t = (decide ((ls.getD k lr0).ow = o) && atB (ls.getD k lr0) t) := rfl
      generalize ls.getD k lr0 = l at c0 c1 c2 c3 c4 c5 hv hstay hmore hlend
      have IRn := fun W => iruns l t W
      obtain ⟨ow, te, n, d, fr, en⟩ := l
      obtain ⟨bl, hbl⟩ : ∃ bl, lendB ⟨ow, te, n, d, fr, en⟩ o t = bl := ⟨_, rfl⟩
      obtain ⟨ba, hba⟩ : ∃ ba, atB ⟨ow, te, n, d, fr, en⟩ t = ba := ⟨_, rfl⟩
      rw [hbl] at hstay hmore
      rw [hbl, hba] at hlend
      rw [hba] at IRn
      dsimp only at c0 c1 c2 c3 c4 c5 hv hmore hlend IRn
      have PA := part_add hfr hv
      have HST := Lib.hid hstay
      have HMO := Lib.hid hmore
      have HNO := Lib.hid hno
      have HYES := Lib.hid hyes
      have HIR := Lib.hid IRn
      have HPA := Lib.hid PA
      have HLE := Lib.hid hlend
      obtain ⟨q, hq⟩ : ∃ q, lentS ls o t k = q := ⟨_, rfl⟩
      rw [hq] at s0 s1 HPA HMO HSb
      have hBa := hB.alloc hB.size (.cells #[.int .i64 ow, .int .i64 te, .int .i64 n, .int .i64 d, .int .i64 fr, .int .i64 en] 97)
      have HBA := Lib.hid hBa
      clear hfr hv hstay hmore hno hyes hbl hba hlend IRn PA hq hB hS8 hR hBa
      by_cases h1 : ow = o
      · have hl2 : bl = ba := by rw [HLE.out, decide_eq_true h1]; rfl
        subst hl2
        subst h1
        clear HLE
        cases bl with
        | false =>
          obtain ⟨y1, y2⟩ := HST.out rfl
          have Y2 := Lib.hid y2
          clear y2
          go_wp2_with fail
          refine (HIR.out _).mono ?_
          rintro e w2 ⟨rfl, hb⟩
          go_wp2_with fail
          go_roundw
          case rel => exact ⟨k + 1, by omega, by go_num, y1, (HRb.out.alloc _).next hb, (Y2.out.alloc _).next hb, bel_tr HBA.out hb⟩
          case measure => simp [intOf]; omega
        | true =>
          have hmo := HMO.out rfl
          obtain ⟨p1, p2, p3⟩ := HPA.out
          rw [← hmo] at p1 p2 p3
          have K0 := Blk.new wr 97 #[.int .i64 ow, .int .i64 te, .int .i64 n, .int .i64 d, .int .i64 fr, .int .i64 en]
          cases hf : frB (lentS ls ow t (k + 1)) with
          | false =>
            have HN : Hid (lentOk ls ow t = false) := HNO.out hf
            have P1 := Lib.hid (p1.trans hf)
            clear hmo p1 p2 p3 hf
            go_wp2_with fail
            refine (HIR.out _).mono ?_
            rintro e w2 ⟨rfl, hb⟩
            have S2 := (HSb.out.alloc (.cells #[.int .i64 ow, .int .i64 te, .int .i64 n, .int .i64 d, .int .i64 fr, .int .i64 en] 97)).next hb
            have R2 := (HRb.out.alloc (.cells #[.int .i64 ow, .int .i64 te, .int .i64 n, .int .i64 d, .int .i64 fr, .int .i64 en] 97)).next hb
            have K2 := K0.next hb
            have B2 := bel_tr HBA.out hb
            clear s0 s1 s2 s3 s4 r0 r1 r2 r3 r4 c0 c1 c2 c3 c4 c5 K0 hb
            obtain ⟨s0, s1, s2, s3, s4⟩ := blk_two S2
            have f2 := K2.cell 2
            have f3 := K2.cell 3
            dsimp at f2 f3
            go_wp2_with fail
            refine (iAddN _ P1.out).mono ?_
            rintro e w3 ⟨rfl, hb⟩
            have R3 := (R2.next hb).alloc (.cells #[.int .i64 0, .int .i64 0] 58)
            have B3 := (bel_tr B2 hb).alloc (bel_tr B2 hb).size (.cells #[.int .i64 0, .int .i64 0] 58)
            obtain ⟨r0, r1, r2, r3, r4⟩ := blk_two R3
            obtain ⟨x0, x1, _, _, _⟩ := blk_two (R3.two (.int .i64 0) (.int .i64 0))
            clear s0 s1 s2 s3 s4 f2 f3 S2 R2 K2 R3
            go_wp2_with fail
            refine bodyPost_ret (v := .tuple #[.agg #[.int .i64 0, .int .i64 0], .bool false]) (by simp [results, Try.results66, go_sem, x0, x1]) rfl ⟨?_, ?_⟩
            · rw [HN.out]; rfl
            · exact (B3.setCell (p := ⟨w.heap.size, 0, none⟩) (Nat.le_refl _) _).setCell (p := ⟨w.heap.size, 1, none⟩) (Nat.le_refl _) _
          | true =>
            have HY : Hid (∀ j, j < k + 1 → frB (lentS ls ow t (j + 1)) = true) := HYES.out hf
            have P1 := Lib.hid (p1.trans hf)
            have P2 := Lib.hid p2
            have P3 := Lib.hid p3
            clear hmo p1 p2 p3 hf
            go_wp2_with fail
            refine (HIR.out _).mono ?_
            rintro e w2 ⟨rfl, hb⟩
            have S2 := (HSb.out.alloc (.cells #[.int .i64 ow, .int .i64 te, .int .i64 n, .int .i64 d, .int .i64 fr, .int .i64 en] 97)).next hb
            have R2 := (HRb.out.alloc (.cells #[.int .i64 ow, .int .i64 te, .int .i64 n, .int .i64 d, .int .i64 fr, .int .i64 en] 97)).next hb
            have K2 := K0.next hb
            have B2 := bel_tr HBA.out hb
            clear s0 s1 s2 s3 s4 r0 r1 r2 r3 r4 c0 c1 c2 c3 c4 c5 K0 hb
            obtain ⟨s0, s1, s2, s3, s4⟩ := blk_two S2
            have f2 := K2.cell 2
            have f3 := K2.cell 3
            dsimp at f2 f3
            go_wp2_with fail
            refine (iAddQ _ P1.out P2.out P3.out).mono ?_
            rintro e w3 ⟨rfl, hb⟩
            have R3 := R2.next hb
            have S3 := S2.next hb
            have B3 := bel_tr B2 hb
            have ne : w.heap.size ≠ w1.heap.size := Nat.ne_of_lt hSw
            obtain ⟨t0, t1, t2, t3, t4⟩ := blk_two S3
            clear s0 s1 s2 s3 s4 f2 f3 S2 R2 K2
            go_wp2_with fail
            go_roundw
            case rel => exact ⟨k + 1, by omega, by go_num, HY.out, ((R3.far (by exact ne) _).far (by exact ne) _).alloc _, (S3.two _ _).alloc _, ((B3.setCell (by exact Nat.le_of_lt hSw) _).setCell (by exact Nat.le_of_lt hSw) _).alloc (by simpa using B3.size) _⟩
            case measure => simp [intOf]; omega
      · have e1 : (ow == o) = false := by simpa using h1
        have hl2 : bl = false := by rw [HLE.out, decide_eq_false h1]; rfl
        subst hl2
        have e1b : (ow != o) = true := by simpa using h1
        have e1c : decide (ow = o) = false := decide_eq_false h1
        obtain ⟨y1, y2⟩ := HST.out rfl
        have Y2 := Lib.hid y2
        clear y2
        go_wp2_with fail
        go_roundw
        case rel => exact ⟨k + 1, by omega, by go_num, y1, HRb.out.alloc _, Y2.out.alloc _, HBA.out⟩
        case measure => simp [intOf]; omega
    · obtain rfl : ls.length = k := by omega
      have HN : Hid (lentOk ls o t = true) := rng_yes (f := fun j => frB (lentS ls o t (j + 1))) HA.out
      have hx : ∀ q : Rat, Blk ((wr.setCell ⟨w.heap.size, 0, none⟩ (.int .i64 q.num)).setCell ⟨w.heap.size, 1, none⟩ (.int .i64 (q.den : Int))) w.heap.size 58 #[.int .i64 q.num, .int .i64 (q.den : Int)] := fun q => HRb.out.two _ _
      obtain ⟨x0, x1, _, _, _⟩ := blk_two (hx (lentS ls o t ls.length))
      have hB3 := ((hB.setCell (p := ⟨w.heap.size, 0, none⟩) (Nat.le_refl _) (.int .i64 (lentS ls o t ls.length).num)).setCell (p := ⟨w.heap.size, 1, none⟩) (Nat.le_refl _) (.int .i64 ((lentS ls o t ls.length).den : Int)))
      have HB3 := Lib.hid hB3
      clear hR hS8 hB hx hB3
      go_wp2_with fail
      refine bodyPost_ret (v := .tuple #[.agg #[.int .i64 (lentS ls o t ls.length).num, .int .i64 ((lentS ls o t ls.length).den : Int)], .bool true]) (by simp [results, Try.results66, go_sem, x0, x1]) rfl ⟨?_, ?_⟩
      · rw [HN.out]; rfl
      · exact HB3.out
theorem keepZ {W wq v : World} {x y u : Value} {k : Nat} {q : Addr} (hb : Below W.heap.size W wq) (h : W.cell? ⟨k, 0, none⟩ = some x ∧ W.cell? ⟨k, 1, none⟩ = some y ∧ W.cell? q = some u ∧ Below v.heap.size v W) : wq.cell? ⟨k, 0, none⟩ = some x ∧ wq.cell? ⟨k, 1, none⟩ = some y ∧ wq.cell? q = some u ∧ Below v.heap.size v wq :=
  ⟨cell_next hb h.1, cell_next hb h.2.1, cell_next hb h.2.2.1, bel_tr h.2.2.2 hb⟩
theorem keepZB {W v : World} {x y u : Value} {k : Nat} {q : Addr} (h : W.cell? ⟨k, 0, none⟩ = some x ∧ W.cell? ⟨k, 1, none⟩ = some y ∧ W.cell? q = some u ∧ Below v.heap.size v W) : Below v.heap.size v W := h.2.2.2
theorem iCmpIs {an ad bn bd c : Int} (w : World) (h : Wsh.cmpF an ad bn bd = c) :
    Calls Try.prog 67 #[.agg #[.int .i64 an, .int .i64 ad], .agg #[.int .i64 bn, .int .i64 bd]] w fun e w' => e = .returned (.int .i64 c) ∧ Below w.heap.size w w' := by
  rw [← h]; exact iCompare an ad bn bd w
/-- the k-th lease: what its owner lends when it begins is a fraction, and no more than his share -/
def lzK (hs : List Hd) (ls : List Lr) (k : Nat) : Bool := lentOk ls (ls.getD k lr0).ow (ls.getD k lr0).fr && !decide (0 < Wsh.cmpF (lentS ls (ls.getD k lr0).ow (ls.getD k lr0).fr ls.length).num ((lentS ls (ls.getD k lr0).ow (ls.getD k lr0).fr ls.length).den : Int) (shareL (ledOf hs) (ls.getD k lr0).ow).num ((shareL (ledOf hs) (ls.getD k lr0).ow).den : Int))
def lzB (hs : List Hd) (ls : List Lr) : Bool := vlR hs && decide (ls.length ≤ 10) && termsB ls && (List.range ls.length).all (lzK hs ls)
theorem lz_no {hs : List Hd} {ls : List Lr} (h : vlR hs = false ∨ 10 < ls.length ∨ termsB ls = false) : lzB hs ls = false := by
  unfold lzB
  rcases h with h | h | h
  · rw [h]; rfl
  · rw [decide_eq_false (by omega : ¬ ls.length ≤ 10)]; simp
  · rw [h]; simp
theorem lz_eq {hs : List Hd} {ls : List Lr} (h1 : vlR hs = true) (h2 : ls.length ≤ 10) (h3 : termsB ls = true) : lzB hs ls = (List.range ls.length).all (lzK hs ls) := by
  unfold lzB; rw [h1, h3, decide_eq_true h2]; rfl
/-- impl.ValidLeases -/
theorem iLeases (a : Option Addr) (cap : Nat) (hs : List Hd) (A : Option Addr) (capz : Nat) (ls : List Lr) (w : World) (h : IsHs w a hs) (hn : hs.length ≤ 1048576) (hz : IsLs w A ls) (hzn : ls.length ≤ 1048576) :
    Calls Try.prog 18 #[.slice a hs.length cap, .slice A ls.length capz] w fun e w' => e = .returned (.bool (lzB hs ls)) ∧ Below w.heap.size w w' := by
  have hv := iVL a cap hs w h hn
  have HI := Lib.hid h
  have HZ := Lib.hid hz
  clear h hz
  cases hvl : vlR hs with
  | false =>
    have HN : Hid (lzB hs ls = false) := lz_no (.inl hvl)
    rw [hvl] at hv
    clear hvl
    go_enter Try.func18, Try.ntmps18
    go_wp2_with fail
    refine hv.mono ?_
    rintro e w1 ⟨rfl, hb⟩
    go_wp2_with fail
    go_ret
    exact ⟨ret_bool HN.out.symm, hb⟩
  | true =>
    rw [hvl] at hv
    by_cases h10 : 10 < ls.length
    · have HN : Hid (lzB hs ls = false) := lz_no (.inr (.inl h10))
      clear hvl
      go_enter Try.func18, Try.ntmps18
      go_wp2_with fail
      refine hv.mono ?_
      rintro e w1 ⟨rfl, hb⟩
      go_wp2_with fail
      go_ret
      exact ⟨ret_bool HN.out.symm, hb⟩
    · have e10 : decide (10 < (ls.length : Int)) = false := by simp; omega
      have l10 : ls.length ≤ 10 := by omega
      cases ht : termsB ls with
      | false =>
        have HN : Hid (lzB hs ls = false) := lz_no (.inr (.inr ht))
        have HT := Lib.hid ht
        clear hvl ht h10
        go_enter Try.func18, Try.ntmps18
        go_wp2_with fail
        refine hv.mono ?_
        rintro e w1 ⟨rfl, hb⟩
        go_wp2_with fail
        have IT := iterms A capz ls _ (ls_below HZ.out hb) hzn
        rw [HT.out] at IT
        refine IT.mono ?_
        rintro e w2 ⟨rfl, hb2⟩
        clear IT
        go_wp2_with fail
        go_ret
        exact ⟨ret_bool HN.out.symm, bel_tr hb hb2⟩
      | true =>
        have HE : Hid (lzB hs ls = (List.range ls.length).all (lzK hs ls)) := lz_eq hvl l10 ht
        have HT := Lib.hid ht
        have HV := Lib.hid hvl
        clear hvl ht h10
        go_enter Try.func18, Try.ntmps18
        go_wp2_with fail
        refine hv.mono ?_
        rintro e w1 ⟨rfl, hb⟩
        go_wp2_with fail
        have IT := iterms A capz ls _ (ls_below HZ.out hb) hzn
        rw [HT.out] at IT
        refine IT.mono ?_
        rintro e w2 ⟨rfl, hb2⟩
        have hB2 := bel_tr hb hb2
        clear IT hb hb2
        go_wp2_with fail
        go_loopw [24] (fun i wr => ∃ k : Nat, k ≤ ls.length ∧ i = .int .i64 k ∧ Hid (∀ j, j < k → lzK hs ls j = true) ∧ Below w.heap.size w wr) (fun i _ => ls.length - (intOf i).toNat)
        case atStart => exact ⟨0, Nat.zero_le _, rfl, fun j hj => by omega, hB2⟩
        case round =>
          clear hB2
          obtain ⟨k, hk, rfl, HA, hB⟩ := hrel
          by_cases hlt : k < ls.length
          · have hcz : ∃ g u, A = some ⟨g, u, none⟩ ∧ wr.cell? ⟨g, u + k * 6, none⟩ = some (.int .i64 (ls.getD k lr0).ow) ∧ wr.cell? ⟨g, u + k * 6 + 1, none⟩ = some (.int .i64 (ls.getD k lr0).te) ∧ wr.cell? ⟨g, u + k * 6 + 2, none⟩ = some (.int .i64 (ls.getD k lr0).n) ∧ wr.cell? ⟨g, u + k * 6 + 3, none⟩ = some (.int .i64 (ls.getD k lr0).d) ∧ wr.cell? ⟨g, u + k * 6 + 4, none⟩ = some (.int .i64 (ls.getD k lr0).fr) ∧ wr.cell? ⟨g, u + k * 6 + 5, none⟩ = some (.int .i64 (ls.getD k lr0).en) := by
              rcases ls_below HZ.out hB with he | ⟨g, u, hA, hc⟩
              · rw [he] at hlt; simp at hlt
              · exact ⟨g, u, hA, hc k hlt⟩
            obtain ⟨g, u, hAe, c0, c1, c2, c3, c4, c5⟩ := hcz
            have hno : lzK hs ls k = false → (List.range ls.length).all (lzK hs ls) = false := fun e => rng_no hlt e
            have hyes : lzK hs ls k = true → ∀ j, j < k + 1 → lzK hs ls j = true := fun e => rng_more HA.out e
            have hdef : lzK hs ls k = (lentOk ls (ls.getD k lr0).ow (ls.getD k lr0).fr && !decide (0 < Wsh.cmpF (lentS ls (ls.getD k lr0).ow (ls.getD k lr0).fr ls.length).num ((lentS ls (ls.getD k lr0).ow (ls.getD k lr0).fr ls.length).den : Int) (shareL (ledOf hs) (ls.getD k lr0).ow).num ((shareL (ledOf hs) (ls.getD k lr0).ow).den : Int))) := rfl
            generalize ls.getD k lr0 = l at c0 c1 c2 c3 c4 c5 hdef
            obtain ⟨ow, te, n, d, fr, en⟩ := l
            dsimp only at c0 c1 c2 c3 c4 c5 hdef
            have IL := fun W hW => ilent A capz ls ow fr W hW hzn HT.out
            obtain ⟨b, hb⟩ : ∃ b, lentOk ls ow fr = b := ⟨_, rfl⟩
            obtain ⟨q, hq⟩ : ∃ q, lentS ls ow fr ls.length = q := ⟨_, rfl⟩
            rw [hb, hq] at IL hdef
            have HIL := Lib.hid IL
            have HD := Lib.hid hdef
            have HNO := Lib.hid hno
            have HYES := Lib.hid hyes
            have K0 := Blk.new wr 97 #[.int .i64 ow, .int .i64 te, .int .i64 n, .int .i64 d, .int .i64 fr, .int .i64 en]
            have hBa := hB.alloc hB.size (.cells #[.int .i64 ow, .int .i64 te, .int .i64 n, .int .i64 d, .int .i64 fr, .int .i64 en] 97)
            clear IL hdef hno hyes hb hq hB
            subst hAe
            cases b with
            | false =>
              have HN : Hid (lzB hs ls = false) := HE.out.trans (HNO.out (by rw [HD.out]; rfl))
              go_wp2_with fail
              refine (HIL.out _ (ls_below HZ.out hBa)).mono ?_
              rintro e w3 ⟨rfl, hb⟩
              have hB3 := bel_tr hBa hb
              have hB4 := hB3.alloc hB3.size (.cells #[.int .i64 (Wsh.qn false q.num), .int .i64 (Wsh.qn false (q.den : Int))] 58)
              clear c0 c1 c2 c3 c4 c5 K0 hb
              go_wp2_with fail
              go_quiet (fail)
              go_wp2_with fail
              go_ret
              exact ⟨ret_bool HN.out.symm, below_drewN hB4 _⟩
            | true =>
              have HIL2 : ∀ W : World, IsLs W (some ⟨g, u, none⟩) ls → Calls Try.prog 66 #[.slice (some ⟨g, u, none⟩) ls.length capz, .int .i64 ow, .int .i64 fr] W fun e w' => e = .returned (.tuple #[.agg #[.int .i64 q.num, .int .i64 (q.den : Int)], .bool true]) ∧ Below W.heap.size W w' := HIL.out
              obtain ⟨c, hc⟩ : ∃ c, Wsh.cmpF q.num (q.den : Int) (shareL (ledOf hs) ow).num ((shareL (ledOf hs) ow).den : Int) = c := ⟨_, rfl⟩
              have HC := Lib.hid hc
              have HD2 : Hid (lzK hs ls k = !decide (0 < c)) := by show _ = _; rw [HD.out, hc]; rfl
              clear hc
              go_wp2_with fail
              refine (HIL2 _ (ls_below HZ.out hBa)).mono ?_
              rintro e w3 ⟨rfl, hb⟩
              have hB3 := bel_tr hBa hb
              have K3 := K0.next hb
              have hB4 := hB3.alloc hB3.size (.cells #[.int .i64 q.num, .int .i64 (q.den : Int)] 58)
              have S4 := Blk.new w3 58 #[.int .i64 q.num, .int .i64 (q.den : Int)]
              have L4 := K3.alloc (.cells #[.int .i64 q.num, .int .i64 (q.den : Int)] 58)
              obtain ⟨s0, s1, s2, s3, s4⟩ := blk_two S4
              have f0 := L4.cell 0
              dsimp at f0
              clear c0 c1 c2 c3 c4 c5 K0 hb K3 S4 L4
              obtain ⟨W4, hW4⟩ : ∃ W4, W4 = w3.alloc (.cells #[.int .i64 q.num, .int .i64 (q.den : Int)] 58) := ⟨_, rfl⟩
              rw [← hW4] at s0 s1 f0 hB4
              clear s2 s3 s4
              go_upto_region 7 with fail
              rw [← hW4]
              clear hW4
              go_region_held3 (fun w' => w'.cell? ⟨w3.heap.size, 0, none⟩ = some (.int .i64 q.num) ∧ w'.cell? ⟨w3.heap.size, 1, none⟩ = some (.int .i64 (q.den : Int)) ∧ w'.cell? ⟨wr.heap.size, 0, none⟩ = some (.int .i64 ow) ∧ Below W4.heap.size W4 w') (first | (exact keepZ hb (by assumption)) | (refine ⟨?_, ?_, ?_, ?_⟩ <;> first | (go_keep; done) | exact (Below.refl _ _).drew))
                (first | (go_at_call 68; refine (ishareL a cap (ledOf hs) hs ow _ (hs_below (hs_below HI.out hB4) (keepZB (by assumption))) (led_eq HV.out) hn).mono ?_; rintro e wq ⟨rfl, hb⟩) | (go_at_call 67; refine (iCmpIs _ HC.out).mono ?_; rintro e wq2 ⟨rfl, hb⟩))
              have hB5 := bel_tr hB4 (keepZB (by assumption))
              have HB5 := Lib.hid hB5
              clear hB5
              by_cases h0 : 0 < c
              · have HN : Hid (lzB hs ls = false) := HE.out.trans (HNO.out (by rw [HD2.out, decide_eq_true h0]; rfl))
                have e0 : decide (0 < c) = true := decide_eq_true h0
                go_wp2_with fail
                go_ret
                exact ⟨ret_bool HN.out.symm, HB5.out⟩
              · have HY : Hid (∀ j, j < k + 1 → lzK hs ls j = true) := HYES.out (by rw [HD2.out, decide_eq_false h0]; rfl)
                have e0 : decide (0 < c) = false := decide_eq_false h0
                go_wp2_with fail
                go_roundw
                case rel => exact ⟨k + 1, by omega, by go_num, HY.out, HB5.out⟩
                case measure => simp [intOf]; omega
          · obtain rfl : ls.length = k := by omega
            have HN : Hid (lzB hs ls = true) := HE.out.trans (rng_yes HA.out)
            have HB := Lib.hid hB
            clear hB
            go_wp2_with fail
            go_ret
            exact ⟨ret_bool HN.out.symm, HB.out⟩
theorem cmp_q {p q : Rat} (hp : frB p = true) (hq : frB q = true) : 0 < Wsh.cmpF p.num (p.den : Int) q.num (q.den : Int) ↔ q < p := by
  rw [Wsh.cmpF_yes (q_vf hp) (q_vf hq), lt_q]
  unfold Wsh.cmpI
  constructor
  · intro h
    split at h
    · omega
    · split at h
      · assumption
      · omega
  · intro h
    rw [if_neg (by omega), if_pos h]; decide
def lentL (o t : Int) : List Lr → Rat
  | [] => 0
  | x :: r => (if lendB x o t then partQ x else 0) + lentL o t r
theorem lentL_app (o t : Int) (a b : List Lr) : lentL o t (a ++ b) = lentL o t a + lentL o t b := by
  induction a with
  | nil => show _ = (0 : Rat) + _; grind
  | cons x r ih =>
    show _ + lentL o t (r ++ b) = _ + lentL o t r + lentL o t b
    rw [ih]; grind
theorem lent_take (ls : List Lr) (o t : Int) : ∀ k, k ≤ ls.length → lentS ls o t k = lentL o t (ls.take k) := by
  intro k
  induction k with
  | zero => intro _; rfl
  | succ k ih =>
    intro hk
    have hk' : k < ls.length := by omega
    rw [List.take_succ_eq_append_getElem hk', lentL_app, ← ih (by omega)]
    show lentS ls o t k + (if lendB (ls.getD k lr0) o t then partQ (ls.getD k lr0) else 0) = lentS ls o t k + ((if lendB ls[k] o t then partQ ls[k] else 0) + 0)
    have e : ls.getD k lr0 = ls[k] := by rw [List.getD_eq_getElem?_getD, List.getElem?_eq_getElem hk']; rfl
    rw [e]; grind
theorem lent_all (ls : List Lr) (o t : Int) : lentS ls o t ls.length = lentL o t ls := by rw [lent_take ls o t _ (Nat.le_refl _), List.take_length]
theorem getD_inL {ls : List Lr} {k : Nat} (hk : k < ls.length) : ls.getD k lr0 ∈ ls := by rw [List.getD_eq_getElem?_getD, List.getElem?_eq_getElem hk]; exact List.getElem_mem hk
theorem inL_getD {ls : List Lr} {x : Lr} (h : x ∈ ls) : ∃ k, k < ls.length ∧ ls.getD k lr0 = x := by
  obtain ⟨i, hi, rfl⟩ := List.mem_iff_getElem.1 h
  exact ⟨i, hi, by rw [List.getD_eq_getElem?_getD, List.getElem?_eq_getElem hi]; rfl⟩
theorem terms_iff {ls : List Lr} : termsB ls = true ↔ ∀ x ∈ ls, termB x = true := by
  unfold termsB
  rw [rng_all]
  constructor
  · intro h x hx
    obtain ⟨k, hk, rfl⟩ := inL_getD hx
    exact h k hk
  · intro h k hk
    exact h _ (getD_inL hk)
/-- the leases without the k-th -/
def wo (ls : List Lr) (k : Nat) : List Lr := ls.take k ++ ls.drop (k + 1)
theorem wo_split {ls : List Lr} {k : Nat} (hk : k < ls.length) : ls = ls.take k ++ ls.getD k lr0 :: ls.drop (k + 1) := by
  conv => lhs; rw [← List.take_append_drop k ls]
  rw [List.drop_eq_getElem_cons hk, List.getD_eq_getElem?_getD, List.getElem?_eq_getElem hk]; rfl
theorem wo_mem {ls : List Lr} {k : Nat} {x : Lr} (h : x ∈ wo ls k) : x ∈ ls := by
  unfold wo at h
  rcases List.mem_append.1 h with h | h
  · exact List.mem_of_mem_take h
  · exact List.mem_of_mem_drop h
theorem wo_len {ls : List Lr} {k : Nat} (hk : k < ls.length) : (wo ls k).length + 1 = ls.length := by
  unfold wo
  rw [List.length_append, List.length_take, List.length_drop]; omega
theorem lent_wo {ls : List Lr} {k : Nat} (hk : k < ls.length) (ht : termsB ls = true) (o t : Int) : lentL o t (wo ls k) ≤ lentL o t ls := by
  have h0 : 0 ≤ partQ (ls.getD k lr0) := by
    have hv := terms_at ht hk
    exact frB_nonneg (vf_q hv).2.2
  conv => rhs; rw [wo_split hk]
  unfold wo
  rw [lentL_app, lentL_app]
  show _ ≤ lentL o t (ls.take k) + ((if lendB (ls.getD k lr0) o t then partQ (ls.getD k lr0) else 0) + lentL o t (ls.drop (k + 1)))
  split <;> grind
/-- what the law asks of leases: that all sums are fractions -/
def sumsB (ls : List Lr) : Bool := (List.range ls.length).all fun i => lentOk ls (ls.getD i lr0).ow (ls.getD i lr0).fr
theorem lentOk_fr {ls : List Lr} {o t : Int} (h : lentOk ls o t = true) : frB (lentS ls o t ls.length) = true := by
  unfold lentOk at h
  rw [rng_all] at h
  exact lent_fr h
theorem lzB_is {hs : List Hd} {ls : List Lr} (h : lzB hs ls = true) : vlR hs = true ∧ ls.length ≤ 10 ∧ termsB ls = true ∧ ∀ k, k < ls.length → lzK hs ls k = true := by
  unfold lzB at h
  simp only [Bool.and_eq_true, decide_eq_true_eq] at h
  exact ⟨h.1.1.1, h.1.1.2, h.1.2, (rng_all _ _).1 h.2⟩
/-- P26: without one of them -/
theorem lz_wo {hs : List Hd} {ls : List Lr} {k : Nat} (h : lzB hs ls = true) (hk : k < ls.length) (hs' : sumsB (wo ls k) = true) : lzB hs (wo ls k) = true := by
  obtain ⟨hv, hl, ht, hz⟩ := lzB_is h
  have hlen := wo_len hk
  have ht' : termsB (wo ls k) = true := terms_iff.2 (fun x hx => terms_iff.1 ht x (wo_mem hx))
  rw [lz_eq hv (by omega) ht']
  rw [rng_all]
  intro j hj
  unfold sumsB at hs'
  rw [rng_all] at hs'
  have hok := hs' j hj
  obtain ⟨i, hi, hx⟩ := inL_getD (wo_mem (getD_inL hj))
  have hzi := hz i hi
  unfold lzK at hzi ⊢
  rw [← hx] at hok ⊢
  simp only [Bool.and_eq_true] at hzi
  rw [hok, Bool.true_and]
  have hsh : frB (shareL (ledOf hs) (ls.getD i lr0).ow) = true := share_fr (vlR_is hv).2 _
  have h1 := cmp_q (lentOk_fr hzi.1) hsh
  have h2 := cmp_q (lentOk_fr hok) hsh
  rw [lent_all] at h1 h2 hzi ⊢
  have hle := lent_wo hk ht (ls.getD i lr0).ow (ls.getD i lr0).fr
  have hno : ¬ (shareL (ledOf hs) (ls.getD i lr0).ow < lentL (ls.getD i lr0).ow (ls.getD i lr0).fr ls) := fun c => by
    have := h1.2 c
    have hz2 := hzi.2
    rw [decide_eq_true this] at hz2
    cases hz2
  have hno2 : ¬ (shareL (ledOf hs) (ls.getD i lr0).ow < lentL (ls.getD i lr0).ow (ls.getD i lr0).fr (wo ls k)) := by grind
  rw [decide_eq_false (fun c => hno2 (h2.1 c))]
  rfl
theorem lz_nil {hs : List Hd} {ls : List Lr} (h : lzB hs ls = true) : lzB hs [] = true := by
  have hv := (lzB_is h).1
  rw [lz_eq hv (by decide) (by rfl)]; rfl
end Go.Proofs.Ytaehemmjemhgpaa
