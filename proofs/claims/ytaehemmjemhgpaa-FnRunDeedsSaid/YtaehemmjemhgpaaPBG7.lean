/- Contracts and facts of functions of this program, in build order. Conditions: those stated in each. -/
import Derived.Test.YtaehemmjemhgpaaPBDeed
import Derived.Test.YtaehemmjemhgpaaPBG1
import Derived.Test.YtaehemmjemhgpaaPBSetI
set_option maxRecDepth 100000
set_option maxHeartbeats 16000000
namespace Go.Proofs.Ytaehemmjemhgpaa
open Go.RowKit
set_option linter.unusedSimpArgs false
set_option linter.unusedVariables false
def rdO : List Hd → List Dd → Option (List Hd)
  | hs, [] => some hs
  | hs, x :: t => if deedB hs x then rdO (rawL (deedL hs x)) t else none
theorem rdO_cons (hs : List Hd) (x : Dd) (t : List Dd) : rdO hs (x :: t) = if deedB hs x then rdO (rawL (deedL hs x)) t else none := by rw [rdO]
def rdB (hs : List Hd) (ds : List Dd) : Bool := vlR hs && (decide (ds.length ≤ 20) && (rdO hs ds).isSome)
def rdL (hs : List Hd) (ds : List Dd) : Led := ledOf ((rdO hs ds).getD [])
theorem rdd_drop {ds : List Dd} {k : Nat} (h : k < ds.length) : ds.drop k = ds.getD k dd0 :: ds.drop (k + 1) := by
  rw [List.drop_eq_getElem_cons h, List.getD_eq_getElem?_getD, List.getElem?_eq_getElem h]; rfl
theorem rdd_stop {hs cur : List Hd} {ds : List Dd} {k : Nat} (hk : k < ds.length) (h : rdO cur (ds.drop k) = rdO hs ds) (hb : deedB cur (ds.getD k dd0) = false) : rdB hs ds = false := by
  rw [rdd_drop hk, rdO_cons, hb] at h
  unfold rdB
  rw [← h]; simp
theorem rdd_next {hs cur : List Hd} {ds : List Dd} {k : Nat} (hk : k < ds.length) (h : rdO cur (ds.drop k) = rdO hs ds) (hb : deedB cur (ds.getD k dd0) = true) : rdO (rawL (deedL cur (ds.getD k dd0))) (ds.drop (k + 1)) = rdO hs ds := by
  rw [rdd_drop hk, rdO_cons, hb, if_pos rfl] at h
  exact h
theorem rdd_end {hs cur : List Hd} {ds : List Dd} {k : Nat} (hk : ds.length ≤ k) (h : rdO cur (ds.drop k) = rdO hs ds) (hv : vlR hs = true) (hl : ds.length ≤ 20) (hc : vlR cur = true) : rdB hs ds = true ∧ rawL (rdL hs ds) = cur := by
  rw [List.drop_eq_nil_of_le hk] at h
  have h : rdO hs ds = some cur := h.symm
  refine ⟨by unfold rdB; rw [h, hv, decide_eq_true hl]; rfl, ?_⟩
  unfold rdL
  rw [h]
  exact (vlR_is hc).1
theorem rdd_no {hs : List Hd} {ds : List Dd} (h : vlR hs = false ∨ 20 < ds.length) : rdB hs ds = false := by
  unfold rdB
  rcases h with h | h
  · rw [h]; rfl
  · rw [decide_eq_false (by omega)]; simp
theorem rdd_valid {hs : List Hd} {ds : List Dd} (h : rdB hs ds = true) : vlR (rawL (rdL hs ds)) = true := by
  have key : ∀ (ds : List Dd) (hs cur : List Hd), vlR hs = true → rdO hs ds = some cur → vlR cur = true := by
    intro ds
    induction ds with
    | nil => intro hs cur hv e; injection e with e; rw [← e]; exact hv
    | cons x t ih =>
      intro hs cur hv e
      rw [rdO_cons] at e
      cases hb : deedB hs x with
      | false => rw [hb] at e; cases e
      | true => rw [hb, if_pos rfl] at e; exact ih _ _ (deed_vl hb) e
  unfold rdB at h
  simp only [Bool.and_eq_true, decide_eq_true_eq] at h
  obtain ⟨cur, hc⟩ := Option.isSome_iff_exists.1 h.2.2
  have hcv := key ds hs cur h.1 hc
  unfold rdL
  rw [hc]
  show vlR (rawL (ledOf cur)) = true
  rw [(vlR_is hcv).1]; exact hcv
/-- impl.RunDeeds -/
theorem iRunDeeds (a : Option Addr) (cap : Nat) (hs : List Hd) (A0 : Option Addr) (capd : Nat) (ds : List Dd) (w : World) (h : IsHs w a hs) (hn : hs.length ≤ 1048576) (hc : hs.length ≤ cap) (hd : IsDds w A0 ds) (hdn : ds.length ≤ 1048576) :
    Calls Try.prog 13 #[.slice a hs.length cap, .slice A0 ds.length capd] w (MoveV w (rdB hs ds) (rdL hs ds)) := by
  obtain ⟨i0, hi0, hz0, hz1, hz2⟩ := info_parts infoH
  have CV := Lib.hid (iVL a cap hs w h hn)
  have HI := Lib.hid h
  have HD0 := Lib.hid hd
  clear h hd
  cases hv : vlR hs with
  | false =>
    have HN := Lib.hid (rdd_no (ds := ds) (.inl hv))
    rw [hv] at CV
    clear hv
    go_enter Try.func13, Try.ntmps13
    go_wp2_with fail
    refine CV.out.mono ?_
    rintro e u ⟨rfl, C⟩
    go_wp2_with fail
    go_returns
    exact move_no _ HN.out C
  | true =>
  rw [hv] at CV
  have HV := Lib.hid hv
  clear hv
  by_cases big : 20 < ds.length
  · have HN := Lib.hid (rdd_no (hs := hs) (.inr big))
    have e1 : decide ((20 : Int) < (ds.length : Int)) = true := decide_eq_true (by omega)
    have e2 : decide (20 < ds.length) = true := decide_eq_true big
    clear big
    go_enter Try.func13, Try.ntmps13
    go_wp2_with fail
    refine CV.out.mono ?_
    rintro e u ⟨rfl, C⟩
    go_wp2_with fail
    go_returns
    exact move_no _ HN.out C
  have e1 : decide ((20 : Int) < (ds.length : Int)) = false := decide_eq_false (by omega)
  have e2 : decide (20 < ds.length) = false := decide_eq_false big
  have HB : Hid (ds.length ≤ 20) := by show _ ≤ _; omega
  clear big
  go_enter Try.func13, Try.ntmps13
  go_wp2_with fail
  refine CV.out.mono ?_
  rintro e u1 ⟨rfl, B1⟩
  go_wp2_with fail
  refine (icopy a cap hs _ (hs_below HI.out B1) hn).mono ?_
  rintro e u2 ⟨v, rfl, O, C⟩
  obtain ⟨b2, c2, rfl, I2, hc2⟩ := own_hs2 O
  have O2 := Lib.hid (own_le O B1.size)
  have B2 := bel_tr B1 C
  clear O C B1
  go_wp2_with fail
  go_loopw [6, 23] (fun ch i wr => ∃ (k : Nat) (cur : List Hd) (b : Option Addr) (c : Nat), k ≤ ds.length ∧ i = .int .i64 k ∧ Value.slice b cur.length c = ch ∧ Hid (OwnH wr w.heap.size (.slice b cur.length c) cur) ∧ Hid (vlR cur = true) ∧ Hid (rdO cur (ds.drop k) = rdO hs ds) ∧ Below w.heap.size w wr) (fun _ i _ => ds.length - (intOf i).toNat)
  case atStart => exact ⟨0, hs, b2, c2, Nat.zero_le _, rfl, rfl, O2, HV, rfl, B2⟩
  case round =>
    clear B2 I2
    obtain ⟨k, cur, b, c, hk, rfl, rfl, HO, HC, HR, hB⟩ := hrel
    by_cases hlt : k < ds.length
    · rcases HD0.out with h0 | ⟨g, o, rfl, hg⟩
      · rw [h0] at hlt; exact absurd hlt (Nat.not_lt_zero _)
      obtain ⟨A, cz, c0, c1, c2, c3, c4, c5, hz, hzn, hzc⟩ := dd_below (hg k hlt) hB
      have HST := Lib.hid (rdd_stop hlt HR.out)
      have HNX := Lib.hid (rdd_next hlt HR.out)
      generalize ds.getD k dd0 = x at c0 c1 c2 c3 c4 c5 hz hzn hzc HST HNX
      obtain ⟨_, _, he, hI, hcc⟩ := own_hs2 HO.out
      injection he with he1 he2 he3
      subst he1 he3
      have hcl := led_le HC.out
      have k0 : (0 : Int) ≤ (k : Int) := by omega
      have k1 : (k : Int) < (ds.length : Int) := by omega
      have E := (Below.refl _ wr).alloc (Nat.le_refl _) (.cells #[.int .i64 x.k, .int .i64 x.o, .int .i64 x.t, .int .i64 x.n, .int .i64 x.d, .slice A x.zs.length cz] 61)
      have CR := Lib.hid (iRunDeed b c cur A cz x _ (hs_below hI E) (by omega) hcc (ints_below hz E) hzn hzc)
      have BE := Lib.hid (bel_tr hB E)
      clear hg hI hz E hB
      obtain ⟨d, hdb⟩ : ∃ d, deedB cur x = d := ⟨_, rfl⟩
      rw [hdb] at CR HST HNX
      cases d with
      | false =>
        go_wp2_with fail
        refine CR.out.mono ?_
        rintro e u ⟨v, rfl, m1, m2, C⟩
        obtain rfl := m1 rfl
        go_wp2_with fail
        go_returns
        exact move_no _ (HST.out (by first | trivial | rfl)) (bel_tr BE.out C)
      | true =>
        go_wp2_with fail
        refine CR.out.mono ?_
        rintro e u ⟨v, rfl, m1, m2, C⟩
        have O3 := m2 rfl
        obtain ⟨b3, c3, rfl, I3, hc3⟩ := own_hs2 O3
        have HO3 := Lib.hid (own_le O3 BE.out.size)
        have HB3 := Lib.hid (bel_tr BE.out C)
        have HV3 := Lib.hid (deed_vl hdb)
        have HR3 := Lib.hid (HNX.out (by first | trivial | rfl))
        clear m1 m2 O3 I3 C
        go_wp2_with fail
        go_roundw
        case rel => exact ⟨k + 1, _, b3, c3, by omega, by go_num, rfl, HO3, HV3, HR3, HB3.out⟩
        case measure => simp [intOf]; omega
    · obtain ⟨r1, r2⟩ := rdd_end (by omega) HR.out HV.out HB.out HC.out
      have HR1 := Lib.hid r1
      have HR2 := Lib.hid r2
      clear r1 r2
      go_wp2_with fail
      go_returns
      exact ⟨_, by rw [HR1.out]; rfl, (fun c => by rw [HR1.out] at c; cases c), (fun _ => by rw [HR2.out]; exact HO.out), hB⟩
/-- spec.RunDeeds -/
theorem sRunDeeds (a : Option Addr) (cap : Nat) (hs : List Hd) (A0 : Option Addr) (capd : Nat) (ds : List Dd) (w : World) (h : IsHs w a hs) (hn : hs.length ≤ 1048576) (hc : hs.length ≤ cap) (hd : IsDds w A0 ds) (hdn : ds.length ≤ 1048576) :
    Calls Try.prog 14 #[.slice a hs.length cap, .slice A0 ds.length capd] w (MoveV w (rdB hs ds) (rdL hs ds)) := by
  obtain ⟨i0, hi0, hz0, hz1, hz2⟩ := info_parts infoH
  have CV := Lib.hid (svl a cap hs w h hn)
  have HI := Lib.hid h
  have HD0 := Lib.hid hd
  clear h hd
  cases hv : vlR hs with
  | false =>
    have HN := Lib.hid (rdd_no (ds := ds) (.inl hv))
    rw [hv] at CV
    clear hv
    go_enter Try.func14, Try.ntmps14
    go_wp2_with fail
    refine CV.out.mono ?_
    rintro e u ⟨rfl, C⟩
    go_wp2_with fail
    go_returns
    exact move_no _ HN.out C
  | true =>
  rw [hv] at CV
  have HV := Lib.hid hv
  clear hv
  by_cases big : 20 < ds.length
  · have HN := Lib.hid (rdd_no (hs := hs) (.inr big))
    have e1 : decide ((20 : Int) < (ds.length : Int)) = true := decide_eq_true (by omega)
    have e2 : decide (20 < ds.length) = true := decide_eq_true big
    clear big
    go_enter Try.func14, Try.ntmps14
    go_wp2_with fail
    refine CV.out.mono ?_
    rintro e u ⟨rfl, C⟩
    go_wp2_with fail
    go_returns
    exact move_no _ HN.out C
  have e1 : decide ((20 : Int) < (ds.length : Int)) = false := decide_eq_false (by omega)
  have e2 : decide (20 < ds.length) = false := decide_eq_false big
  have HB : Hid (ds.length ≤ 20) := by show _ ≤ _; omega
  clear big
  go_enter Try.func14, Try.ntmps14
  go_wp2_with fail
  refine CV.out.mono ?_
  rintro e u1 ⟨rfl, B1⟩
  go_wp2_with fail
  go_loopw [0, 6] (fun ch i wr => ∃ (k : Nat) (cur : List Hd) (b : Option Addr) (c : Nat), k ≤ ds.length ∧ i = .int .i64 k ∧ Value.slice b cur.length c = ch ∧ Hid (IsHs wr b cur ∧ cur.length ≤ c) ∧ Hid (vlR cur = true) ∧ Hid (rdO cur (ds.drop k) = rdO hs ds) ∧ Below w.heap.size w wr) (fun _ i _ => ds.length - (intOf i).toNat)
  case atStart => exact ⟨0, hs, a, cap, Nat.zero_le _, rfl, rfl, ⟨hs_below HI.out B1, hc⟩, HV, rfl, B1⟩
  case round =>
    clear B1
    obtain ⟨k, cur, b, c, hk, rfl, rfl, HO, HC, HR, hB⟩ := hrel
    by_cases hlt : k < ds.length
    · rcases HD0.out with h0 | ⟨g, o, rfl, hg⟩
      · rw [h0] at hlt; exact absurd hlt (Nat.not_lt_zero _)
      obtain ⟨A, cz, c0, c1, c2, c3, c4, c5, hz, hzn, hzc⟩ := dd_below (hg k hlt) hB
      have HST := Lib.hid (rdd_stop hlt HR.out)
      have HNX := Lib.hid (rdd_next hlt HR.out)
      generalize ds.getD k dd0 = x at c0 c1 c2 c3 c4 c5 hz hzn hzc HST HNX
      have hcl := led_le HC.out
      have k0 : (0 : Int) ≤ (k : Int) := by omega
      have k1 : (k : Int) < (ds.length : Int) := by omega
      have CR := Lib.hid (sRunDeed b c cur A cz x wr HO.out.1 (by omega) HO.out.2 hz hzn hzc HC.out)
      have BE := Lib.hid hB
      clear hg hz hB
      obtain ⟨d, hdb⟩ : ∃ d, deedB cur x = d := ⟨_, rfl⟩
      rw [hdb] at CR HST HNX
      cases d with
      | false =>
        go_wp2_with fail
        refine CR.out.mono ?_
        rintro e u ⟨v, rfl, m1, m2, C⟩
        obtain rfl := m1 rfl
        go_wp2_with fail
        go_returns
        exact move_no _ (HST.out (by first | trivial | rfl)) (bel_tr BE.out C)
      | true =>
        go_wp2_with fail
        refine CR.out.mono ?_
        rintro e u ⟨v, rfl, m1, m2, C⟩
        have O3 := m2 rfl
        obtain ⟨b3, c3, rfl, I3, hc3⟩ := own_hs2 O3
        have HB3 := Lib.hid (bel_tr BE.out C)
        have HV3 := Lib.hid (deed_vl hdb)
        have HR3 := Lib.hid (HNX.out (by first | trivial | rfl))
        have HI3 := Lib.hid (And.intro I3 hc3)
        clear m1 m2 O3 I3 C hc3
        go_wp2_with fail
        go_roundw
        case rel => exact ⟨k + 1, _, b3, c3, by omega, by go_num, rfl, HI3, HV3, HR3, HB3.out⟩
        case measure => simp [intOf]; omega
    · obtain ⟨r1, r2⟩ := rdd_end (by omega) HR.out HV.out HB.out HC.out
      have HR1 := Lib.hid r1
      have HR2 := Lib.hid r2
      have hcl := led_le HC.out
      have HRe := Lib.hid ((hs_reads HO.out.1).alloc (Nat.le_refl _) (.cells #[] 91))
      have hbs := hB.size
      clear r1 r2
      go_wp2_with (first | (at_builtin; refine wpList_append_any _ rfl (.tmp 35) (.tmp 36) _ rfl w.heap.size 91 i0 _ 3 24 Try.underlying23 hi0 hz0 hz1 hz2 rfl (by omega) _ 0 [] rfl ⟨rfl, .inr ⟨wr.heap.size, 0, #[], rfl, hbs, Blk.new _ _ _, Nat.le_refl _, by unfold maxLen; omega, rfl, rfl⟩⟩ wr.heap.size b cur.length c (valsH cur) rfl HRe.out (vals_one cur) (by unfold maxLen; omega) (by omega) (by simp; omega) ?_; intro v1 u1 hown1 hg1 hat1))
      go_returns
      refine ⟨v1, by rw [HR1.out]; rfl, (fun c => by rw [HR1.out] at c; cases c), (fun _ => ?_), ?_⟩
      · rw [HR2.out]
        have := hown1
        rw [Nat.zero_add, List.nil_append] at this
        exact this
      · exact (hB.alloc hB.size _).grown hg1 (by simp; omega) (fun q hq => by have e : wr.heap.size = q := Option.some.inj hq; omega)
theorem rdO_app : ∀ (a b : List Dd) (hs : List Hd), rdO hs (a ++ b) = (rdO hs a).bind (fun m => rdO m b) := by
  intro a b
  induction a with
  | nil => intro hs; rfl
  | cons x t ih =>
    intro hs
    rw [List.cons_append, rdO_cons, rdO_cons]
    cases deedB hs x with
    | false => rfl
    | true => exact ih _
theorem rdO_vl : ∀ {ds : List Dd} {hs cur : List Hd}, vlR hs = true → rdO hs ds = some cur → vlR cur = true := by
  intro ds
  induction ds with
  | nil => intro hs cur hv e; injection e with e; rw [← e]; exact hv
  | cons x t ih =>
    intro hs cur hv e
    rw [rdO_cons] at e
    cases hb : deedB hs x with
    | false => rw [hb] at e; cases e
    | true => rw [hb, if_pos rfl] at e; exact ih (deed_vl hb) e
theorem rdB_of {hs cur : List Hd} {ds : List Dd} (hv : vlR hs = true) (hl : ds.length ≤ 20) (h : rdO hs ds = some cur) : rdB hs ds = true ∧ rawL (rdL hs ds) = cur := by
  refine ⟨by unfold rdB; rw [h, hv, decide_eq_true hl]; rfl, ?_⟩
  unfold rdL
  rw [h]
  exact (vlR_is (rdO_vl hv h)).1
theorem rdB_is {hs : List Hd} {ds : List Dd} (h : rdB hs ds = true) : vlR hs = true ∧ ds.length ≤ 20 ∧ ∃ cur, rdO hs ds = some cur := by
  unfold rdB at h
  simp only [Bool.and_eq_true, decide_eq_true_eq] at h
  obtain ⟨cur, hc⟩ := Option.isSome_iff_exists.1 h.2.2
  exact ⟨h.1, h.2.1, cur, hc⟩
/-- first some deeds, then the others -/
theorem rdd_cut {hs : List Hd} {ds : List Dd} (k : Nat) (h : rdB hs ds = true) : rdB hs (ds.take k) = true ∧ rdB (rawL (rdL hs (ds.take k))) (ds.drop k) = true ∧ rawL (rdL (rawL (rdL hs (ds.take k))) (ds.drop k)) = rawL (rdL hs ds) := by
  obtain ⟨hv, hl, cur, hc⟩ := rdB_is h
  have e := rdO_app (ds.take k) (ds.drop k) hs
  rw [List.take_append_drop, hc] at e
  cases hm : rdO hs (ds.take k) with
  | none => rw [hm] at e; cases e
  | some m =>
    rw [hm] at e
    have e : rdO m (ds.drop k) = some cur := e.symm
    obtain ⟨b1, r1⟩ := rdB_of hv (by rw [List.length_take]; omega) hm
    obtain ⟨b2, r2⟩ := rdB_of (rdO_vl hv hm) (by rw [List.length_drop]; omega) e
    rw [r1]
    exact ⟨b1, b2, by rw [r2, (rdB_of hv hl hc).2]⟩
/-- deeds read through a part of a slice -/
theorem dds_take {w : World} {a : Option Addr} {ds : List Dd} (h : IsDds w a ds) (k : Nat) : IsDds w a (ds.take k) := by
  rcases h with h | ⟨g, o, ha, hc⟩
  · left; rw [h]; exact List.take_nil
  · refine .inr ⟨g, o, ha, fun i hi => ?_⟩
    rw [List.length_take] at hi
    have := hc i (by omega)
    rw [List.getD_eq_getElem?_getD, List.getElem?_take_of_lt (by omega), ← List.getD_eq_getElem?_getD]
    exact this
theorem dds_drop {w : World} {g o : Nat} {ds : List Dd} (h : IsDds w (some ⟨g, o, none⟩) ds) (k : Nat) : IsDds w (some ⟨g, o + k * 6, none⟩) (ds.drop k) := by
  rcases h with h | ⟨g', o', ha, hc⟩
  · left; rw [h]; exact List.drop_nil
  · injection ha with ha
    injection ha with e1 e2 _
    subst e1 e2
    refine .inr ⟨g, o + k * 6, rfl, fun i hi => ?_⟩
    rw [List.length_drop] at hi
    have := hc (k + i) (by omega)
    rw [List.getD_eq_getElem?_getD, List.getElem?_drop, ← List.getD_eq_getElem?_getD, show o + k * 6 + i * 6 = o + (k + i) * 6 by omega]
    exact this
end Go.Proofs.Ytaehemmjemhgpaa
