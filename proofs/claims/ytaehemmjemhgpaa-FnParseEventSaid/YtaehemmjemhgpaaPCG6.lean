/- Contracts and facts of functions of this program, in build order. Conditions: those stated in each. -/
import Derived.Test.YtaehemmjemhgpaaPCG0
import Derived.Test.YtaehemmjemhgpaaPCG5
import Derived.Test.YtaehemmjemhgpaaPCInherS
import Derived.Test.YtaehemmjemhgpaaPCG1
import Derived.Test.YtaehemmjemhgpaaPCG3
import Derived.Test.YtaehemmjemhgpaaPCTwC
import Derived.Test.YtaehemmjemhgpaaPCSetI
import Derived.Test.YtaehemmjemhgpaaPCG2
import Derived.Test.YtaehemmjemhgpaaPCEvD1
import Derived.Test.YtaehemmjemhgpaaPCEvD2
import Derived.Test.YtaehemmjemhgpaaPCEvD3
import Derived.Deep.RegionHeld3
import Derived.Deep.RegionWith
import Derived.RegionTactic
import Derived.BigRegion
set_option maxRecDepth 100000
set_option maxHeartbeats 16000000
namespace Go.Proofs.Ytaehemmjemhgpaa
open Go.RowKit
set_option linter.unusedSimpArgs false
set_option linter.unusedVariables false
def deedB (hs : List Hd) (x : Dd) : Bool := if x.k = 0 then selB hs x.o x.t x.n x.d else if x.k = 1 then inhB hs x.o x.zs else if x.k = 2 then joinB hs x.o x.t else false
def deedL (hs : List Hd) (x : Dd) : Led := if x.k = 0 then selL hs x.o x.t x.n x.d else if x.k = 1 then inhL hs x.o x.zs else joinL' hs x.o x.t
theorem sel_vl {hs : List Hd} {fr tt pn pd : Int} (h : selB hs fr tt pn pd = true) : VL (selL hs fr tt pn pd) := by
 unfold selB at h; simp only [Bool.and_eq_true] at h; exact ((sell_iff _ _ _ _).1 h.2).2.2.2.2.2.2
theorem inh_vl {hs : List Hd} {owner : Int} {zs : List Int} (h : inhB hs owner zs = true) : vlR (rawL (inhL hs owner zs)) = true := by
 unfold inhB at h; simp only [Bool.and_eq_true] at h; have := h.2; rw [← vlR_vl] at this; exact this
theorem vl_raw {L : Led} (h : VL L) : vlR (rawL L) = true := by
 rw [vlR_vl]; exact (vl_iff L).2 h
theorem deed_vl {hs : List Hd} {x : Dd} (h : deedB hs x = true) : vlR (rawL (deedL hs x)) = true := by
 unfold deedB at h; unfold deedL
 by_cases h0 : x.k = 0
 ·rw [if_pos h0] at h ⊢; exact vl_raw (sel_vl h)
 ·rw [if_neg h0] at h ⊢
  by_cases h1 : x.k = 1
  ·rw [if_pos h1] at h ⊢; exact inh_vl h
  ·rw [if_neg h1] at h ⊢
   by_cases h2 : x.k = 2
   ·rw [if_pos h2] at h; exact vl_raw (sel_vl h)
   ·rw [if_neg h2] at h; cases h
theorem move_as {w : World} {b b' : Bool} {L L' : Led} {e : Ending} {w' : World} (h : MoveV w b L e w') (hb : b = b') (hL : b' = true → L = L') : MoveV w b' L' e w' := by
 subst hb; obtain ⟨v, he, m1, m2, hB⟩ := h; exact ⟨v, he, m1, fun c => by rw [← hL c]; exact m2 c, hB⟩
theorem move_no {w w' : World} {b : Bool} (L : Led) (hb : b = false) (hB : Below w.heap.size w w') : MoveV w b L (.returned (.tuple #[.slice none 0 0, .bool false])) w' := by
 subst hb; exact ⟨_, rfl, fun _ => rfl, (fun c => by cases c), hB⟩
theorem move_up {w W w' : World} {v : Value} {b : Bool} {L : Led} (hB : Below w.heap.size w W) (m1 : b = false → v = .slice none 0 0) (m2 : b = true → OwnH w' W.heap.size v (rawL L)) (hb : Below W.heap.size W w') : MoveV w b L (.returned (.tuple #[v, .bool b])) w' :=
 ⟨v, rfl, m1, (fun c => own_le (m2 c) hB.size), jq2 hB hb⟩
theorem sRunDeed (a : Option Addr) (cap : Nat) (hs : List Hd) (A : Option Addr) (capz : Nat) (x : Dd) (w : World) (h : IsHs w a hs) (hn : hs.length ≤ 1048576) (hc : hs.length ≤ cap) (hz : jqf w A x.zs) (hzn : x.zs.length ≤ 1048576) (hzc : x.zs.length ≤ capz) (hv : vlR hs = true) :
    Calls Try.prog 57 #[.slice a hs.length cap, .agg #[.int .i64 x.k, .int .i64 x.o, .int .i64 x.t, .int .i64 x.n, .int .i64 x.d, .slice A x.zs.length capz]] w (MoveV w (deedB hs x) (deedL hs x)) := by
  obtain ⟨k, o, t, n, d, zs⟩ := x; dsimp only at hz hzn hzc ⊢
  have B0 : Below w.heap.size w (w.alloc (.cells #[.int .i64 k, .int .i64 o, .int .i64 t, .int .i64 n, .int .i64 d, .slice A zs.length capz] 61)) := by go_grown
  have K := Blk.new w 61 #[.int .i64 k, .int .i64 o, .int .i64 t, .int .i64 n, .int .i64 d, .slice A zs.length capz]; have q0 := K.cell 0; have q1 := K.cell 1; have q2 := K.cell 2; have q3 := K.cell 3; have q4 := K.cell 4; have q5 := K.cell 5
  dsimp at q0 q1 q2 q3 q4 q5
  have HI := Lib.hid (jx3 h B0); have HZ := Lib.hid (jq9 hz B0); have HB := Lib.hid B0; have hV := (vlR_is hv).2; have HVL := Lib.hid hV; have HEq := Lib.hid (led_eq hv); have hle := led_le hv; have HV := Lib.hid hv
  by_cases c0 : k = 0
  · subst c0
    have e2 : Hid (deedL hs ⟨0, o, t, n, d, zs⟩ = soldL (jqa hs) o t (Rat.divInt n d)) := rfl
    cases hf : Wsh.vfB n d with
    | false =>
      have e1 : Hid (deedB hs ⟨0, o, t, n, d, zs⟩ = false) := by show selB hs o t n d = false; unfold selB; rw [hv, hf]; rfl
      have HF := Lib.hid hf; clear h hz B0 hv hV hf; go_enter Try.func57, Try.ntmps57; go_wp2_with fail; refine (vf_boolN HF.out _).mono ?_; rintro e w2 ⟨rfl, hb⟩; go_wp2_with fail
      go_returns
      exact move_no _ e1.out (jq2 HB.out hb)
    | true =>
      have e1 : Hid (deedB hs ⟨0, o, t, n, d, zs⟩ = sellB (jqa hs) o t (Rat.divInt n d)) := by show selB hs o t n d = _; unfold selB; rw [hv, hf]; rfl
      have HF := Lib.hid hf; obtain ⟨f1, f2, f3⟩ := vf_q hf; have HF1 := Lib.hid f1; have HF2 := Lib.hid f2; have HF3 := Lib.hid f3; clear h hz B0 hv hV hf f1 f2 f3; go_enter Try.func57, Try.ntmps57; go_wp2_with fail; refine (vf_boolY HF.out _).mono ?_; rintro e w2 ⟨rfl, hb⟩; have K2 := K.next hb; clear q0 q1 q2 q3 q4 q5; have q0 := K2.cell 0; have q1 := K2.cell 1; have q2 := K2.cell 2; have q3 := K2.cell 3; have q4 := K2.cell 4; have q5 := K2.cell 5
      dsimp at q0 q1 q2 q3 q4 q5
      have HB2 := Lib.hid (jq2 HB.out hb); have HI2 := Lib.hid (jx3 HI.out hb); clear hb; go_wp2_with fail; refine (ssell a cap (jqa hs) hs o t n d (Rat.divInt n d) _ HI2.out HEq.out (by omega) HVL.out.fr HF3.out HF1.out.symm HF2.out.symm).mono ?_; rintro e w4 ⟨v, rfl, m1, m2, hb4⟩; go_wp2_with fail
      go_returns
      exact move_as (move_up HB2.out m1 m2 hb4) e1.out.symm (fun _ => e2.out.symm)
  have d0 : (k == 0) = false := by simpa using c0
  by_cases c1 : k = 1
  · subst c1
    have e1 : Hid (deedB hs ⟨1, o, t, n, d, zs⟩ = inhB hs o zs) := rfl; have e2 : Hid (deedL hs ⟨1, o, t, n, d, zs⟩ = inhL hs o zs) := rfl; clear h hz B0 hv hV c0; go_enter Try.func57, Try.ntmps57; go_wp2_with fail; refine (sinherit a cap hs o A capz zs _ HI.out HV.out HZ.out hzn hzc).mono ?_; rintro e w2 ⟨v, rfl, m1, m2, hb2⟩; go_wp2_with fail
    go_returns
    exact move_as (move_up HB.out m1 m2 hb2) e1.out.symm (fun _ => e2.out.symm)
  have d1 : (k == 1) = false := by simpa using c1
  by_cases c2 : k = 2
  · subst c2
    have hsh : shV hs o = ((jq6 (jqa hs) o).num, ((jq6 (jqa hs) o).den : Int)) := by
      unfold shV; rw [hv]
      conv => lhs; rw [led_eq hv]
      exact shR_raw _ _
    have hfr := share_frA hV.fr o; have hqe : Rat.divInt (jq6 (jqa hs) o).num ((jq6 (jqa hs) o).den : Int) = jq6 (jqa hs) o := q_mk _
    have e1 : Hid (deedB hs ⟨2, o, t, n, d, zs⟩ = sellB (jqa hs) o t (jq6 (jqa hs) o)) := by
      show joinB hs o t = _
      unfold joinB selB; rw [hsh, hv, q_vf hfr, hqe]; rfl
    have e2 : Hid (deedL hs ⟨2, o, t, n, d, zs⟩ = soldL (jqa hs) o t (jq6 (jqa hs) o)) := by
      show joinL' hs o t = _
      unfold joinL' selL; rw [hsh, hqe]
    have HFr := Lib.hid hfr; clear hsh hfr hqe
    have SL := fun (W : World) (hW : IsHs W a hs) => sshareL a cap (jqa hs) hs o W hW HEq.out hn
    obtain ⟨pn, hpn⟩ : ∃ pn, pn = (jq6 (jqa hs) o).num := ⟨_, rfl⟩
    obtain ⟨pd, hpd⟩ : ∃ pd, pd = ((jq6 (jqa hs) o).den : Int) := ⟨_, rfl⟩
    rw [← hpn, ← hpd] at SL; have HPn := Lib.hid hpn; have HPd := Lib.hid hpd; have HSL := Lib.hid SL; clear hpn hpd SL
    have hfd : ∀ w : World, (Instr.field 58 (.agg #[.int .i64 pn, .int .i64 pd]) 0).run Try.prog w = .ok (.int .i64 pn) w := fun _ => by kernel_rfl
    by_cases hz0 : pn = 0
    · have HN : Hid (deedB hs ⟨2, o, t, n, d, zs⟩ = false) := by show _ = _; rw [e1.out]; unfold sellB; rw [(num_zero _).1 (HPn.out.symm.trans hz0)]; simp
      have e0 : (pn == 0) = true := by simpa using hz0
      clear h hz B0 hv hV c0 c1 hz0; go_enter Try.func57, Try.ntmps57; go_wp2_with fail; refine (HSL.out _ HI.out).mono ?_; rintro e w2 ⟨rfl, hb2⟩; go_wp2_with fail
      go_returns
      exact move_no _ HN.out (jq2 HB.out hb2)
    · have e0 : (pn == 0) = false := by simpa using hz0
      clear h hz B0 hv hV c0 c1 hz0; go_enter Try.func57, Try.ntmps57; go_wp2_with fail; refine (HSL.out _ HI.out).mono ?_; rintro e w2 ⟨rfl, hb2⟩; have K2 := K.next hb2; clear q0 q1 q2 q3 q4 q5; have q0 := K2.cell 0; have q1 := K2.cell 1; have q2 := K2.cell 2; have q3 := K2.cell 3; have q4 := K2.cell 4; have q5 := K2.cell 5
      dsimp at q0 q1 q2 q3 q4 q5
      have HB2 := Lib.hid (jq2 HB.out hb2); have HI2 := Lib.hid (jx3 HI.out hb2); clear hb2; go_wp2_with fail; have HMK1 := Lib.hid (fun (W : World) (hW : Below w2.heap.size w2 W) => (⟨⟨(hW.cell (p := ⟨w.heap.size, 1, none⟩) (K2.lt)).trans q1, (hW.cell (p := ⟨w.heap.size, 2, none⟩) (K2.lt)).trans q2⟩, hW⟩ : (W.cell? ⟨w.heap.size, 1, none⟩ = some (.int .i64 o) ∧ W.cell? ⟨w.heap.size, 2, none⟩ = some (.int .i64 t)) ∧ Below w2.heap.size w2 W)); refine wp_region_held_drew (S := (fun w' => (w'.cell? ⟨w.heap.size, 1, none⟩ = some (.int .i64 o) ∧ w'.cell? ⟨w.heap.size, 2, none⟩ = some (.int .i64 t)) ∧ Below w2.heap.size w2 w')) (by kernel_rfl) ?_ (fun hHeld => ?_)
      · exact ⟨⟨q1, q2⟩, (Below.refl _ _).drew⟩
      refine tk (i := 0) (v := ?v1) rfl ?c1 ?d_1
      case c1 => (refine .inl ⟨by rfl, ?_⟩; intro w h; (try dsimp only at h); go_simp <;> with_reducible rfl)
      try simp only [pt]
      refine tk (i := 1) (v := ?v2) rfl ?c2 ?d_2
      case c2 => (refine .inl ⟨by rfl, ?_⟩; intro w h; (try dsimp only at h); go_simp <;> with_reducible rfl)
      try simp only [pt]
      refine tk (i := 2) (v := ?v3) rfl ?c3 ?d_3
      case c3 => (refine .inl ⟨by rfl, ?_⟩; intro w h; (try dsimp only at h); go_simp <;> with_reducible rfl)
      try simp only [pt]
      refine tk (i := 3) (v := ?v4) rfl ?c4 ?d_4
      case c4 => (refine .inl ⟨by rfl, ?_⟩; intro w h; (try dsimp only at h); go_simp <;> with_reducible rfl)
      try simp only [pt]
      refine tk (i := 4) (v := ?v5) rfl ?c5 ?d_5
      case c5 => (refine .inl ⟨by rfl, ?_⟩; intro w h; (try dsimp only at h); go_simp <;> with_reducible rfl)
      try simp only [pt]
      refine tk (i := 5) (v := ?v6) rfl ?c6 ?d_6
      case c6 => (refine .inl ⟨by rfl, ?_⟩; intro w h; (try dsimp only at h); go_simp <;> with_reducible rfl)
      try simp only [pt]
      refine tk (i := 6) (v := ?v7) rfl ?c7 ?d_7
      case c7 => (refine .inl ⟨by rfl, ?_⟩; intro w h; (try dsimp only at h); go_simp <;> with_reducible rfl)
      try simp only [pt]
      refine tk (i := 7) (v := ?v8) rfl ?c8 ?d_8
      case c8 => (refine .inl ⟨by rfl, ?_⟩; intro w h; (try dsimp only at h); go_simp <;> with_reducible rfl)
      try simp only [pt]
      refine wpAnyH_ready (rs := [8]) (by kernel_rfl) (by simp) (AllReadyH.cons (o := ?ooa10_q0) ?hia10_q0 (fun K hK => ?hka10_q0) AllReadyH.nil)
      case hia10_q0 => (simp only [List.getElem?_toArray, List.getElem?_cons_succ, List.getElem?_cons_zero]; rfl)
      case hka10_q0 =>
        (rw [if_pos (by rfl)]; go_simp; refine (HSL.out _ (jx3 HI2.out hHeld.2)).mono ?_; rintro e w3_ ⟨rfl, hb3⟩; go_wp2_with fail; refine hK.out _ _ (HMK1.out _ (jq2 hHeld.2 hb3)) (fun hHeld => ?_); clear hK K)
        try simp only [pt]
        refine wpAnyH_ready (rs := [9]) (by kernel_rfl) (by simp) (AllReadyH.cons (o := ?ooa11_q0) ?hia11_q0 (fun K hK => ?hka11_q0) AllReadyH.nil)
        case hia11_q0 => (simp only [List.getElem?_toArray, List.getElem?_cons_succ, List.getElem?_cons_zero]; rfl)
        case hka11_q0 =>
          (rw [if_pos (by rfl)]; go_simp; refine (ssell a cap (jqa hs) hs o t _ _ (jq6 (jqa hs) o) _ (jx3 HI2.out hHeld.2) HEq.out (by omega) HVL.out.fr HFr.out HPn.out HPd.out).mono ?_; rintro e w4_ ⟨v, rfl, m1, m2, hb4⟩; have HM1 := Lib.hid m1; have HM2 := Lib.hid m2; have HB3 := Lib.hid (jq2 HB2.out hHeld.2); have HB4 := Lib.hid hb4; clear m1 m2; go_wp2_with fail; refine hK.out _ _ (HMK1.out _ (jq2 hHeld.2 hb4)) (fun hHeld => ?_); clear hK K)
          try simp only [pt]
          refine tk (i := 10) (v := ?v9) rfl ?c9 ?d_9
          case c9 => (refine .inl ⟨by rfl, ?_⟩; intro w h; (try dsimp only at h); go_simp <;> with_reducible rfl)
          try simp only [pt]
          refine tk (i := 11) (v := ?va) rfl ?ca ?d_a
          case ca => (refine .inl ⟨by rfl, ?_⟩; intro w h; (try dsimp only at h); go_simp <;> with_reducible rfl)
          try simp only [pt]
          refine tk (i := 12) (v := ?vb) rfl ?cb ?d_b
          case cb => (refine .inl ⟨by rfl, ?_⟩; intro w h; (try dsimp only at h); go_simp <;> with_reducible rfl)
          try simp only [pt]
          refine tk (i := 13) (v := ?vc) rfl ?cc ?d_c
          case cc => (refine .inl ⟨by rfl, ?_⟩; intro w h; (try dsimp only at h); go_simp <;> with_reducible rfl)
          try simp only [pt]
          refine wpAnyH_done (by kernel_rfl) ?_ _; clear HMK1; clear hHeld; go_wp2_with fail
          go_returns
          exact move_as (move_up HB3.out HM1.out HM2.out HB4.out) e1.out.symm (fun _ => e2.out.symm)
  have d2 : (k == 2) = false := by simpa using c2
  have e1 : Hid (deedB hs ⟨k, o, t, n, d, zs⟩ = false) := by show _ = _; unfold deedB; dsimp only; rw [if_neg c0, if_neg c1, if_neg c2]
  clear h hz B0 hv hV c0 c1 c2; go_enter Try.func57, Try.ntmps57; go_wp2_with fail
  go_returns
  exact move_no _ e1.out HB.out
def hourT (t : Tw) (n : Int) : Tw :=
 { t with hd := jjc t.r t.hd (n - jzh t.ns n) t.rt, ac := addA t.ac (whoM t.ts t.tm) (jxj t.hd (n - jzh t.ns n) t.rt), tm := t.tm + 1, ls := t.ls + jzh t.ns n + jxh t.r t.hd (n - jzh t.ns n) t.rt, cm := t.cm + n }
def nextT (t : Tw) (e : Ev) : Option Tw :=
 if e.k = 0 then (if deedB t.hs e.dd then some { t with hs := rawL (deedL t.hs e.dd) } else none)
 else if e.k = 1 then (if tfB t.hs e.nu then some { t with ts := tfL t.hs e.nu } else none)
 else if e.k = 2 then (if swB t.ts e.at_ e.nu then some { t with ts := swL t.ts e.at_ e.nu } else none)
 else if e.k = 3 then (if sgB t.ns e.at_ e.nu then some { t with ns := sgL t.ns e.at_ e.nu } else none)
 else if e.k = 4 then some { t with ns := t.ns ++ [(e.at_, e.nu, 0, 500, 0)] }
 else if e.k = 5 then (if inB3 e.nu 0 500 then some (hourT t e.nu) else none)
 else none
def apT (t : Tw) (e : Ev) : Option Tw :=
 match nextT t e with
 | some u => if twB u then some u else none
 | none => none
def rbT : Tw → List Ev → Option Tw
  | t, [] => some t
  | t, e :: es => match apT t e with
    | some u => rbT u es
    | none => none
theorem ap_some {t u : Tw} {e : Ev} (h : nextT t e = some u) (hv : twB u = true) : apT t e = some u := by unfold apT; rw [h]; simp [hv]
theorem ap_none {t : Tw} {e : Ev} (h : nextT t e = none) : apT t e = none := by unfold apT; rw [h]
theorem ap_bad {t u : Tw} {e : Ev} (h : nextT t e = some u) (hv : twB u = false) : apT t e = none := by unfold apT; rw [h]; simp [hv]
theorem ap_is {t u : Tw} {e : Ev} (h : apT t e = some u) : nextT t e = some u ∧ twB u = true := by
  unfold apT at h
  cases hn : nextT t e with
  | none => rw [hn] at h; cases h
  | some v =>
    rw [hn] at h; dsimp only at h
    cases hv : twB v with
    | false => rw [hv] at h; cases h
    | true => rw [hv] at h; injection h with h; subst h; exact ⟨rfl, hv⟩
theorem rb_nil (t : Tw) : rbT t [] = some t := rfl
theorem rb_cons {t u : Tw} {e : Ev} (es : List Ev) (h : apT t e = some u) : rbT t (e :: es) = rbT u es := by
 show (match apT t e with | some u => rbT u es | none => none) = _
 rw [h]
theorem rb_stop {t : Tw} {e : Ev} (es : List Ev) (h : apT t e = none) : rbT t (e :: es) = none := by
 show (match apT t e with | some u => rbT u es | none => none) = _
 rw [h]
theorem rb_append {es fs : List Ev} : ∀ {t : Tw}, rbT t (es ++ fs) = (rbT t es).bind (fun u => rbT u fs) := by
  induction es with
  | nil => intro t; rfl
  | cons x es ih =>
    intro t
    cases ha : apT t x with
    | none => rw [rb_stop es ha, List.cons_append, rb_stop (es ++ fs) ha]; rfl
    | some v => rw [rb_cons es ha, List.cons_append, rb_cons (es ++ fs) ha, ih]
structure TwOk (t : Tw) : Prop where
 v1 : vlR t.hs = true
 v2 : vtB t.ts = true
 v3 : vnB t.ns = true
 v4 : vbB t.r t.hd = true
 v5 : acB t.ac = true
 v6 : 0 ≤ t.rt ∧ t.rt ≤ 500
 v7 : 0 ≤ t.tm ∧ t.tm ≤ 5000
 v8 : 0 ≤ t.ls ∧ t.ls ≤ 1000000
 v9 : 0 ≤ t.cm ∧ t.cm ≤ 1000000
 v0 : acS t.ac t.ac.length + t.hd + t.ls = t.cm
theorem tw_ok {t : Tw} (h : twB t = true) : TwOk t := by
 unfold twB at h; simp only [Bool.and_eq_true, decide_eq_true_eq] at h; obtain ⟨a, b, c, d, e, f, g, i, j, k⟩ := h; exact ⟨a, b, c, d, e, jxf f, jxf g, jxf i, jxf j, k⟩
theorem inB3_of {n l h : Int} (a : l ≤ n ∧ n ≤ h) : inB3 n l h = true := by unfold inB3; simp [a]
theorem ac_asc {ac : List Ac} (h : acB ac = true) : AscA ac := by
  unfold AscA; rw [List.pairwise_iff_getElem]; intro i j hi hj hij
  have step : ∀ d i : Nat, i + d + 1 < ac.length → (ac.getD i ac0).1 < (ac.getD (i + d + 1) ac0).1 := by
    intro d
    induction d with
    | zero =>
      intro i h1; have := ((okAc_iff ac (i + 1)).1 (acB_at h h1)).2.2.2.2
      rcases this with c | c
      · omega
      · exact c
    | succ d ih =>
      intro i h1; have a := ih i (by omega); have b := ((okAc_iff ac (i + d + 2)).1 (acB_at h (by omega))).2.2.2.2
      rcases b with c | c
      · omega
      · have c' : (ac.getD (i + d + 1) ac0).1 < (ac.getD (i + d + 2) ac0).1 := c
        have : i + (d + 1) + 1 = i + d + 2 := by omega
        rw [this]; omega
  have := step (j - i - 1) i (by omega); rw [show i + (j - i - 1) + 1 = j by omega] at this; rw [List.getD_eq_getElem?_getD, List.getD_eq_getElem?_getD, List.getElem?_eq_getElem hi, List.getElem?_eq_getElem hj] at this; exact this
theorem ac_mem {ac : List Ac} (h : acB ac = true) {a : Ac} (ha : a ∈ ac) : 1 ≤ a.1 ∧ a.1 ≤ 999 ∧ 1 ≤ a.2 ∧ a.2 ≤ 1000000 := by
 obtain ⟨i, hi, rfl⟩ := List.mem_iff_getElem.1 ha; have := (okAc_iff ac i).1 (acB_at h hi); rw [List.getD_eq_getElem?_getD, List.getElem?_eq_getElem hi] at this; exact ⟨this.1, this.2.1, this.2.2.1, this.2.2.2.1⟩
theorem blk_c2 {w : World} {g : Nat} {t : TypeId} {v0 v1 : Value} (h : Blk w g t #[v0, v1]) : w.cell? ⟨g, 0, none⟩ = some v0 ∧ w.cell? ⟨g, 1, none⟩ = some v1 := ⟨h.cell 0, h.cell 1⟩
theorem hour_lost {ns : List Nd} (hv : vnB ns = true) {n : Int} (h : 0 ≤ n ∧ n ≤ 500) : 0 ≤ jzh ns n ∧ jzh ns n ≤ n := by
 have hf : flB ns n = true := by unfold flB; rw [hv, decide_eq_true h.1, decide_eq_true h.2]; rfl
 rw [lost_yes hf]; have a := lost_all hv h; have b := (atSum_bd (c := passF ns n) (passF_all hv h) (leavesTo ns ns.length)).1; have c := (lost_bd hv h ns.length (Nat.le_refl _)).1
 omega
theorem hour_nums {t : Tw} (h : TwOk t) {n : Int} (hn : 0 ≤ n ∧ n ≤ 500) :
  0 ≤ jzh t.ns n ∧ jzh t.ns n ≤ n ∧ stB t.r t.hd (n - jzh t.ns n) t.rt = true ∧ 0 ≤ jxj t.hd (n - jzh t.ns n) t.rt ∧ jxj t.hd (n - jzh t.ns n) t.rt ≤ 500 ∧ 0 ≤ jxh t.r t.hd (n - jzh t.ns n) t.rt ∧ jxh t.r t.hd (n - jzh t.ns n) t.rt ≤ 20500 := by
 obtain ⟨l0, l1⟩ := hour_lost h.v3 hn; obtain ⟨r0, r1, d0, d1⟩ := vb_iff.1 h.v4; obtain ⟨q0, q1⟩ := h.v6; have b := step_bd (room := t.r) (held := t.hd) (c := n - jzh t.ns n) (w := t.rt) ⟨d0, d1⟩ (by omega) q0; refine ⟨l0, l1, stB_yes h.v4 ⟨by omega, by omega⟩ ⟨q0, q1⟩, b.2.2.1, by omega, b.2.2.2.2, ?_⟩; have : jxh t.r t.hd (n - jzh t.ns n) t.rt = t.hd + (n - jzh t.ns n) - jxj t.hd (n - jzh t.ns n) t.rt - jjc t.r t.hd (n - jzh t.ns n) t.rt := rfl
 omega
theorem hour_ac {t : Tw} (h : TwOk t) {g : Int} (hg : 0 ≤ g ∧ g ≤ 500) : ∀ k, k < t.ac.length → -1000000000 ≤ (t.ac.getD k ac0).2 + g ∧ (t.ac.getD k ac0).2 + g ≤ 1000000000 := fun k hk => by
 have := (okAc_iff t.ac k).1 (acB_at h.v5 hk); have b1 := this.2.2.1; have b2 := this.2.2.2.1
 omega
theorem new_cells2 (w : World) (g : Nat) (hg : g = w.heap.size) (cs : List Value) (t : TypeId) : ∀ j u, cs[j]? = some u → (w.alloc (.cells cs.toArray t)).cell? ((⟨g, 0, none⟩ : Addr).add j) = some u := by subst hg; exact jxg w cs t
theorem ownAc_nil (w : World) : OwnAc (w.alloc (.cells #[] 53)) w.heap.size (.slice (some ⟨w.heap.size, 0, none⟩) 0 0) [] := ⟨rfl, .inr ⟨w.heap.size, 0, #[], rfl, Nat.le_refl _, Blk.new _ _ _, Nat.le_refl _, by unfold maxLen; omega, rfl, rfl⟩⟩
theorem ownAc_snoc {w : World} {base : Nat} {v : Value} {X : List Ac} {n : Nat} {z : Ac} (h : w.ownsRow base 53 2 v (n + 1) (jv6 X ++ [.int .i64 z.1, .int .i64 z.2])) (hn : X.length = n) : OwnAc w base v (X ++ [z]) := by
 unfold OwnAc; rw [List.length_append, valsAc_append, hn]; exact h
theorem addA_cons (a : Ac) (t : List Ac) (o u : Int) : addA (a :: t) o u = if u = 0 then a :: t else if o < a.1 then (o, u) :: a :: t else if o = a.1 then (a.1, a.2 + u) :: t else a :: addA t o u := by rw [addA]
theorem addA_nil (o u : Int) : addA [] o u = if u = 0 then [] else [(o, u)] := by rw [addA]
def AddR (ac : List Ac) (o u : Int) (k : Nat) (d : Bool) (X : List Ac) : Prop := (d = true → X ++ ac.drop k = addA ac o u) ∧ (d = false → u ≠ 0 ∧ X ++ addA (ac.drop k) o u = addA ac o u)
theorem addR_start (ac : List Ac) (o u : Int) : AddR ac o u 0 (u == 0) [] := by
 refine ⟨fun h => ?_, fun h => ⟨by simpa using h, by simp⟩⟩
 have : u = 0 := by simpa using h
 subst this; rw [add_zero]; simp
theorem drop_at {ac : List Ac} {k : Nat} (h : k < ac.length) : ac.drop k = ac.getD k ac0 :: ac.drop (k + 1) := by
 rw [List.drop_eq_getElem_cons h, List.getD_eq_getElem?_getD, List.getElem?_eq_getElem h]; rfl
theorem addR_done {ac : List Ac} {o u : Int} {k : Nat} {X : List Ac} (h : AddR ac o u k true X) (hk : k < ac.length) : AddR ac o u (k + 1) true (X ++ [ac.getD k ac0]) := by
 refine ⟨fun _ => ?_, (fun c => by cases c)⟩; have := h.1 rfl; rw [drop_at hk] at this; rw [← this]; simp
theorem addR_ahead {ac : List Ac} {o u : Int} {k : Nat} {X : List Ac} (h : AddR ac o u k false X) (hk : k < ac.length) (hc : o < (ac.getD k ac0).1) : AddR ac o u (k + 1) true (X ++ [(o, u)] ++ [ac.getD k ac0]) := by
 refine ⟨fun _ => ?_, (fun c => by cases c)⟩; obtain ⟨h0, this⟩ := h.2 rfl; rw [drop_at hk, addA_cons, if_neg h0, if_pos hc] at this; rw [← this]; simp
theorem addR_same {ac : List Ac} {o u : Int} {k : Nat} {X : List Ac} (h : AddR ac o u k false X) (hk : k < ac.length) (hc : o = (ac.getD k ac0).1) : AddR ac o u (k + 1) true (X ++ [((ac.getD k ac0).1, (ac.getD k ac0).2 + u)]) := by
 refine ⟨fun _ => ?_, (fun c => by cases c)⟩; obtain ⟨h0, this⟩ := h.2 rfl; rw [drop_at hk, addA_cons, if_neg h0, if_neg (by omega), if_pos hc] at this; rw [← this]; simp
theorem addR_behind {ac : List Ac} {o u : Int} {k : Nat} {X : List Ac} (h : AddR ac o u k false X) (hk : k < ac.length) (hc : ¬ o < (ac.getD k ac0).1) (hd : ¬ o = (ac.getD k ac0).1) : AddR ac o u (k + 1) false (X ++ [ac.getD k ac0]) := by
 refine ⟨(fun c => by cases c), fun _ => ?_⟩; obtain ⟨h0, this⟩ := h.2 rfl; rw [drop_at hk, addA_cons, if_neg h0, if_neg hc, if_neg hd] at this; exact ⟨h0, by rw [← this]; simp⟩
theorem addR_end {ac : List Ac} {o u : Int} {k : Nat} {X : List Ac} (h : AddR ac o u k true X) (hk : ac.length ≤ k) : X = addA ac o u := by
 have := h.1 rfl; rw [List.drop_eq_nil_of_le hk] at this; rw [← this]; simp
theorem addR_last {ac : List Ac} {o u : Int} {k : Nat} {X : List Ac} (h : AddR ac o u k false X) (hk : ac.length ≤ k) : X ++ [(o, u)] = addA ac o u := by
 obtain ⟨h0, this⟩ := h.2 rfl; rw [List.drop_eq_nil_of_le hk, addA_nil, if_neg h0] at this; exact this
theorem ownAc_next {w w' : World} {base : Nat} {v : Value} {X : List Ac} (h : OwnAc w base v X) (hb : Below w.heap.size w w') : OwnAc w' base v X := by
 refine ⟨h.1, ?_⟩
 rcases h.2 with h0 | ⟨g, cap, cur, hv, hg, hb0, r⟩
 ·exact .inl h0
 ·exact .inr ⟨g, cap, cur, hv, hg, (hb.block g (Blk.lt hb0)).trans hb0, r⟩
def OutAc (w : World) (R : List Ac) (e : Ending) (w' : World) : Prop := ∃ v, e = .returned v ∧ OwnAc w' w.heap.size v R ∧ Below w.heap.size w w'
theorem saddTo (a : Option Addr) (cap : Nat) (ac : List Ac) (o u : Int) (w : World) (h : IsAc w a ac) (hn : ac.length ≤ 1048576) (hu : ∀ k, k < ac.length → -1000000000 ≤ (ac.getD k ac0).2 + u ∧ (ac.getD k ac0).2 + u ≤ 1000000000) :
    Calls Try.prog 190 #[.slice a ac.length cap, .int .i64 o, .int .i64 u] w (OutAc w (addA ac o u)) := by
  obtain ⟨i0, hi0, hz0, hz1, hz2⟩ := info_parts infoAc; have HU := Lib.hid hu; clear hu
  have hstart : ∀ b : Bool, (u == 0) = b → AddR ac o u 0 b [] := fun b e => by rw [← e]; exact addR_start ac o u
  obtain ⟨b0, hb0⟩ : ∃ b, (u == 0) = b := ⟨_, rfl⟩
  have HS := Lib.hid (hstart b0 hb0); clear hstart; have hwA : OwnAc (w.alloc (.cells #[] 53)) w.heap.size (.slice (some ⟨w.heap.size, 0, none⟩) 0 0) [] := ownAc_nil w
  rcases h with rfl | ⟨g, og, rfl, hc⟩
  · cases b0 with
    | true =>
      have hr := addR_end HS.out (Nat.le_refl _); have HR : Hid (addA [] o u = []) := hr.symm; clear hr; go_enter Try.func190, Try.ntmps190; go_wp2_with fail; refine wp_loop_rounds 1 ?_; rw [rounds_succ]; go_wp2_with fail; go_ret; exact ⟨_, rfl, by rw [HR.out]; exact hwA, by go_grown⟩
    | false =>
      have hr := addR_last HS.out (Nat.le_refl _); have HR : Hid (addA [] o u = [(o, u)]) := hr.symm; have HBA : Hid (Below w.heap.size w (w.alloc (.cells #[] 53))) := (Below.refl _ w).alloc (Nat.le_refl _) _; have HOA := Lib.hid hwA; clear hr hwA; go_enter Try.func190, Try.ntmps190; go_wp2_with fail; refine wp_loop_rounds 1 ?_; rw [rounds_succ]
      go_wp2_with (first | (at_builtin; refine wpList_append_own _ rfl (.tmp 57) (.tmp 61) _ rfl w.heap.size 53 i0 _ 2 16 Try.underlying47 hi0 hz0 hz1 hz2 rfl (by decide) _ _ _ rfl (World.ownsRow.alloc HOA.out _) ⟨_, 0, none⟩ 1 1 [.int .i64 o, .int .i64 u] rfl rfl (new_cells2 _ _ (by simp) _ _) (jv0 [(o, u)]) (by unfold maxLen; omega) (by omega) (by simp; omega) ?_; intro v2 w2 hown2 hg2 _))
      have hb2 : Below w.heap.size w w2 := (HBA.out.alloc HBA.out.size _).grown hg2 (by have := HBA.out.size; simp; omega) (fun q hq => by have := (World.ownsRow.lt HOA.out q hq).1; omega); go_ret; exact ⟨_, rfl, by rw [HR.out]; exact ownAc_snoc (X := []) (z := (o, u)) hown2 rfl, hb2⟩
  have HC := Lib.hid hc; clear hc; go_enter Try.func190, Try.ntmps190; go_wp2_with fail
  go_loopw [7, 8, 9] (fun r d i wr => ∃ (k : Nat) (b : Bool) (X : List Ac) (v : Value), k ≤ ac.length ∧ i = .int .i64 k ∧ d = .bool b ∧ v = r ∧ OwnAc wr w.heap.size v X ∧ Hid (AddR ac o u k b X) ∧ X.length ≤ k + b.toNat ∧ Below w.heap.size w wr) (fun _ _ i _ => ac.length - (intOf i).toNat)
  case atStart => exact ⟨0, b0, [], _, Nat.zero_le _, rfl, by first | rfl | rw [hb0], rfl, hwA, HS, (Nat.zero_le _ : 0 ≤ _), by go_grown⟩
  case round =>
    obtain ⟨k, b, X, v, hk, rfl, rfl, rfl, hO, hA, hXl, hB⟩ := hrel
    by_cases hlt : k < ac.length
    · obtain ⟨x0, x1⟩ := ac_at HC.out hB hlt
      have HE := Lib.hid (show ac.getD k ac0 = ((ac.getD k ac0).1, (ac.getD k ac0).2) from rfl); have hbd := HU.out k hlt; generalize (ac.getD k ac0).1 = x at x0 HE hbd; generalize (ac.getD k ac0).2 = y at x1 HE hbd
      have hk0 : (0 : Int) ≤ (k : Int) := by omega
      have hk1 : (k : Int) < (ac.length : Int) := by omega
      have KA := Blk.new wr 53 #[.int .i64 x, .int .i64 y]; have HOA := Lib.hid (ownAc_next hO ((Below.refl _ wr).alloc (Nat.le_refl _) (.cells #[.int .i64 x, .int .i64 y] 53))); have HBA := Lib.hid (hB.alloc hB.size (.cells #[.int .i64 x, .int .i64 y] 53))
      have hne : v.ownBlock ≠ some wr.heap.size := fun c => Nat.lt_irrefl _ (World.ownsRow.lt hO _ c).2
      have hsz : (wr.alloc (.cells #[.int .i64 x, .int .i64 y] 53)).heap.size = wr.heap.size + 1 := by simp
      have hsw := hB.size; have HOX := Lib.hid (fun O : Obj => ownAc_next hO ((Below.refl _ wr).alloc (Nat.le_refl _) O)); have HBX := Lib.hid (fun O : Obj => hB.alloc hB.size O); clear hO hB
      cases b with
      | true =>
        have hXl : X.length ≤ k + 1 := hXl; have HR := Lib.hid (addR_done hA hlt); rw [HE.out] at HR; clear hA
        go_wp2_with (first | (at_builtin; refine wpList_append_own _ rfl (.tmp 51) (.tmp 53) _ rfl w.heap.size 53 i0 _ 2 16 Try.underlying47 hi0 hz0 hz1 hz2 rfl (by decide) _ _ _ rfl (World.ownsRow.alloc HOA.out _) ⟨_, 0, none⟩ 1 1 [.int .i64 x, .int .i64 y] rfl rfl (new_cells2 _ _ (by simp) _ _) (jv0 [(x, y)]) (by unfold maxLen; omega) (by omega) (by simp; omega) ?_; intro v2 w2 hown2 hg2 _))
        have hb2 : Below w.heap.size w w2 := (HBA.out.alloc HBA.out.size _).grown hg2 (by have := HBA.out.size; simp; omega) (fun q hq => by have := (World.ownsRow.lt HOA.out q hq).1; omega)
        go_roundw
        case rel => exact ⟨k + 1, _, _, _, by omega, by go_num, rfl, rfl, ownAc_snoc hown2 rfl, HR, by simp; omega, hb2⟩
        case measure => simp [intOf]; omega
      | false =>
        have hXl : X.length ≤ k := hXl
        by_cases h1 : o < x
        · have e1 : decide (o < x) = true := decide_eq_true h1
          have HR := Lib.hid (addR_ahead hA hlt (by rw [HE.out]; exact h1)); rw [HE.out] at HR; clear hA h1
          go_wp2_with (first | (at_builtin; refine wpList_append_own _ rfl (.tmp 32) (.tmp 36) _ rfl w.heap.size 53 i0 _ 2 16 Try.underlying47 hi0 hz0 hz1 hz2 rfl (by decide) _ _ _ rfl (World.ownsRow.alloc HOA.out _) ⟨_, 0, none⟩ 1 1 [.int .i64 o, .int .i64 u] rfl rfl (new_cells2 _ _ (by simp) _ _) (jv0 [(o, u)]) (by unfold maxLen; omega) (by omega) (by simp; omega) ?_; intro v3 w3 hown3 hg3 _; have hb3 : Below w.heap.size w w3 := (HBA.out.alloc HBA.out.size _).grown hg3 (by have := HBA.out.size; simp; omega) (fun q hq => by have := (World.ownsRow.lt HOA.out q hq).1; omega); have hsw3 := hb3.size; have KA3 := (KA.alloc _).grown hg3 (fun c => hne c.symm); have HO3 := Lib.hid (ownAc_snoc (z := (o, u)) hown3 rfl); have hXl3 : (X ++ [(o, u)]).length ≤ 1048578 := (by simp; omega); have q0 := KA3.cell 0; have q1 := KA3.cell 1; dsimp at q0 q1) | (at_builtin; refine wpList_append_own _ rfl (.tmp 51) (.tmp 53) _ rfl w.heap.size 53 i0 _ 2 16 Try.underlying47 hi0 hz0 hz1 hz2 rfl (by decide) _ _ _ rfl (World.ownsRow.alloc HO3.out _) ⟨_, 0, none⟩ 1 1 [.int .i64 x, .int .i64 y] rfl rfl (new_cells2 _ _ (by simp) _ _) (jv0 [(x, y)]) (by unfold maxLen; omega) (by omega) (by simp; omega) ?_; intro v2 w2 hown2 hg2 _))
          have hb2 : Below w.heap.size w w2 := (hb3.alloc hb3.size _).grown hg2 (by have := hb3.size; simp; omega) (fun q hq => by have := (World.ownsRow.lt HO3.out q hq).1; omega)
          go_roundw
          case rel => exact ⟨k + 1, _, _, _, by omega, by go_num, rfl, rfl, ownAc_snoc hown2 rfl, HR, by simp; omega, hb2⟩
          case measure => simp [intOf]; omega
        · have e1 : decide (o < x) = false := decide_eq_false h1
          by_cases h2 : o = x
          · have e2 : (o == x) = true := by simpa using h2
            have HR := Lib.hid (addR_same hA hlt (by rw [HE.out]; exact h2)); rw [HE.out] at HR
            have hwr : IntKind.i64.wrap (y + u) = y + u := by rw [IntKind.wrap_i64]; omega
            clear hA h1 h2; have HOS := Lib.hid (HOX.out (.cells #[.int .i64 x, .int .i64 (y + u)] 53)); have HBS := Lib.hid (HBX.out (.cells #[.int .i64 x, .int .i64 (y + u)] 53))
            go_wp2_with (first | (at_builtin; refine wpList_append_own _ rfl (.tmp 51) (.tmp 53) _ rfl w.heap.size 53 i0 _ 2 16 Try.underlying47 hi0 hz0 hz1 hz2 rfl (by decide) _ _ _ rfl (World.ownsRow.alloc HOS.out _) ⟨_, 0, none⟩ 1 1 [.int .i64 x, .int .i64 (y + u)] rfl rfl (new_cells2 _ _ (by simp) _ _) (jv0 [(x, y + u)]) (by unfold maxLen; omega) (by omega) (by simp; omega) ?_; intro v2 w2 hown2 hg2 _))
            have hb2 : Below w.heap.size w w2 := (HBS.out.alloc HBS.out.size _).grown hg2 (by have := HBS.out.size; simp; omega) (fun q hq => by have := (World.ownsRow.lt HOS.out q hq).1; omega)
            go_roundw
            case rel => exact ⟨k + 1, _, _, _, by omega, by go_num, rfl, rfl, ownAc_snoc hown2 rfl, HR, by simp; omega, hb2⟩
            case measure => simp [intOf]; omega
          · have e2 : (o == x) = false := by simpa using h2
            have HR := Lib.hid (addR_behind hA hlt (by rw [HE.out]; exact h1) (by rw [HE.out]; exact h2)); rw [HE.out] at HR; clear hA h1 h2
            go_wp2_with (first | (at_builtin; refine wpList_append_own _ rfl (.tmp 51) (.tmp 53) _ rfl w.heap.size 53 i0 _ 2 16 Try.underlying47 hi0 hz0 hz1 hz2 rfl (by decide) _ _ _ rfl (World.ownsRow.alloc HOA.out _) ⟨_, 0, none⟩ 1 1 [.int .i64 x, .int .i64 y] rfl rfl (new_cells2 _ _ (by simp) _ _) (jv0 [(x, y)]) (by unfold maxLen; omega) (by omega) (by simp; omega) ?_; intro v2 w2 hown2 hg2 _))
            have hb2 : Below w.heap.size w w2 := (HBA.out.alloc HBA.out.size _).grown hg2 (by have := HBA.out.size; simp; omega) (fun q hq => by have := (World.ownsRow.lt HOA.out q hq).1; omega)
            go_roundw
            case rel => exact ⟨k + 1, _, _, _, by omega, by go_num, rfl, rfl, ownAc_snoc hown2 rfl, HR, by simp; omega, hb2⟩
            case measure => simp [intOf]; omega
    · cases b with
      | true =>
        have HR := Lib.hid (addR_end hA (by omega)); have HO := Lib.hid hO; clear hA hO; go_wp2_with fail; go_ret; exact ⟨_, rfl, by rw [← HR.out]; exact HO.out, hB⟩
      | false =>
        have HR := Lib.hid (addR_last hA (by omega)); have HOA := Lib.hid hO; have HBA := Lib.hid hB; have hsw := hB.size; have hXl : X.length ≤ k := hXl; clear hA hO
        go_wp2_with (first | (at_builtin; refine wpList_append_own _ rfl (.tmp 57) (.tmp 61) _ rfl w.heap.size 53 i0 _ 2 16 Try.underlying47 hi0 hz0 hz1 hz2 rfl (by decide) _ _ _ rfl (World.ownsRow.alloc HOA.out _) ⟨_, 0, none⟩ 1 1 [.int .i64 o, .int .i64 u] rfl rfl (new_cells2 _ _ (by simp) _ _) (jv0 [(o, u)]) (by unfold maxLen; omega) (by omega) (by simp; omega) ?_; intro v2 w2 hown2 hg2 _))
        have hb2 : Below w.heap.size w w2 := (HBA.out.alloc HBA.out.size _).grown hg2 (by have := HBA.out.size; simp; omega) (fun q hq => by have := (World.ownsRow.lt HOA.out q hq).1; omega); go_ret; exact ⟨_, rfl, by rw [← HR.out]; exact ownAc_snoc (z := (o, u)) hown2 rfl, hb2⟩



theorem three (w : World) (tA tE tR : TypeId) (a e r : Array Value) : ∃ y, y = ((w.alloc (.cells a tA)).alloc (.cells e tE)).alloc (.cells r tR) ∧ Blk y w.heap.size tA a ∧ Blk y (w.heap.size + 1) tE e ∧ Blk y (w.heap.size + 1 + 1) tR r ∧ Below w.heap.size w y := by
 refine ⟨_, rfl, ((Blk.new w tA a).alloc _).alloc _, ?_, ?_, by go_grown⟩
 ·have := (Blk.new (w.alloc (.cells a tA)) tE e).alloc (.cells r tR)
  rw [World.size_alloc] at this; exact this
 ·have := Blk.new ((w.alloc (.cells a tA)).alloc (.cells e tE)) tR r
  rw [World.size_alloc, World.size_alloc] at this; exact this
theorem flN {w w' : World} {g : Nat} {t : TypeId} {zs : List Int} (h : Flat w g t zs) (hb : Below w.heap.size w w') : Flat w' g t zs := h.next hb
theorem flat_ty {w : World} {g b : Nat} {t t' : TypeId} {zs : List Int} {cs : Array Value} (h : Flat w g t zs) (K : Blk w b t' cs) (hne : t' ≠ t) : g ≠ b := by
 obtain ⟨c, hc, _⟩ := h; exact blk_type K hc hne
theorem flS {w : World} {g b : Nat} {t t' : TypeId} {zs : List Int} {cs : Array Value} (h : Flat w g t zs) (K : Blk w b t' cs) (hne : t' ≠ t) (j : Nat) (x : Value) : Flat (w.setCell ⟨b, j, none⟩ x) g t zs := jj8 h (flat_ty h K hne)
theorem flX {w : World} {g b : Nat} {t t' : TypeId} {zs : List Int} {cs : Array Value} {v0 v1 v2 v3 v4 v5 v6 v7 v8 v9 : Value} (h : Flat w g t zs) (K : Blk w b t' cs) (hne : t' ≠ t) : Flat (jqg w b v0 v1 v2 v3 v4 v5 v6 v7 v8 v9) g t zs := sets10_flat h (flat_ty h K hne)
theorem lS {w y : World} {g b j : Nat} {t t' : TypeId} {zs : List Int} {cs : Array Value} {x : Value} (h : Flat w g t zs) (K : Blk w b t' cs) (hy : y = w.setCell ⟨b, j, none⟩ x) (hne : t' ≠ t) : Flat y g t zs := by subst hy; exact flS h K hne j x
theorem X10l {w y : World} {g b : Nat} {t t' : TypeId} {zs : List Int} {cs : Array Value} {v0 v1 v2 v3 v4 v5 v6 v7 v8 v9 : Value} (h : Flat w g t zs) (K : Blk w b t' cs) (hy : y = jqg w b v0 v1 v2 v3 v4 v5 v6 v7 v8 v9) (hne : t' ≠ t) : Flat y g t zs := by subst hy; exact flX h K hne



def evV (A : Option Addr) (cz : Nat) (x : Ev) : Value := .agg #[.int .i64 x.k, .int .i64 x.dd.k, .int .i64 x.dd.o, .int .i64 x.dd.t, .int .i64 x.dd.n, .int .i64 x.dd.d, .slice A x.dd.zs.length cz, .int .i64 x.at_, .int .i64 x.nu]
theorem RowF.off1 {w w' : World} {base n : Nat} {t : TypeId} {v : Value} {zs : List Int} {S : Nat → Prop} (h : RowF w base t v n zs) (hO : OffW w w' S) (hS : ∀ q cs, w.heap[q]? = some (Obj.cells cs t (0, 0)) → ¬ S q) : RowF w' base t v n zs := by
 rcases h with h | ⟨g, cap, hv, hg, F, hc⟩
 ·exact .inl h
 ·obtain ⟨cs, hcs, _⟩ := F
  exact .inr ⟨g, cap, hv, hg, Flat.of_block ⟨cs, hcs, by assumption⟩ (hO.block g (Blk.lt hcs) (hS g cs hcs)), hc⟩
theorem asc_len : ∀ (l : List Ac) (m : Int), (∀ a ∈ l, m < a.1 ∧ a.1 ≤ 999) → AscA l → m ≤ 999 → (l.length : Int) ≤ 999 - m := by
  intro l
  induction l with
  | nil => intro m _ _ hm; simp; omega
  | cons a t ih =>
    intro m h hp hm; have h1 := h a (by simp); have hp' : (∀ b ∈ t, a.1 < b.1) ∧ AscA t := List.pairwise_cons.1 hp; have := ih a.1 (fun b hb => ⟨hp'.1 b hb, (h b (by simp [hb])).2⟩) hp'.2 h1.2; rw [List.length_cons]
    omega
theorem acc_len {t : Tw} (h : twB t = true) : t.ac.length ≤ 999 := by
 have V := tw_ok h; have := asc_len t.ac 0 (fun a ha => by have := ac_mem V.v5 ha; omega) (ac_asc V.v5) (by omega)
 omega
theorem OffW.set1 (w : World) (b j : Nat) (v : Value) : OffW w (w.setCell ⟨b, j, none⟩ v) (fun q => q = b) :=
 ⟨rfl, rfl, rfl, by rw [World.size_setCell]; exact Nat.le_refl _, fun i hi hn => Below.heap_setCell w ⟨b, j, none⟩ v i hn⟩
theorem sets10_offW (w : World) (b : Nat) (v0 v1 v2 v3 v4 v5 v6 v7 v8 v9 : Value) : OffW w (jqg w b v0 v1 v2 v3 v4 v5 v6 v7 v8 v9) (fun q => q = b) := by
 unfold jqg; exact (((((((((OffW.set1 w b 0 v0).trans (OffW.set1 _ b 1 v1)).trans (OffW.set1 _ b 2 v2)).trans (OffW.set1 _ b 3 v3)).trans (OffW.set1 _ b 4 v4)).trans (OffW.set1 _ b 5 v5)).trans (OffW.set1 _ b 6 v6)).trans (OffW.set1 _ b 7 v7)).trans (OffW.set1 _ b 8 v8)).trans (OffW.set1 _ b 9 v9)
theorem TwO.offK {w w' : World} {base b : Nat} {p : TA} {t : Tw} {cs : Array Value} (h : TwO w base p t) (K : Blk w b 49 cs) (hO : OffW w w' (fun q => q = b)) : TwO w' base p t := by
 have far : ∀ (T : TypeId), 49 ≠ T → ∀ q cs, w.heap[q]? = some (Obj.cells cs T (0, 0)) → ¬ q = b := fun T hT q cs hq => blk_type K hq hT
 exact ⟨h.o1.off1 hO (far _ (by decide)), h.n1, h.o2.off1 hO (far _ (by decide)), h.n2, h.o3.off1 hO (far _ (by decide)), h.n3, h.o4.off1 hO (far _ (by decide)), h.n4⟩
theorem tw_nums {t : Tw} (h : twB t = true) : (0 ≤ t.hd ∧ t.hd ≤ 20000) ∧ (0 ≤ t.ls ∧ t.ls ≤ 1000000) ∧ (0 ≤ t.cm ∧ t.cm ≤ 1000000) := by
 unfold twB at h; simp only [Bool.and_eq_true] at h; have v := vb_iff.1 h.2.2.2.1; exact ⟨by omega, jxf h.2.2.2.2.2.2.2.1, jxf h.2.2.2.2.2.2.2.2.1⟩
theorem can_k {e : Ev} (h : evW e ≠ []) : (canE e).k = e.k := by
 rcases (ev_kinds e h).1 with c | c | c | c | c | c <;> (unfold canE; rw [c]; rfl)
theorem sreadE (a : Option Addr) (cap : Nat) (L : List ByteArray) (w : World) (h : IsStr w a L) (hL : L ≠ []) (hz : ∀ l ∈ L, l.size ≤ 4294967296) (hl : L.length ≤ 1048577) (hc_ : L.length ≤ cap) :
    Calls Try.prog 149 #[.slice a L.length cap] w (OutRM w (rdM L)) := by
  have B := (Below.refl w.heap.size w).alloc (Nat.le_refl _) (.cells #[.int .i64 0, .int .i64 0, .int .i64 0, .int .i64 0, .int .i64 0, .int .i64 0, .slice none 0 0, .int .i64 0, .int .i64 0] 63); have K := Blk.new w 63 #[.int .i64 0, .int .i64 0, .int .i64 0, .int .i64 0, .int .i64 0, .int .i64 0, .slice none 0 0, .int .i64 0, .int .i64 0]
  obtain ⟨U, hU⟩ : ∃ U, U = w.alloc (.cells #[.int .i64 0, .int .i64 0, .int .i64 0, .int .i64 0, .int .i64 0, .int .i64 0, .slice none 0 0, .int .i64 0, .int .i64 0] 63) := ⟨_, rfl⟩
  have hI := str_below h ((Below.refl w.heap.size w).alloc (Nat.le_refl _) (.cells #[.int .i64 0, .int .i64 0, .int .i64 0, .int .i64 0, .int .i64 0, .int .i64 0, .slice none 0 0, .int .i64 0, .int .i64 0] 63)); rw [← hU] at B K hI; have HU := Lib.hid hU; have hkw : kw L = (L.getD 0 tE).data.toList := rfl; clear hU
  rcases h with e | ⟨g, o_, rfl, hc0⟩
  · exact absurd e hL
  have hp0 := List.length_pos_iff.2 hL; have hgw : g < w.heap.size := World.block_lt_of_cell? w _ (hc0 0 hp0)
  have hc : ∀ i, i < L.length → U.cell? ⟨g, o_ + i, none⟩ = some (.string (L.getD i tE)) := fun i hi => by
    rcases hI with e | ⟨g', o', e, h'⟩
    · exact absurd e hL
    · injection e with e; injection e with e1 e2; subst e1 e2; exact h' i hi
  have CS := Lib.hid (sreadSell (some ⟨g, o_, none⟩) cap L U hI hz)
  have CN := Lib.hid (snumbers (some ⟨g, o_ + 1, none⟩) (cap - 1) (L.drop 1) U (.inr ⟨g, o_ + 1, rfl, fun i hi => by
    have hi2 : i + 1 < L.length := by simp at hi; omega
    have := hc (i + 1) hi2
    rw [show o_ + 1 + i = o_ + (i + 1) from by omega, this, List.getD_eq_getElem?_getD, List.getD_eq_getElem?_getD, List.getElem?_drop, Nat.add_comm 1 i]⟩) (fun l hl => hz l (List.mem_of_mem_drop hl)) (by simp; omega))
  have c0 := hc 0 hp0; rw [Nat.add_zero] at c0
  have hp : (0 : Int) < (L.length : Int) := by omega
  have hp1 : (1 : Int) ≤ (L.length : Int) := by omega
  have hlc : (L.length : Int) ≤ (cap : Int) := by omega
  have hdl : (L.drop 1).length = L.length - 1 := by simp
  clear hI hc hc0
  by_cases k0 : kw L = jzc
  · have CSS := CS.out k0
    have hk0 := k0; rw [hkw] at k0; have t0 : ((L.getD 0 tE).toList == [115, 101, 108, 108]) = true := jja _ jzc k0; clear CS CN hkw k0 hdl; generalize L.getD 0 tE = A at *; generalize hR : rdM L = R at *; clear hk0 hR; go_enter Try.func149, Try.ntmps149
    go_wp2_with (first | (show wpList _ _ _ _ _ (World.alloc _ _); rw [← HU.out]))
    refine CSS.mono ?_; rintro e U2 ⟨A2, cz, x, hor, rfl, I, hA, hcz, hxl, C⟩; have KH := Lib.hid (K.next C); have HB := Lib.hid (jq2 B C); have hg2 : w.heap.size < U2.heap.size := KH.out.lt; have HI := Lib.hid I; have HOR := Lib.hid hor; have hs0 := C.size; have hUw := K.lt; have HA := Lib.hid (fun g o s (e : A2 = some ⟨g, o, s⟩) => (show w.heap.size ≤ g by have := hA g o s e; omega)); have HA2 := Lib.hid (fun g o s (e : A2 = some ⟨g, o, s⟩) => (show g ≠ w.heap.size by have := hA g o s e; omega)); obtain ⟨k, ⟨dk, o, t, n, d, zs⟩, at_, nu⟩ := x; dsimp only at HI hcz hxl; clear C K B I hor c0 hA
    obtain ⟨y1, hy⟩ : ∃ Y_, Y_ = jzd U2 w.heap.size (.int .i64 k) (.int .i64 dk) (.int .i64 o) (.int .i64 t) (.int .i64 n) (.int .i64 d) (.slice A2 zs.length cz) (.int .i64 at_) (.int .i64 nu) := ⟨_, rfl⟩
    have KF := jq7 (v0 := .int .i64 k) (v1 := .int .i64 dk) (v2 := .int .i64 o) (v3 := .int .i64 t) (v4 := .int .i64 n) (v5 := .int .i64 d) (v6 := .slice A2 zs.length cz) (v7 := .int .i64 at_) (v8 := .int .i64 nu) KH.out; rw [← hy] at KF; obtain ⟨z0, z1, z2, z3, z4, z5, z6, z7, z8⟩ := jq4 KF; have BF := Lib.hid (show Below w.heap.size w y1 by subst hy; exact jqb HB.out (Nat.le_refl _)); have IF := Lib.hid (ints_far9 HI.out KH.out HA2.out hy); have HY := Lib.hid hy; clear KF hy
    go_wp2_with (first | (show wpList _ _ _ ({ dst := _, op := Op.store _ _ _, type := _, pos := _, after := _, guard := _ } :: _) _ _; refine jq5 rfl _ _ _ rfl w.heap.size (.int .i64 k) (.int .i64 dk) (.int .i64 o) (.int .i64 t) (.int .i64 n) (.int .i64 d) (.slice A2 zs.length cz) (.int .i64 at_) (.int .i64 nu) rfl rfl KH.out (by kernel_rfl) rfl ?_; rw [← HY.out]))
    refine bodyPost_ret (v := .tuple #[.agg #[.int .i64 k, .int .i64 dk, .int .i64 o, .int .i64 t, .int .i64 n, .int .i64 d, .slice A2 zs.length cz, .int .i64 at_, .int .i64 nu], .bool R.isSome]) (by simp [results, Try.results149, go_sem, z0, z1, z2, z3, z4, z5, z6, z7, z8]) rfl ⟨A2, cz, ⟨k, ⟨dk, o, t, n, d, zs⟩, at_, nu⟩, HOR.out, rfl, IF.out, HA.out, hcz, hxl, BF.out⟩
  have hk0 := k0; rw [hkw] at k0; have t0 : ((L.getD 0 tE).toList == [115, 101, 108, 108]) = false := jqd _ jzc k0; clear CS k0
  by_cases hcap : cap = 1
  · subst hcap
    have hn1 : L.length = 1 := by omega
    have hd : L.drop 1 = [] := List.drop_eq_nil_of_le (by omega); have HX := Lib.hid (rdM_nil hk0 (by rw [hd]; rfl)); have CN1 := snumbers (some ⟨g, o_, none⟩) 0 [] U (.inl rfl) (fun l hl => by cases hl) (by simp)
    have CN3 : Calls Try.prog 174 #[.slice (some ⟨g, o_, none⟩) 0 0] U fun e w' => ∃ v, e = .returned (.tuple #[v, .bool true]) ∧ OwnI w' U.heap.size v [] ∧ Below U.heap.size U w' := CN1.mono (fun e w' h => by
      obtain ⟨v, rfl, h1, _, h3⟩ := h
      exact ⟨v, rfl, h1 rfl, h3⟩)
    rw [hn1] at hp hp1 hlc; generalize L.getD 0 tE = A at *; generalize hR : rdM L = R at *; rw [hn1]; clear hkw hk0 hd CN CN1 hn1 hdl hR hl hc_ hp0 hz hL; go_enter Try.func149, Try.ntmps149
    go_wp2_with (first | (show wpList _ _ _ _ _ (World.alloc _ _); rw [← HU.out]))
    refine CN3.mono ?_; rintro e U2 ⟨v, rfl, O, C⟩; obtain ⟨b, cz, rfl, _⟩ := O.ints; have KH := Lib.hid (K.next C); have HB := Lib.hid (jq2 B C); clear C K B c0 O
    obtain ⟨y1, hy⟩ : ∃ Y_, Y_ = jzd U2 w.heap.size (.int .i64 0) (.int .i64 0) (.int .i64 0) (.int .i64 0) (.int .i64 0) (.int .i64 0) (.slice none 0 0) (.int .i64 0) (.int .i64 0) := ⟨_, rfl⟩
    have KF := jq7 (v0 := .int .i64 0) (v1 := .int .i64 0) (v2 := .int .i64 0) (v3 := .int .i64 0) (v4 := .int .i64 0) (v5 := .int .i64 0) (v6 := .slice none 0 0) (v7 := .int .i64 0) (v8 := .int .i64 0) KH.out; rw [← hy] at KF; obtain ⟨z0, z1, z2, z3, z4, z5, z6, z7, z8⟩ := jq4 KF; have BF := Lib.hid (show Below w.heap.size w y1 by subst hy; exact jqb HB.out (Nat.le_refl _)); have HY := Lib.hid hy; clear KF hy
    go_wp2_with (first | (show wpList _ _ _ ({ dst := _, op := Op.store _ _ _, type := _, pos := _, after := _, guard := _ } :: _) _ _; refine jq5 rfl _ _ _ rfl w.heap.size (.int .i64 0) (.int .i64 0) (.int .i64 0) (.int .i64 0) (.int .i64 0) (.int .i64 0) (.slice none 0 0) (.int .i64 0) (.int .i64 0) rfl rfl KH.out (by kernel_rfl) rfl ?_; rw [← HY.out]))
    refine bodyPost_ret (v := .tuple #[.agg #[.int .i64 0, .int .i64 0, .int .i64 0, .int .i64 0, .int .i64 0, .int .i64 0, .slice none 0 0, .int .i64 0, .int .i64 0], .bool false]) (by simp [results, Try.results149, go_sem, z0, z1, z2, z3, z4, z5, z6, z7, z8]) rfl (by rw [HX.out]; exact jv3 BF.out)
  have CN2 := CN.out; rw [hdl] at CN2; clear CN hdl; generalize hn : L.length = n at *; have HN := Lib.hid hn; clear hn
  cases hall : (numL (L.drop 1)).all nnB with
  | false =>
    have HX := Lib.hid (rdM_bad hk0 hall); generalize L.getD 0 tE = A at *; clear hkw hk0; go_enter Try.func149, Try.ntmps149
    go_wp2_with (first | (show wpList _ _ _ _ _ (World.alloc _ _); rw [← HU.out]))
    refine CN2.mono ?_; rintro e U2 ⟨v, rfl, _, hnil, C⟩; rw [hnil hall, hall]; have KH := Lib.hid (K.next C); have HB := Lib.hid (jq2 B C); have hwU := K.lt; clear C K B c0 hnil hall
    obtain ⟨y1, hy⟩ : ∃ Y_, Y_ = jzd U2 w.heap.size (.int .i64 0) (.int .i64 0) (.int .i64 0) (.int .i64 0) (.int .i64 0) (.int .i64 0) (.slice none 0 0) (.int .i64 0) (.int .i64 0) := ⟨_, rfl⟩
    have KF := jq7 (v0 := .int .i64 0) (v1 := .int .i64 0) (v2 := .int .i64 0) (v3 := .int .i64 0) (v4 := .int .i64 0) (v5 := .int .i64 0) (v6 := .slice none 0 0) (v7 := .int .i64 0) (v8 := .int .i64 0) KH.out; rw [← hy] at KF; obtain ⟨z0, z1, z2, z3, z4, z5, z6, z7, z8⟩ := jq4 KF; have BF := Lib.hid (show Below w.heap.size w y1 by subst hy; exact jqb HB.out (Nat.le_refl _)); have HY := Lib.hid hy; clear KF hy
    go_wp2_with (first | (show wpList _ _ _ ({ dst := _, op := Op.store _ _ _, type := _, pos := _, after := _, guard := _ } :: _) _ _; refine jq5 rfl _ _ _ rfl w.heap.size (.int .i64 0) (.int .i64 0) (.int .i64 0) (.int .i64 0) (.int .i64 0) (.int .i64 0) (.slice none 0 0) (.int .i64 0) (.int .i64 0) rfl rfl KH.out (by kernel_rfl) rfl ?_; rw [← HY.out]))
    refine bodyPost_ret (v := .tuple #[.agg #[.int .i64 0, .int .i64 0, .int .i64 0, .int .i64 0, .int .i64 0, .int .i64 0, .slice none 0 0, .int .i64 0, .int .i64 0], .bool false]) (by simp [results, Try.results149, go_sem, z0, z1, z2, z3, z4, z5, z6, z7, z8]) rfl (by rw [HX.out]; exact jv3 BF.out)
  | true =>
    have HAL := Lib.hid hall
    obtain ⟨zs, hzs⟩ : ∃ zs, numL (L.drop 1) = zs := ⟨_, rfl⟩
    have hzl : zs.length ≤ 1048576 := by rw [← hzs, num_len, List.length_drop, HN.out]; omega
    have CN3 : Calls Try.prog 174 #[.slice (some ⟨g, o_ + 1, none⟩) (n - 1) (cap - 1)] U fun e w' => ∃ v, e = .returned (.tuple #[v, .bool true]) ∧ OwnI w' U.heap.size v zs ∧ Below U.heap.size U w' := CN2.mono (fun e w' h => by
      obtain ⟨v, rfl, h1, _, h3⟩ := h
      exact ⟨v, by rw [hall], by rw [← hzs]; exact h1 hall, h3⟩)
    have HZS := Lib.hid hzs; have hwU := K.lt; clear CN2 hall hzs
    by_cases hm0 : zs.length = 0
    · obtain rfl := List.eq_nil_of_length_eq_zero hm0
      have HX := Lib.hid (rdM_nil hk0 HZS.out); generalize L.getD 0 tE = A at *; clear hkw hk0 hm0; go_enter Try.func149, Try.ntmps149
      go_wp2_with (first | (show wpList _ _ _ _ _ (World.alloc _ _); rw [← HU.out]))
      refine CN3.mono ?_; rintro e U2 ⟨v, rfl, O, C⟩; obtain ⟨b, cz, rfl, _⟩ := O.ints; have KH := Lib.hid (K.next C); have HB := Lib.hid (jq2 B C); clear C K B c0 O
      obtain ⟨y1, hy⟩ : ∃ Y_, Y_ = jzd U2 w.heap.size (.int .i64 0) (.int .i64 0) (.int .i64 0) (.int .i64 0) (.int .i64 0) (.int .i64 0) (.slice none 0 0) (.int .i64 0) (.int .i64 0) := ⟨_, rfl⟩
      have KF := jq7 (v0 := .int .i64 0) (v1 := .int .i64 0) (v2 := .int .i64 0) (v3 := .int .i64 0) (v4 := .int .i64 0) (v5 := .int .i64 0) (v6 := .slice none 0 0) (v7 := .int .i64 0) (v8 := .int .i64 0) KH.out; rw [← hy] at KF; obtain ⟨z0, z1, z2, z3, z4, z5, z6, z7, z8⟩ := jq4 KF; have BF := Lib.hid (show Below w.heap.size w y1 by subst hy; exact jqb HB.out (Nat.le_refl _)); have HY := Lib.hid hy; clear KF hy
      go_wp2_with (first | (show wpList _ _ _ ({ dst := _, op := Op.store _ _ _, type := _, pos := _, after := _, guard := _ } :: _) _ _; refine jq5 rfl _ _ _ rfl w.heap.size (.int .i64 0) (.int .i64 0) (.int .i64 0) (.int .i64 0) (.int .i64 0) (.int .i64 0) (.slice none 0 0) (.int .i64 0) (.int .i64 0) rfl rfl KH.out (by kernel_rfl) rfl ?_; rw [← HY.out]))
      refine bodyPost_ret (v := .tuple #[.agg #[.int .i64 0, .int .i64 0, .int .i64 0, .int .i64 0, .int .i64 0, .int .i64 0, .slice none 0 0, .int .i64 0, .int .i64 0], .bool false]) (by simp [results, Try.results149, go_sem, z0, z1, z2, z3, z4, z5, z6, z7, z8]) rfl (by rw [HX.out]; exact jv3 BF.out)
    have hm1 : ¬ (zs.length : Int) = 0 := by omega
    by_cases jzb : kw L = jzb
    · have kk := jzb
      rw [hkw] at kk
      by_cases hm : zs.length = 2
      · obtain ⟨m0_, m1_, rfl⟩ : ∃ m0_ m1_, zs = [m0_, m1_] := by
          match zs, hm with
          | [m0_, m1_], _ => exact ⟨_, _, rfl⟩
        exact rdE_Join cap n g o_ _ w U L m0_ m1_ HU K B hgw hcap hp hp1 hlc c0 t0 CN3 hzl hm1 kk (Lib.hid (rdM_Join hk0 HAL.out HZS.out jzb))
      · exact rdE_JoinN cap n g o_ _ w U L zs HU K B hgw hcap hp hp1 hlc c0 t0 CN3 hzl hm1 kk (by omega) (Lib.hid (rdM_JoinN hk0 (by rw [HZS.out]; exact hm) jzb))
    by_cases kInh : kw L = kInh
    · have kk := kInh
      rw [hkw] at kk
      obtain ⟨m0_, r, rfl⟩ : ∃ m0_ r, zs = m0_ :: r := by
        match zs, hm0 with
        | m0_ :: r, _ => exact ⟨_, _, rfl⟩
      exact rdE_Inh cap n g o_ _ w U L m0_ r HU K B hgw hcap hp hp1 hlc c0 t0 CN3 hzl hm1 kk (Lib.hid (rdM_Inh hk0 HAL.out HZS.out kInh))
    by_cases jz0 : kw L = jz0
    · have kk := jz0
      rw [hkw] at kk
      by_cases hm : zs.length = 1
      · obtain ⟨m0_, rfl⟩ : ∃ m0_, zs = [m0_] := by
          match zs, hm with
          | [m0_], _ => exact ⟨_, rfl⟩
        exact rdE_Turns cap n g o_ _ w U L m0_ HU K B hgw hcap hp hp1 hlc c0 t0 CN3 hzl hm1 kk (Lib.hid (rdM_Turns hk0 HAL.out HZS.out jz0))
      · exact rdE_TurnsN cap n g o_ _ w U L zs HU K B hgw hcap hp hp1 hlc c0 t0 CN3 hzl hm1 kk (by omega) (Lib.hid (rdM_TurnsN hk0 (by rw [HZS.out]; exact hm) jz0))
    by_cases jzg : kw L = jzg
    · have kk := jzg
      rw [hkw] at kk
      by_cases hm : zs.length = 1
      · obtain ⟨m0_, rfl⟩ : ∃ m0_, zs = [m0_] := by
          match zs, hm with
          | [m0_], _ => exact ⟨_, rfl⟩
        exact rdE_Hour cap n g o_ _ w U L m0_ HU K B hgw hcap hp hp1 hlc c0 t0 CN3 hzl hm1 kk (Lib.hid (rdM_Hour hk0 HAL.out HZS.out jzg))
      · exact rdE_HourN cap n g o_ _ w U L zs HU K B hgw hcap hp hp1 hlc c0 t0 CN3 hzl hm1 kk (by omega) (Lib.hid (rdM_HourN hk0 (by rw [HZS.out]; exact hm) jzg))
    by_cases jz4 : kw L = jz4
    · have kk := jz4
      rw [hkw] at kk
      by_cases hm : zs.length = 2
      · obtain ⟨m0_, m1_, rfl⟩ : ∃ m0_ m1_, zs = [m0_, m1_] := by
          match zs, hm with
          | [m0_, m1_], _ => exact ⟨_, _, rfl⟩
        exact rdE_Swap cap n g o_ _ w U L m0_ m1_ HU K B hgw hcap hp hp1 hlc c0 t0 CN3 hzl hm1 kk (Lib.hid (rdM_Swap hk0 HAL.out HZS.out jz4))
      · exact rdE_SwapN cap n g o_ _ w U L zs HU K B hgw hcap hp hp1 hlc c0 t0 CN3 hzl hm1 kk (by omega) (Lib.hid (rdM_SwapN hk0 (by rw [HZS.out]; exact hm) jz4))
    by_cases jz5 : kw L = jz5
    · have kk := jz5
      rw [hkw] at kk
      by_cases hm : zs.length = 2
      · obtain ⟨m0_, m1_, rfl⟩ : ∃ m0_ m1_, zs = [m0_, m1_] := by
          match zs, hm with
          | [m0_, m1_], _ => exact ⟨_, _, rfl⟩
        exact rdE_Gate cap n g o_ _ w U L m0_ m1_ HU K B hgw hcap hp hp1 hlc c0 t0 CN3 hzl hm1 kk (Lib.hid (rdM_Gate hk0 HAL.out HZS.out jz5))
      · exact rdE_GateN cap n g o_ _ w U L zs HU K B hgw hcap hp hp1 hlc c0 t0 CN3 hzl hm1 kk (by omega) (Lib.hid (rdM_GateN hk0 (by rw [HZS.out]; exact hm) jz5))
    by_cases kDig : kw L = kDig
    · have kk := kDig
      rw [hkw] at kk
      by_cases hm : zs.length = 2
      · obtain ⟨m0_, m1_, rfl⟩ : ∃ m0_ m1_, zs = [m0_, m1_] := by
          match zs, hm with
          | [m0_, m1_], _ => exact ⟨_, _, rfl⟩
        exact rdE_Dig cap n g o_ _ w U L m0_ m1_ HU K B hgw hcap hp hp1 hlc c0 t0 CN3 hzl hm1 kk (Lib.hid (rdM_Dig hk0 HAL.out HZS.out kDig))
      · exact rdE_DigN cap n g o_ _ w U L zs HU K B hgw hcap hp hp1 hlc c0 t0 CN3 hzl hm1 kk (by omega) (Lib.hid (rdM_DigN hk0 (by rw [HZS.out]; exact hm) kDig))
    have HX := Lib.hid (rdM_no hk0 jzb kInh jz0 jzg jz4 jz5 kDig); have nJoin := jzb; have nInh := kInh; have nTurns := jz0; have nHour := jzg; have nSwap := jz4; have nGate := jz5; have nDig := kDig; rw [hkw] at nJoin nInh nTurns nHour nSwap nGate nDig; exact rdE_none cap n g o_ _ w U L zs HU K B hgw hcap hp hp1 hlc c0 t0 CN3 hzl hm1 nJoin nInh nTurns nHour nSwap nGate nDig HX
end Go.Proofs.Ytaehemmjemhgpaa
