/- Contracts and facts of functions of this program, in build order. Conditions: those stated in each. -/
import Derived.Test.YtaehemmjemhgpabGreatZAG0
import Derived.Test.YtaehemmjemhgpabGreatZAG6
import Derived.Test.YtaehemmjemhgpabGreatZAInherS
import Derived.Test.YtaehemmjemhgpabGreatZAG1
import Derived.Test.YtaehemmjemhgpabGreatZAG4
import Derived.Test.YtaehemmjemhgpabGreatZAG2
import Derived.Test.YtaehemmjemhgpabGreatZASetI
import Derived.Test.YtaehemmjemhgpabGreatZAG3
import Derived.Deep.RegionHeld3
import Derived.Deep.RegionWith
import Derived.RegionTactic
import Derived.BigRegion
set_option maxRecDepth 100000
set_option maxHeartbeats 16000000
namespace Go.Proofs.YtaehemmjemhgpabGreat
open Go.RowKit
set_option linter.unusedSimpArgs false
set_option linter.unusedVariables false
def jjf (hs : List Hd) (x : Dd) : Bool := if x.k = 0 then selB hs x.o x.t x.n x.d else if x.k = 1 then inhB hs x.o x.zs else if x.k = 2 then joinB hs x.o x.t else false
def jv9 (hs : List Hd) (x : Dd) : Led := if x.k = 0 then selL hs x.o x.t x.n x.d else if x.k = 1 then inhL hs x.o x.zs else joinL' hs x.o x.t
theorem sel_vl {hs : List Hd} {fr tt pn pd : Int} (h : selB hs fr tt pn pd = true) : VL (selL hs fr tt pn pd) := by
 unfold selB at h; simp only [Bool.and_eq_true] at h; exact ((sell_iff _ _ _ _).1 h.2).2.2.2.2.2.2
theorem inh_vl {hs : List Hd} {owner : Int} {zs : List Int} (h : inhB hs owner zs = true) : vlR (rawL (inhL hs owner zs)) = true := by
 unfold inhB at h; simp only [Bool.and_eq_true] at h; have := h.2; rw [← vlR_vl] at this; exact this
theorem vl_raw {L : Led} (h : VL L) : vlR (rawL L) = true := by
 rw [vlR_vl]; exact (vl_iff L).2 h
theorem deed_vl {hs : List Hd} {x : Dd} (h : jjf hs x = true) : vlR (rawL (jv9 hs x)) = true := by
 unfold jjf at h; unfold jv9
 by_cases h0 : x.k = 0
 ·rw [if_pos h0] at h ⊢; exact vl_raw (sel_vl h)
 ·rw [if_neg h0] at h ⊢
  by_cases h1 : x.k = 1
  ·rw [if_pos h1] at h ⊢; exact inh_vl h
  ·rw [if_neg h1] at h ⊢
   by_cases h2 : x.k = 2
   ·rw [if_pos h2] at h; exact vl_raw (sel_vl h)
   ·rw [if_neg h2] at h; cases h
theorem move_as {w : World} {b b' : Bool} {L L' : Led} {e : Ending} {w' : World} (h : MoveV w b L e w') (hb : b = b') (hL : b' = true → L = L') : MoveV w b' L' e w' := by
 subst hb; obtain ⟨v, he, m1, m2, hB⟩ := h; exact ⟨v, he, m1, fun c => by rw [← hL c]; exact m2 c, hB⟩
theorem move_no {w w' : World} {b : Bool} (L : Led) (hb : b = false) (hB : Below w.heap.size w w') : MoveV w b L (.returned (.tuple #[.slice none 0 0, .bool false])) w' := by
 subst hb; exact ⟨_, rfl, fun _ => rfl, (fun c => by cases c), hB⟩
theorem move_up {w W w' : World} {v : Value} {b : Bool} {L : Led} (hB : Below w.heap.size w W) (m1 : b = false → v = .slice none 0 0) (m2 : b = true → OwnH w' W.heap.size v (rawL L)) (hb : Below W.heap.size W w') : MoveV w b L (.returned (.tuple #[v, .bool b])) w' :=
 ⟨v, rfl, m1, (fun c => own_le (m2 c) hB.size), jq1 hB hb⟩
theorem iRunDeed (a : Option Addr) (cap : Nat) (hs : List Hd) (A : Option Addr) (capz : Nat) (x : Dd) (w : World) (h : IsHs w a hs) (hn : hs.length ≤ 1048576) (hc : hs.length ≤ cap) (hz : jqc w A x.zs) (hzn : x.zs.length ≤ 1048576) (hzc : x.zs.length ≤ capz) :
  Calls Tryz.prog 88 #[.slice a hs.length cap, .agg #[.int .i64 x.k, .int .i64 x.o, .int .i64 x.t, .int .i64 x.n, .int .i64 x.d, .slice A x.zs.length capz]] w (MoveV w (jjf hs x) (jv9 hs x)) := by
 obtain ⟨k, o, t, n, d, zs⟩ := x; dsimp only at hz hzn hzc ⊢
 have B0 : Below w.heap.size w (w.alloc (.cells #[.int .i64 k, .int .i64 o, .int .i64 t, .int .i64 n, .int .i64 d, .slice A zs.length capz] 35)) := by go_grown
 have K := Blk.new w 35 #[.int .i64 k, .int .i64 o, .int .i64 t, .int .i64 n, .int .i64 d, .slice A zs.length capz]; have q0 := K.cell 0; have q1 := K.cell 1; have q2 := K.cell 2; have q3 := K.cell 3; have q4 := K.cell 4; have q5 := K.cell 5
 dsimp at q0 q1 q2 q3 q4 q5
 have HI := Lib.hid (jqi h B0); have HZ := Lib.hid (jqf hz B0); have HB := Lib.hid B0; clear h hz B0 K
 by_cases c0 : k = 0
 ·subst c0
  have e1 : Hid (jjf hs ⟨0, o, t, n, d, zs⟩ = selB hs o t n d) := rfl; have e2 : Hid (jv9 hs ⟨0, o, t, n, d, zs⟩ = selL hs o t n d) := rfl; go_enter Tryz.func88, Tryz.ntmps88; go_wp2_with fail; refine (iSell a cap hs o t n d _ HI.out hn hc).mono ?_; rintro e w2 ⟨v, rfl, m1, m2, hb2⟩; go_wp2_with fail
  go_returns
  exact move_as (move_up HB.out m1 m2 hb2) e1.out.symm (fun _ => e2.out.symm)
 have d0 : (k == 0) = false := by simpa using c0
 by_cases c1 : k = 1
 ·subst c1
  have e1 : Hid (jjf hs ⟨1, o, t, n, d, zs⟩ = inhB hs o zs) := rfl; have e2 : Hid (jv9 hs ⟨1, o, t, n, d, zs⟩ = inhL hs o zs) := rfl; clear c0; go_enter Tryz.func88, Tryz.ntmps88; go_wp2_with fail; refine (iInherit a cap hs o A capz zs _ HI.out hn hc HZ.out hzn hzc).mono ?_; rintro e w2 ⟨v, rfl, m1, m2, hb2⟩; go_wp2_with fail
  go_returns
  exact move_as (move_up HB.out m1 m2 hb2) e1.out.symm (fun _ => e2.out.symm)
 have d1 : (k == 1) = false := by simpa using c1
 by_cases c2 : k = 2
 ·subst c2
  have e1 : Hid (jjf hs ⟨2, o, t, n, d, zs⟩ = joinB hs o t) := rfl; have e2 : Hid (jv9 hs ⟨2, o, t, n, d, zs⟩ = joinL' hs o t) := rfl; clear c0 c1; go_enter Tryz.func88, Tryz.ntmps88; go_wp2_with fail; refine (iJoin a cap hs o t _ HI.out hn hc).mono ?_; rintro e w2 ⟨v, rfl, m1, m2, hb2⟩; go_wp2_with fail
  go_returns
  exact move_as (move_up HB.out m1 m2 hb2) e1.out.symm (fun _ => e2.out.symm)
 have d2 : (k == 2) = false := by simpa using c2
 have e1 : Hid (jjf hs ⟨k, o, t, n, d, zs⟩ = false) := by show _ = _; unfold jjf; dsimp only; rw [if_neg c0, if_neg c1, if_neg c2]
 clear c0 c1 c2; go_enter Tryz.func88, Tryz.ntmps88; go_wp2_with fail
 go_returns
 exact move_no _ e1.out HB.out
theorem sRunDeed (a : Option Addr) (cap : Nat) (hs : List Hd) (A : Option Addr) (capz : Nat) (x : Dd) (w : World) (h : IsHs w a hs) (hn : hs.length ≤ 1048576) (hc : hs.length ≤ cap) (hz : jqc w A x.zs) (hzn : x.zs.length ≤ 1048576) (hzc : x.zs.length ≤ capz) (hv : vlR hs = true) :
    Calls Tryz.prog 103 #[.slice a hs.length cap, .agg #[.int .i64 x.k, .int .i64 x.o, .int .i64 x.t, .int .i64 x.n, .int .i64 x.d, .slice A x.zs.length capz]] w (MoveV w (jjf hs x) (jv9 hs x)) := by
  obtain ⟨k, o, t, n, d, zs⟩ := x; dsimp only at hz hzn hzc ⊢
  have B0 : Below w.heap.size w (w.alloc (.cells #[.int .i64 k, .int .i64 o, .int .i64 t, .int .i64 n, .int .i64 d, .slice A zs.length capz] 35)) := by go_grown
  have K := Blk.new w 35 #[.int .i64 k, .int .i64 o, .int .i64 t, .int .i64 n, .int .i64 d, .slice A zs.length capz]; have q0 := K.cell 0; have q1 := K.cell 1; have q2 := K.cell 2; have q3 := K.cell 3; have q4 := K.cell 4; have q5 := K.cell 5
  dsimp at q0 q1 q2 q3 q4 q5
  have HI := Lib.hid (jqi h B0); have HZ := Lib.hid (jqf hz B0); have HB := Lib.hid B0; have hV := (vlR_is hv).2; have HVL := Lib.hid hV; have HEq := Lib.hid (led_eq hv); have hle := led_le hv; have HV := Lib.hid hv
  by_cases c0 : k = 0
  · subst c0
    have e2 : Hid (jv9 hs ⟨0, o, t, n, d, zs⟩ = soldL (jq8 hs) o t (Rat.divInt n d)) := rfl
    cases hf : Wsh.vfB n d with
    | false =>
      have e1 : Hid (jjf hs ⟨0, o, t, n, d, zs⟩ = false) := by show selB hs o t n d = false; unfold selB; rw [hv, hf]; rfl
      have HF := Lib.hid hf; clear h hz B0 hv hV hf; go_enter Tryz.func103, Tryz.ntmps103; go_wp2_with fail; refine (vf_boolN HF.out _).mono ?_; rintro e w2 ⟨rfl, hb⟩; go_wp2_with fail
      go_returns
      exact move_no _ e1.out (jq1 HB.out hb)
    | true =>
      have e1 : Hid (jjf hs ⟨0, o, t, n, d, zs⟩ = sellB (jq8 hs) o t (Rat.divInt n d)) := by show selB hs o t n d = _; unfold selB; rw [hv, hf]; rfl
      have HF := Lib.hid hf; obtain ⟨f1, f2, f3⟩ := vf_q hf; have HF1 := Lib.hid f1; have HF2 := Lib.hid f2; have HF3 := Lib.hid f3; clear h hz B0 hv hV hf f1 f2 f3; go_enter Tryz.func103, Tryz.ntmps103; go_wp2_with fail; refine (vf_boolY HF.out _).mono ?_; rintro e w2 ⟨rfl, hb⟩; have K2 := K.next hb; clear q0 q1 q2 q3 q4 q5; have q0 := K2.cell 0; have q1 := K2.cell 1; have q2 := K2.cell 2; have q3 := K2.cell 3; have q4 := K2.cell 4; have q5 := K2.cell 5
      dsimp at q0 q1 q2 q3 q4 q5
      have HB2 := Lib.hid (jq1 HB.out hb); have HI2 := Lib.hid (jqi HI.out hb); clear hb; go_wp2_with fail; refine (ssell a cap (jq8 hs) hs o t n d (Rat.divInt n d) _ HI2.out HEq.out (by omega) HVL.out.fr HF3.out HF1.out.symm HF2.out.symm).mono ?_; rintro e w4 ⟨v, rfl, m1, m2, hb4⟩; go_wp2_with fail
      go_returns
      exact move_as (move_up HB2.out m1 m2 hb4) e1.out.symm (fun _ => e2.out.symm)
  have d0 : (k == 0) = false := by simpa using c0
  by_cases c1 : k = 1
  · subst c1
    have e1 : Hid (jjf hs ⟨1, o, t, n, d, zs⟩ = inhB hs o zs) := rfl; have e2 : Hid (jv9 hs ⟨1, o, t, n, d, zs⟩ = inhL hs o zs) := rfl; clear h hz B0 hv hV c0; go_enter Tryz.func103, Tryz.ntmps103; go_wp2_with fail; refine (sinherit a cap hs o A capz zs _ HI.out HV.out HZ.out hzn hzc).mono ?_; rintro e w2 ⟨v, rfl, m1, m2, hb2⟩; go_wp2_with fail
    go_returns
    exact move_as (move_up HB.out m1 m2 hb2) e1.out.symm (fun _ => e2.out.symm)
  have d1 : (k == 1) = false := by simpa using c1
  by_cases c2 : k = 2
  · subst c2
    have hsh : shV hs o = ((jq5 (jq8 hs) o).num, ((jq5 (jq8 hs) o).den : Int)) := by
      unfold shV; rw [hv]
      conv => lhs; rw [led_eq hv]
      exact shR_raw _ _
    have hfr := share_frA hV.fr o; have hqe : Rat.divInt (jq5 (jq8 hs) o).num ((jq5 (jq8 hs) o).den : Int) = jq5 (jq8 hs) o := q_mk _
    have e1 : Hid (jjf hs ⟨2, o, t, n, d, zs⟩ = sellB (jq8 hs) o t (jq5 (jq8 hs) o)) := by
      show joinB hs o t = _
      unfold joinB selB; rw [hsh, hv, q_vf hfr, hqe]; rfl
    have e2 : Hid (jv9 hs ⟨2, o, t, n, d, zs⟩ = soldL (jq8 hs) o t (jq5 (jq8 hs) o)) := by
      show joinL' hs o t = _
      unfold joinL' selL; rw [hsh, hqe]
    have HFr := Lib.hid hfr; clear hsh hfr hqe
    have SL := fun (W : World) (hW : IsHs W a hs) => sshareL a cap (jq8 hs) hs o W hW HEq.out hn
    obtain ⟨pn, hpn⟩ : ∃ pn, pn = (jq5 (jq8 hs) o).num := ⟨_, rfl⟩
    obtain ⟨pd, hpd⟩ : ∃ pd, pd = ((jq5 (jq8 hs) o).den : Int) := ⟨_, rfl⟩
    rw [← hpn, ← hpd] at SL; have HPn := Lib.hid hpn; have HPd := Lib.hid hpd; have HSL := Lib.hid SL; clear hpn hpd SL
    have hfd : ∀ w : World, (Instr.field 32 (.agg #[.int .i64 pn, .int .i64 pd]) 0).run Tryz.prog w = .ok (.int .i64 pn) w := fun _ => by kernel_rfl
    by_cases hz0 : pn = 0
    · have HN : Hid (jjf hs ⟨2, o, t, n, d, zs⟩ = false) := by show _ = _; rw [e1.out]; unfold sellB; rw [(num_zero _).1 (HPn.out.symm.trans hz0)]; simp
      have e0 : (pn == 0) = true := by simpa using hz0
      clear h hz B0 hv hV c0 c1 hz0; go_enter Tryz.func103, Tryz.ntmps103; go_wp2_with fail; refine (HSL.out _ HI.out).mono ?_; rintro e w2 ⟨rfl, hb2⟩; go_wp2_with fail
      go_returns
      exact move_no _ HN.out (jq1 HB.out hb2)
    · have e0 : (pn == 0) = false := by simpa using hz0
      clear h hz B0 hv hV c0 c1 hz0; go_enter Tryz.func103, Tryz.ntmps103; go_wp2_with fail; refine (HSL.out _ HI.out).mono ?_; rintro e w2 ⟨rfl, hb2⟩; have K2 := K.next hb2; clear q0 q1 q2 q3 q4 q5; have q0 := K2.cell 0; have q1 := K2.cell 1; have q2 := K2.cell 2; have q3 := K2.cell 3; have q4 := K2.cell 4; have q5 := K2.cell 5
      dsimp at q0 q1 q2 q3 q4 q5
      have HB2 := Lib.hid (jq1 HB.out hb2); have HI2 := Lib.hid (jqi HI.out hb2); clear hb2; go_wp2_with fail; have HMK1 := Lib.hid (fun (W : World) (hW : Below w2.heap.size w2 W) => (⟨⟨(hW.cell (p := ⟨w.heap.size, 1, none⟩) (K2.lt)).trans q1, (hW.cell (p := ⟨w.heap.size, 2, none⟩) (K2.lt)).trans q2⟩, hW⟩ : (W.cell? ⟨w.heap.size, 1, none⟩ = some (.int .i64 o) ∧ W.cell? ⟨w.heap.size, 2, none⟩ = some (.int .i64 t)) ∧ Below w2.heap.size w2 W)); refine wp_region_held_drew (S := (fun w' => (w'.cell? ⟨w.heap.size, 1, none⟩ = some (.int .i64 o) ∧ w'.cell? ⟨w.heap.size, 2, none⟩ = some (.int .i64 t)) ∧ Below w2.heap.size w2 w')) (by kernel_rfl) ?_ (fun hHeld => ?_)
      · exact ⟨⟨q1, q2⟩, (Below.refl _ _).drew⟩
      refine tk (i := 0) (v := ?v3) rfl ?c3 ?d_3
      case c3 => (refine .inl ⟨by rfl, ?_⟩; intro w h; (try dsimp only at h); go_simp <;> with_reducible rfl)
      try simp only [pt]
      refine tk (i := 1) (v := ?v4) rfl ?c4 ?d_4
      case c4 => (refine .inl ⟨by rfl, ?_⟩; intro w h; (try dsimp only at h); go_simp <;> with_reducible rfl)
      try simp only [pt]
      refine tk (i := 2) (v := ?v5) rfl ?c5 ?d_5
      case c5 => (refine .inl ⟨by rfl, ?_⟩; intro w h; (try dsimp only at h); go_simp <;> with_reducible rfl)
      try simp only [pt]
      refine tk (i := 3) (v := ?v6) rfl ?c6 ?d_6
      case c6 => (refine .inl ⟨by rfl, ?_⟩; intro w h; (try dsimp only at h); go_simp <;> with_reducible rfl)
      try simp only [pt]
      refine tk (i := 4) (v := ?v7) rfl ?c7 ?d_7
      case c7 => (refine .inl ⟨by rfl, ?_⟩; intro w h; (try dsimp only at h); go_simp <;> with_reducible rfl)
      try simp only [pt]
      refine tk (i := 5) (v := ?v8) rfl ?c8 ?d_8
      case c8 => (refine .inl ⟨by rfl, ?_⟩; intro w h; (try dsimp only at h); go_simp <;> with_reducible rfl)
      try simp only [pt]
      refine tk (i := 6) (v := ?v9) rfl ?c9 ?d_9
      case c9 => (refine .inl ⟨by rfl, ?_⟩; intro w h; (try dsimp only at h); go_simp <;> with_reducible rfl)
      try simp only [pt]
      refine tk (i := 7) (v := ?va) rfl ?ca ?d_a
      case ca => (refine .inl ⟨by rfl, ?_⟩; intro w h; (try dsimp only at h); go_simp <;> with_reducible rfl)
      try simp only [pt]
      refine wpAnyH_ready (rs := [8]) (by kernel_rfl) (by simp) (AllReadyH.cons (o := ?ooa10_q0) ?hia10_q0 (fun K hK => ?hka10_q0) AllReadyH.nil)
      case hia10_q0 => (simp only [List.getElem?_toArray, List.getElem?_cons_succ, List.getElem?_cons_zero]; rfl)
      case hka10_q0 =>
        (rw [if_pos (by rfl)]; go_simp; refine (HSL.out _ (jqi HI2.out hHeld.2)).mono ?_; rintro e w3_ ⟨rfl, hb3⟩; go_wp2_with fail; refine hK.out _ _ (HMK1.out _ (jq1 hHeld.2 hb3)) (fun hHeld => ?_); clear hK K)
        try simp only [pt]
        refine wpAnyH_ready (rs := [9]) (by kernel_rfl) (by simp) (AllReadyH.cons (o := ?ooa11_q0) ?hia11_q0 (fun K hK => ?hka11_q0) AllReadyH.nil)
        case hia11_q0 => (simp only [List.getElem?_toArray, List.getElem?_cons_succ, List.getElem?_cons_zero]; rfl)
        case hka11_q0 =>
          (rw [if_pos (by rfl)]; go_simp; refine (ssell a cap (jq8 hs) hs o t _ _ (jq5 (jq8 hs) o) _ (jqi HI2.out hHeld.2) HEq.out (by omega) HVL.out.fr HFr.out HPn.out HPd.out).mono ?_; rintro e w4_ ⟨v, rfl, m1, m2, hb4⟩; have HM1 := Lib.hid m1; have HM2 := Lib.hid m2; have HB3 := Lib.hid (jq1 HB2.out hHeld.2); have HB4 := Lib.hid hb4; clear m1 m2; go_wp2_with fail; refine hK.out _ _ (HMK1.out _ (jq1 hHeld.2 hb4)) (fun hHeld => ?_); clear hK K)
          try simp only [pt]
          refine tk (i := 10) (v := ?vb) rfl ?cb ?d_b
          case cb => (refine .inl ⟨by rfl, ?_⟩; intro w h; (try dsimp only at h); go_simp <;> with_reducible rfl)
          try simp only [pt]
          refine tk (i := 11) (v := ?vc) rfl ?cc ?d_c
          case cc => (refine .inl ⟨by rfl, ?_⟩; intro w h; (try dsimp only at h); go_simp <;> with_reducible rfl)
          try simp only [pt]
          refine tk (i := 12) (v := ?vd) rfl ?cd ?d_d
          case cd => (refine .inl ⟨by rfl, ?_⟩; intro w h; (try dsimp only at h); go_simp <;> with_reducible rfl)
          try simp only [pt]
          refine tk (i := 13) (v := ?ve) rfl ?ce ?d_e
          case ce => (refine .inl ⟨by rfl, ?_⟩; intro w h; (try dsimp only at h); go_simp <;> with_reducible rfl)
          try simp only [pt]
          refine wpAnyH_done (by kernel_rfl) ?_ _; clear HMK1; clear hHeld; go_wp2_with fail
          go_returns
          exact move_as (move_up HB3.out HM1.out HM2.out HB4.out) e1.out.symm (fun _ => e2.out.symm)
  have d2 : (k == 2) = false := by simpa using c2
  have e1 : Hid (jjf hs ⟨k, o, t, n, d, zs⟩ = false) := by show _ = _; unfold jjf; dsimp only; rw [if_neg c0, if_neg c1, if_neg c2]
  clear h hz B0 hv hV c0 c1 c2; go_enter Tryz.func103, Tryz.ntmps103; go_wp2_with fail
  go_returns
  exact move_no _ e1.out HB.out
def hourT (t : Tw) (n : Int) : Tw :=
 { t with hd := jxd t.r t.hd (n - jqj t.ns n) t.rt, ac := addA t.ac (whoM t.ts t.tm) (jzh t.hd (n - jqj t.ns n) t.rt), tm := t.tm + 1, ls := t.ls + jqj t.ns n + jx2 t.r t.hd (n - jqj t.ns n) t.rt, cm := t.cm + n }
def jj1 (t : Tw) (e : Ev) : Option Tw :=
 if e.k = 0 then (if jjf t.hs e.dd then some { t with hs := rawL (jv9 t.hs e.dd) } else none)
 else if e.k = 1 then (if tfB t.hs e.nu then some { t with ts := tfL t.hs e.nu } else none)
 else if e.k = 2 then (if swB t.ts e.at_ e.nu then some { t with ts := swL t.ts e.at_ e.nu } else none)
 else if e.k = 3 then (if sgB t.ns e.at_ e.nu then some { t with ns := sgL t.ns e.at_ e.nu } else none)
 else if e.k = 4 then some { t with ns := t.ns ++ [(e.at_, e.nu, 0, 500, 0)] }
 else if e.k = 5 then (if inB3 e.nu 0 500 then some (hourT t e.nu) else none)
 else none
def apT (t : Tw) (e : Ev) : Option Tw :=
 match jj1 t e with
 | some u => if twB u then some u else none
 | none => none
def rbT : Tw → List Ev → Option Tw
  | t, [] => some t
  | t, e :: es => match apT t e with
    | some u => rbT u es
    | none => none
theorem ap_some {t u : Tw} {e : Ev} (h : jj1 t e = some u) (hv : twB u = true) : apT t e = some u := by unfold apT; rw [h]; simp [hv]
theorem ap_none {t : Tw} {e : Ev} (h : jj1 t e = none) : apT t e = none := by unfold apT; rw [h]
theorem ap_bad {t u : Tw} {e : Ev} (h : jj1 t e = some u) (hv : twB u = false) : apT t e = none := by unfold apT; rw [h]; simp [hv]
theorem ap_is {t u : Tw} {e : Ev} (h : apT t e = some u) : jj1 t e = some u ∧ twB u = true := by
  unfold apT at h
  cases hn : jj1 t e with
  | none => rw [hn] at h; cases h
  | some v =>
    rw [hn] at h; dsimp only at h
    cases hv : twB v with
    | false => rw [hv] at h; cases h
    | true => rw [hv] at h; injection h with h; subst h; exact ⟨rfl, hv⟩
theorem rb_nil (t : Tw) : rbT t [] = some t := rfl
theorem rb_cons {t u : Tw} {e : Ev} (es : List Ev) (h : apT t e = some u) : rbT t (e :: es) = rbT u es := by
 show (match apT t e with | some u => rbT u es | none => none) = _
 rw [h]
theorem rb_stop {t : Tw} {e : Ev} (es : List Ev) (h : apT t e = none) : rbT t (e :: es) = none := by
 show (match apT t e with | some u => rbT u es | none => none) = _
 rw [h]
theorem rb_append {es fs : List Ev} : ∀ {t : Tw}, rbT t (es ++ fs) = (rbT t es).bind (fun u => rbT u fs) := by
  induction es with
  | nil => intro t; rfl
  | cons x es ih =>
    intro t
    cases ha : apT t x with
    | none => rw [rb_stop es ha, List.cons_append, rb_stop (es ++ fs) ha]; rfl
    | some v => rw [rb_cons es ha, List.cons_append, rb_cons (es ++ fs) ha, ih]
structure TwOk (t : Tw) : Prop where
 v1 : vlR t.hs = true
 v2 : vtB t.ts = true
 v3 : vnB t.ns = true
 v4 : vbB t.r t.hd = true
 v5 : acB t.ac = true
 v6 : 0 ≤ t.rt ∧ t.rt ≤ 500
 v7 : 0 ≤ t.tm ∧ t.tm ≤ 5000
 v8 : 0 ≤ t.ls ∧ t.ls ≤ 1000000
 v9 : 0 ≤ t.cm ∧ t.cm ≤ 1000000
 v0 : acS t.ac t.ac.length + t.hd + t.ls = t.cm
theorem tw_ok {t : Tw} (h : twB t = true) : TwOk t := by
 unfold twB at h; simp only [Bool.and_eq_true, decide_eq_true_eq] at h; obtain ⟨a, b, c, d, e, f, g, i, j, k⟩ := h; exact ⟨a, b, c, d, e, jzd f, jzd g, jzd i, jzd j, k⟩
theorem inB3_of {n l h : Int} (a : l ≤ n ∧ n ≤ h) : inB3 n l h = true := by unfold inB3; simp [a]
theorem ac_asc {ac : List Ac} (h : acB ac = true) : AscA ac := by
  unfold AscA; rw [List.pairwise_iff_getElem]; intro i j hi hj hij
  have step : ∀ d i : Nat, i + d + 1 < ac.length → (ac.getD i ac0).1 < (ac.getD (i + d + 1) ac0).1 := by
    intro d
    induction d with
    | zero =>
      intro i h1; have := ((okAc_iff ac (i + 1)).1 (acB_at h h1)).2.2.2.2
      rcases this with c | c
      · omega
      · exact c
    | succ d ih =>
      intro i h1; have a := ih i (by omega); have b := ((okAc_iff ac (i + d + 2)).1 (acB_at h (by omega))).2.2.2.2
      rcases b with c | c
      · omega
      · have c' : (ac.getD (i + d + 1) ac0).1 < (ac.getD (i + d + 2) ac0).1 := c
        have : i + (d + 1) + 1 = i + d + 2 := by omega
        rw [this]; omega
  have := step (j - i - 1) i (by omega); rw [show i + (j - i - 1) + 1 = j by omega] at this; rw [List.getD_eq_getElem?_getD, List.getD_eq_getElem?_getD, List.getElem?_eq_getElem hi, List.getElem?_eq_getElem hj] at this; exact this
theorem ac_mem {ac : List Ac} (h : acB ac = true) {a : Ac} (ha : a ∈ ac) : 1 ≤ a.1 ∧ a.1 ≤ 999 ∧ 1 ≤ a.2 ∧ a.2 ≤ 1000000 := by
 obtain ⟨i, hi, rfl⟩ := List.mem_iff_getElem.1 ha; have := (okAc_iff ac i).1 (acB_at h hi); rw [List.getD_eq_getElem?_getD, List.getElem?_eq_getElem hi] at this; exact ⟨this.1, this.2.1, this.2.2.1, this.2.2.2.1⟩
theorem blk_c2 {w : World} {g : Nat} {t : TypeId} {v0 v1 : Value} (h : Blk w g t #[v0, v1]) : w.cell? ⟨g, 0, none⟩ = some v0 ∧ w.cell? ⟨g, 1, none⟩ = some v1 := ⟨h.cell 0, h.cell 1⟩
theorem hour_lost {ns : List Nd} (hv : vnB ns = true) {n : Int} (h : 0 ≤ n ∧ n ≤ 500) : 0 ≤ jqj ns n ∧ jqj ns n ≤ n := by
 have hf : flB ns n = true := by unfold flB; rw [hv, decide_eq_true h.1, decide_eq_true h.2]; rfl
 rw [lost_yes hf]; have a := lost_all hv h; have b := (atSum_bd (c := jv4 ns n) (passF_all hv h) (leavesTo ns ns.length)).1; have c := (lost_bd hv h ns.length (Nat.le_refl _)).1
 omega
theorem hour_nums {t : Tw} (h : TwOk t) {n : Int} (hn : 0 ≤ n ∧ n ≤ 500) :
  0 ≤ jqj t.ns n ∧ jqj t.ns n ≤ n ∧ stB t.r t.hd (n - jqj t.ns n) t.rt = true ∧ 0 ≤ jzh t.hd (n - jqj t.ns n) t.rt ∧ jzh t.hd (n - jqj t.ns n) t.rt ≤ 500 ∧ 0 ≤ jx2 t.r t.hd (n - jqj t.ns n) t.rt ∧ jx2 t.r t.hd (n - jqj t.ns n) t.rt ≤ 20500 := by
 obtain ⟨l0, l1⟩ := hour_lost h.v3 hn; obtain ⟨r0, r1, d0, d1⟩ := vb_iff.1 h.v4; obtain ⟨q0, q1⟩ := h.v6; have b := step_bd (room := t.r) (held := t.hd) (c := n - jqj t.ns n) (w := t.rt) ⟨d0, d1⟩ (by omega) q0; refine ⟨l0, l1, stB_yes h.v4 ⟨by omega, by omega⟩ ⟨q0, q1⟩, b.2.2.1, by omega, b.2.2.2.2, ?_⟩; have : jx2 t.r t.hd (n - jqj t.ns n) t.rt = t.hd + (n - jqj t.ns n) - jzh t.hd (n - jqj t.ns n) t.rt - jxd t.r t.hd (n - jqj t.ns n) t.rt := rfl
 omega
theorem hour_ac {t : Tw} (h : TwOk t) {g : Int} (hg : 0 ≤ g ∧ g ≤ 500) : ∀ k, k < t.ac.length → -1000000000 ≤ (t.ac.getD k ac0).2 + g ∧ (t.ac.getD k ac0).2 + g ≤ 1000000000 := fun k hk => by
 have := (okAc_iff t.ac k).1 (acB_at h.v5 hk); have b1 := this.2.2.1; have b2 := this.2.2.2.1
 omega
theorem jxa (w : World) (g : Nat) (hg : g = w.heap.size) (cs : List Value) (t : TypeId) : ∀ j u, cs[j]? = some u → (w.alloc (.cells cs.toArray t)).cell? ((⟨g, 0, none⟩ : Addr).add j) = some u := by subst hg; exact jzg w cs t
theorem ownAc_nil (w : World) : OwnAc (w.alloc (.cells #[] 71)) w.heap.size (.slice (some ⟨w.heap.size, 0, none⟩) 0 0) [] := ⟨rfl, .inr ⟨w.heap.size, 0, #[], rfl, Nat.le_refl _, Blk.new _ _ _, Nat.le_refl _, by unfold maxLen; omega, rfl, rfl⟩⟩
theorem ownAc_snoc {w : World} {base : Nat} {v : Value} {X : List Ac} {n : Nat} {z : Ac} (h : w.ownsRow base 71 2 v (n + 1) (jz5 X ++ [.int .i64 z.1, .int .i64 z.2])) (hn : X.length = n) : OwnAc w base v (X ++ [z]) := by
 unfold OwnAc; rw [List.length_append, valsAc_append, hn]; exact h
theorem addA_cons (a : Ac) (t : List Ac) (o u : Int) : addA (a :: t) o u = if u = 0 then a :: t else if o < a.1 then (o, u) :: a :: t else if o = a.1 then (a.1, a.2 + u) :: t else a :: addA t o u := by rw [addA]
theorem addA_nil (o u : Int) : addA [] o u = if u = 0 then [] else [(o, u)] := by rw [addA]
def AddR (ac : List Ac) (o u : Int) (k : Nat) (d : Bool) (X : List Ac) : Prop := (d = true → X ++ ac.drop k = addA ac o u) ∧ (d = false → u ≠ 0 ∧ X ++ addA (ac.drop k) o u = addA ac o u)
theorem addR_start (ac : List Ac) (o u : Int) : AddR ac o u 0 (u == 0) [] := by
 refine ⟨fun h => ?_, fun h => ⟨by simpa using h, by simp⟩⟩
 have : u = 0 := by simpa using h
 subst this; rw [add_zero]; simp
theorem drop_at {ac : List Ac} {k : Nat} (h : k < ac.length) : ac.drop k = ac.getD k ac0 :: ac.drop (k + 1) := by
 rw [List.drop_eq_getElem_cons h, List.getD_eq_getElem?_getD, List.getElem?_eq_getElem h]; rfl
theorem addR_done {ac : List Ac} {o u : Int} {k : Nat} {X : List Ac} (h : AddR ac o u k true X) (hk : k < ac.length) : AddR ac o u (k + 1) true (X ++ [ac.getD k ac0]) := by
 refine ⟨fun _ => ?_, (fun c => by cases c)⟩; have := h.1 rfl; rw [drop_at hk] at this; rw [← this]; simp
theorem addR_ahead {ac : List Ac} {o u : Int} {k : Nat} {X : List Ac} (h : AddR ac o u k false X) (hk : k < ac.length) (hc : o < (ac.getD k ac0).1) : AddR ac o u (k + 1) true (X ++ [(o, u)] ++ [ac.getD k ac0]) := by
 refine ⟨fun _ => ?_, (fun c => by cases c)⟩; obtain ⟨h0, this⟩ := h.2 rfl; rw [drop_at hk, addA_cons, if_neg h0, if_pos hc] at this; rw [← this]; simp
theorem addR_same {ac : List Ac} {o u : Int} {k : Nat} {X : List Ac} (h : AddR ac o u k false X) (hk : k < ac.length) (hc : o = (ac.getD k ac0).1) : AddR ac o u (k + 1) true (X ++ [((ac.getD k ac0).1, (ac.getD k ac0).2 + u)]) := by
 refine ⟨fun _ => ?_, (fun c => by cases c)⟩; obtain ⟨h0, this⟩ := h.2 rfl; rw [drop_at hk, addA_cons, if_neg h0, if_neg (by omega), if_pos hc] at this; rw [← this]; simp
theorem addR_behind {ac : List Ac} {o u : Int} {k : Nat} {X : List Ac} (h : AddR ac o u k false X) (hk : k < ac.length) (hc : ¬ o < (ac.getD k ac0).1) (hd : ¬ o = (ac.getD k ac0).1) : AddR ac o u (k + 1) false (X ++ [ac.getD k ac0]) := by
 refine ⟨(fun c => by cases c), fun _ => ?_⟩; obtain ⟨h0, this⟩ := h.2 rfl; rw [drop_at hk, addA_cons, if_neg h0, if_neg hc, if_neg hd] at this; exact ⟨h0, by rw [← this]; simp⟩
theorem addR_end {ac : List Ac} {o u : Int} {k : Nat} {X : List Ac} (h : AddR ac o u k true X) (hk : ac.length ≤ k) : X = addA ac o u := by
 have := h.1 rfl; rw [List.drop_eq_nil_of_le hk] at this; rw [← this]; simp
theorem addR_last {ac : List Ac} {o u : Int} {k : Nat} {X : List Ac} (h : AddR ac o u k false X) (hk : ac.length ≤ k) : X ++ [(o, u)] = addA ac o u := by
 obtain ⟨h0, this⟩ := h.2 rfl; rw [List.drop_eq_nil_of_le hk, addA_nil, if_neg h0] at this; exact this
theorem ownAc_next {w w' : World} {base : Nat} {v : Value} {X : List Ac} (h : OwnAc w base v X) (hb : Below w.heap.size w w') : OwnAc w' base v X := by
 refine ⟨h.1, ?_⟩
 rcases h.2 with h0 | ⟨g, cap, cur, hv, hg, hb0, r⟩
 ·exact .inl h0
 ·exact .inr ⟨g, cap, cur, hv, hg, (hb.block g (Blk.lt hb0)).trans hb0, r⟩
def OutAc (w : World) (R : List Ac) (e : Ending) (w' : World) : Prop := ∃ v, e = .returned v ∧ OwnAc w' w.heap.size v R ∧ Below w.heap.size w w'
theorem saddTo (a : Option Addr) (cap : Nat) (ac : List Ac) (o u : Int) (w : World) (h : IsAc w a ac) (hn : ac.length ≤ 1048576) (hu : ∀ k, k < ac.length → -1000000000 ≤ (ac.getD k ac0).2 + u ∧ (ac.getD k ac0).2 + u ≤ 1000000000) :
    Calls Tryz.prog 155 #[.slice a ac.length cap, .int .i64 o, .int .i64 u] w (OutAc w (addA ac o u)) := by
  obtain ⟨i0, hi0, hz0, hz1, hz2⟩ := info_parts infoAc; have HU := Lib.hid hu; clear hu
  have hstart : ∀ b : Bool, (u == 0) = b → AddR ac o u 0 b [] := fun b e => by rw [← e]; exact addR_start ac o u
  obtain ⟨b0, hb0⟩ : ∃ b, (u == 0) = b := ⟨_, rfl⟩
  have HS := Lib.hid (hstart b0 hb0); clear hstart; have hwA : OwnAc (w.alloc (.cells #[] 71)) w.heap.size (.slice (some ⟨w.heap.size, 0, none⟩) 0 0) [] := ownAc_nil w
  rcases h with rfl | ⟨g, og, rfl, hc⟩
  · cases b0 with
    | true =>
      have hr := addR_end HS.out (Nat.le_refl _); have HR : Hid (addA [] o u = []) := hr.symm; clear hr; go_enter Tryz.func155, Tryz.ntmps155; go_wp2_with fail; refine wp_loop_rounds 1 ?_; rw [rounds_succ]; go_wp2_with fail; go_ret; exact ⟨_, rfl, by rw [HR.out]; exact hwA, by go_grown⟩
    | false =>
      have hr := addR_last HS.out (Nat.le_refl _); have HR : Hid (addA [] o u = [(o, u)]) := hr.symm; have HBA : Hid (Below w.heap.size w (w.alloc (.cells #[] 71))) := (Below.refl _ w).alloc (Nat.le_refl _) _; have HOA := Lib.hid hwA; clear hr hwA; go_enter Tryz.func155, Tryz.ntmps155; go_wp2_with fail; refine wp_loop_rounds 1 ?_; rw [rounds_succ]
      go_wp2_with (first | (at_builtin; refine wpList_append_own _ rfl (.tmp 57) (.tmp 61) _ rfl w.heap.size 71 i0 _ 2 16 Tryz.underlying28 hi0 hz0 hz1 hz2 rfl (by decide) _ _ _ rfl (World.ownsRow.alloc HOA.out _) ⟨_, 0, none⟩ 1 1 [.int .i64 o, .int .i64 u] rfl rfl (jxa _ _ (by simp) _ _) (jqg [(o, u)]) (by unfold maxLen; omega) (by omega) (by simp; omega) ?_; intro v2 w2 hown2 hg2 _))
      have hb2 : Below w.heap.size w w2 := (HBA.out.alloc HBA.out.size _).grown hg2 (by have := HBA.out.size; simp; omega) (fun q hq => by have := (World.ownsRow.lt HOA.out q hq).1; omega); go_ret; exact ⟨_, rfl, by rw [HR.out]; exact ownAc_snoc (X := []) (z := (o, u)) hown2 rfl, hb2⟩
  have HC := Lib.hid hc; clear hc; go_enter Tryz.func155, Tryz.ntmps155; go_wp2_with fail
  go_loopw [7, 8, 9] (fun r d i wr => ∃ (k : Nat) (b : Bool) (X : List Ac) (v : Value), k ≤ ac.length ∧ i = .int .i64 k ∧ d = .bool b ∧ v = r ∧ OwnAc wr w.heap.size v X ∧ Hid (AddR ac o u k b X) ∧ X.length ≤ k + b.toNat ∧ Below w.heap.size w wr) (fun _ _ i _ => ac.length - (intOf i).toNat)
  case atStart => exact ⟨0, b0, [], _, Nat.zero_le _, rfl, by first | rfl | rw [hb0], rfl, hwA, HS, (Nat.zero_le _ : 0 ≤ _), by go_grown⟩
  case round =>
    obtain ⟨k, b, X, v, hk, rfl, rfl, rfl, hO, hA, hXl, hB⟩ := hrel
    by_cases hlt : k < ac.length
    · obtain ⟨x0, x1⟩ := ac_at HC.out hB hlt
      have HE := Lib.hid (show ac.getD k ac0 = ((ac.getD k ac0).1, (ac.getD k ac0).2) from rfl); have hbd := HU.out k hlt; generalize (ac.getD k ac0).1 = x at x0 HE hbd; generalize (ac.getD k ac0).2 = y at x1 HE hbd
      have hk0 : (0 : Int) ≤ (k : Int) := by omega
      have hk1 : (k : Int) < (ac.length : Int) := by omega
      have KA := Blk.new wr 71 #[.int .i64 x, .int .i64 y]; have HOA := Lib.hid (ownAc_next hO ((Below.refl _ wr).alloc (Nat.le_refl _) (.cells #[.int .i64 x, .int .i64 y] 71))); have HBA := Lib.hid (hB.alloc hB.size (.cells #[.int .i64 x, .int .i64 y] 71))
      have hne : v.ownBlock ≠ some wr.heap.size := fun c => Nat.lt_irrefl _ (World.ownsRow.lt hO _ c).2
      have hsz : (wr.alloc (.cells #[.int .i64 x, .int .i64 y] 71)).heap.size = wr.heap.size + 1 := by simp
      have hsw := hB.size; have HOX := Lib.hid (fun O : Obj => ownAc_next hO ((Below.refl _ wr).alloc (Nat.le_refl _) O)); have HBX := Lib.hid (fun O : Obj => hB.alloc hB.size O); clear hO hB
      cases b with
      | true =>
        have hXl : X.length ≤ k + 1 := hXl; have HR := Lib.hid (addR_done hA hlt); rw [HE.out] at HR; clear hA
        go_wp2_with (first | (at_builtin; refine wpList_append_own _ rfl (.tmp 51) (.tmp 53) _ rfl w.heap.size 71 i0 _ 2 16 Tryz.underlying28 hi0 hz0 hz1 hz2 rfl (by decide) _ _ _ rfl (World.ownsRow.alloc HOA.out _) ⟨_, 0, none⟩ 1 1 [.int .i64 x, .int .i64 y] rfl rfl (jxa _ _ (by simp) _ _) (jqg [(x, y)]) (by unfold maxLen; omega) (by omega) (by simp; omega) ?_; intro v2 w2 hown2 hg2 _))
        have hb2 : Below w.heap.size w w2 := (HBA.out.alloc HBA.out.size _).grown hg2 (by have := HBA.out.size; simp; omega) (fun q hq => by have := (World.ownsRow.lt HOA.out q hq).1; omega)
        go_roundw
        case rel => exact ⟨k + 1, _, _, _, by omega, by go_num, rfl, rfl, ownAc_snoc hown2 rfl, HR, by simp; omega, hb2⟩
        case measure => simp [intOf]; omega
      | false =>
        have hXl : X.length ≤ k := hXl
        by_cases h1 : o < x
        · have e1 : decide (o < x) = true := decide_eq_true h1
          have HR := Lib.hid (addR_ahead hA hlt (by rw [HE.out]; exact h1)); rw [HE.out] at HR; clear hA h1
          go_wp2_with (first | (at_builtin; refine wpList_append_own _ rfl (.tmp 32) (.tmp 36) _ rfl w.heap.size 71 i0 _ 2 16 Tryz.underlying28 hi0 hz0 hz1 hz2 rfl (by decide) _ _ _ rfl (World.ownsRow.alloc HOA.out _) ⟨_, 0, none⟩ 1 1 [.int .i64 o, .int .i64 u] rfl rfl (jxa _ _ (by simp) _ _) (jqg [(o, u)]) (by unfold maxLen; omega) (by omega) (by simp; omega) ?_; intro v3 w3 hown3 hg3 _; have hb3 : Below w.heap.size w w3 := (HBA.out.alloc HBA.out.size _).grown hg3 (by have := HBA.out.size; simp; omega) (fun q hq => by have := (World.ownsRow.lt HOA.out q hq).1; omega); have hsw3 := hb3.size; have KA3 := (KA.alloc _).grown hg3 (fun c => hne c.symm); have HO3 := Lib.hid (ownAc_snoc (z := (o, u)) hown3 rfl); have hXl3 : (X ++ [(o, u)]).length ≤ 1048578 := (by simp; omega); have q0 := KA3.cell 0; have q1 := KA3.cell 1; dsimp at q0 q1) | (at_builtin; refine wpList_append_own _ rfl (.tmp 51) (.tmp 53) _ rfl w.heap.size 71 i0 _ 2 16 Tryz.underlying28 hi0 hz0 hz1 hz2 rfl (by decide) _ _ _ rfl (World.ownsRow.alloc HO3.out _) ⟨_, 0, none⟩ 1 1 [.int .i64 x, .int .i64 y] rfl rfl (jxa _ _ (by simp) _ _) (jqg [(x, y)]) (by unfold maxLen; omega) (by omega) (by simp; omega) ?_; intro v2 w2 hown2 hg2 _))
          have hb2 : Below w.heap.size w w2 := (hb3.alloc hb3.size _).grown hg2 (by have := hb3.size; simp; omega) (fun q hq => by have := (World.ownsRow.lt HO3.out q hq).1; omega)
          go_roundw
          case rel => exact ⟨k + 1, _, _, _, by omega, by go_num, rfl, rfl, ownAc_snoc hown2 rfl, HR, by simp; omega, hb2⟩
          case measure => simp [intOf]; omega
        · have e1 : decide (o < x) = false := decide_eq_false h1
          by_cases h2 : o = x
          · have e2 : (o == x) = true := by simpa using h2
            have HR := Lib.hid (addR_same hA hlt (by rw [HE.out]; exact h2)); rw [HE.out] at HR
            have hwr : IntKind.i64.wrap (y + u) = y + u := by rw [IntKind.wrap_i64]; omega
            clear hA h1 h2; have HOS := Lib.hid (HOX.out (.cells #[.int .i64 x, .int .i64 (y + u)] 71)); have HBS := Lib.hid (HBX.out (.cells #[.int .i64 x, .int .i64 (y + u)] 71))
            go_wp2_with (first | (at_builtin; refine wpList_append_own _ rfl (.tmp 51) (.tmp 53) _ rfl w.heap.size 71 i0 _ 2 16 Tryz.underlying28 hi0 hz0 hz1 hz2 rfl (by decide) _ _ _ rfl (World.ownsRow.alloc HOS.out _) ⟨_, 0, none⟩ 1 1 [.int .i64 x, .int .i64 (y + u)] rfl rfl (jxa _ _ (by simp) _ _) (jqg [(x, y + u)]) (by unfold maxLen; omega) (by omega) (by simp; omega) ?_; intro v2 w2 hown2 hg2 _))
            have hb2 : Below w.heap.size w w2 := (HBS.out.alloc HBS.out.size _).grown hg2 (by have := HBS.out.size; simp; omega) (fun q hq => by have := (World.ownsRow.lt HOS.out q hq).1; omega)
            go_roundw
            case rel => exact ⟨k + 1, _, _, _, by omega, by go_num, rfl, rfl, ownAc_snoc hown2 rfl, HR, by simp; omega, hb2⟩
            case measure => simp [intOf]; omega
          · have e2 : (o == x) = false := by simpa using h2
            have HR := Lib.hid (addR_behind hA hlt (by rw [HE.out]; exact h1) (by rw [HE.out]; exact h2)); rw [HE.out] at HR; clear hA h1 h2
            go_wp2_with (first | (at_builtin; refine wpList_append_own _ rfl (.tmp 51) (.tmp 53) _ rfl w.heap.size 71 i0 _ 2 16 Tryz.underlying28 hi0 hz0 hz1 hz2 rfl (by decide) _ _ _ rfl (World.ownsRow.alloc HOA.out _) ⟨_, 0, none⟩ 1 1 [.int .i64 x, .int .i64 y] rfl rfl (jxa _ _ (by simp) _ _) (jqg [(x, y)]) (by unfold maxLen; omega) (by omega) (by simp; omega) ?_; intro v2 w2 hown2 hg2 _))
            have hb2 : Below w.heap.size w w2 := (HBA.out.alloc HBA.out.size _).grown hg2 (by have := HBA.out.size; simp; omega) (fun q hq => by have := (World.ownsRow.lt HOA.out q hq).1; omega)
            go_roundw
            case rel => exact ⟨k + 1, _, _, _, by omega, by go_num, rfl, rfl, ownAc_snoc hown2 rfl, HR, by simp; omega, hb2⟩
            case measure => simp [intOf]; omega
    · cases b with
      | true =>
        have HR := Lib.hid (addR_end hA (by omega)); have HO := Lib.hid hO; clear hA hO; go_wp2_with fail; go_ret; exact ⟨_, rfl, by rw [← HR.out]; exact HO.out, hB⟩
      | false =>
        have HR := Lib.hid (addR_last hA (by omega)); have HOA := Lib.hid hO; have HBA := Lib.hid hB; have hsw := hB.size; have hXl : X.length ≤ k := hXl; clear hA hO
        go_wp2_with (first | (at_builtin; refine wpList_append_own _ rfl (.tmp 57) (.tmp 61) _ rfl w.heap.size 71 i0 _ 2 16 Tryz.underlying28 hi0 hz0 hz1 hz2 rfl (by decide) _ _ _ rfl (World.ownsRow.alloc HOA.out _) ⟨_, 0, none⟩ 1 1 [.int .i64 o, .int .i64 u] rfl rfl (jxa _ _ (by simp) _ _) (jqg [(o, u)]) (by unfold maxLen; omega) (by omega) (by simp; omega) ?_; intro v2 w2 hown2 hg2 _))
        have hb2 : Below w.heap.size w w2 := (HBA.out.alloc HBA.out.size _).grown hg2 (by have := HBA.out.size; simp; omega) (fun q hq => by have := (World.ownsRow.lt HOA.out q hq).1; omega); go_ret; exact ⟨_, rfl, by rw [← HR.out]; exact ownAc_snoc (z := (o, u)) hown2 rfl, hb2⟩
def rdO : List Hd → List Dd → Option (List Hd)
 | hs, [] => some hs
 | hs, x :: t => if jjf hs x then rdO (rawL (jv9 hs x)) t else none
theorem rdO_cons (hs : List Hd) (x : Dd) (t : List Dd) : rdO hs (x :: t) = if jjf hs x then rdO (rawL (jv9 hs x)) t else none := by rw [rdO]
def rdB (hs : List Hd) (ds : List Dd) : Bool := vlR hs && (decide (ds.length ≤ 20) && (rdO hs ds).isSome)
def rdL (hs : List Hd) (ds : List Dd) : Led := jq8 ((rdO hs ds).getD [])
theorem rdd_drop {ds : List Dd} {k : Nat} (h : k < ds.length) : ds.drop k = ds.getD k dd0 :: ds.drop (k + 1) := by
 rw [List.drop_eq_getElem_cons h, List.getD_eq_getElem?_getD, List.getElem?_eq_getElem h]; rfl
theorem rdd_stop {hs cur : List Hd} {ds : List Dd} {k : Nat} (hk : k < ds.length) (h : rdO cur (ds.drop k) = rdO hs ds) (hb : jjf cur (ds.getD k dd0) = false) : rdB hs ds = false := by
 rw [rdd_drop hk, rdO_cons, hb] at h; unfold rdB; rw [← h]; simp
theorem rdd_next {hs cur : List Hd} {ds : List Dd} {k : Nat} (hk : k < ds.length) (h : rdO cur (ds.drop k) = rdO hs ds) (hb : jjf cur (ds.getD k dd0) = true) : rdO (rawL (jv9 cur (ds.getD k dd0))) (ds.drop (k + 1)) = rdO hs ds := by
 rw [rdd_drop hk, rdO_cons, hb, if_pos rfl] at h; exact h
theorem rdd_end {hs cur : List Hd} {ds : List Dd} {k : Nat} (hk : ds.length ≤ k) (h : rdO cur (ds.drop k) = rdO hs ds) (hv : vlR hs = true) (hl : ds.length ≤ 20) (hc : vlR cur = true) : rdB hs ds = true ∧ rawL (rdL hs ds) = cur := by
 rw [List.drop_eq_nil_of_le hk] at h; have h : rdO hs ds = some cur := h.symm; refine ⟨by unfold rdB; rw [h, hv, decide_eq_true hl]; rfl, ?_⟩; unfold rdL; rw [h]; exact (vlR_is hc).1
theorem rdd_no {hs : List Hd} {ds : List Dd} (h : vlR hs = false ∨ 20 < ds.length) : rdB hs ds = false := by
 unfold rdB
 rcases h with h | h
 ·rw [h]; rfl
 ·rw [decide_eq_false (by omega)]; simp
theorem iRunDeeds (a : Option Addr) (cap : Nat) (hs : List Hd) (A0 : Option Addr) (capd : Nat) (ds : List Dd) (w : World) (h : IsHs w a hs) (hn : hs.length ≤ 1048576) (hc : hs.length ≤ cap) (hd : IsDds w A0 ds) (hdn : ds.length ≤ 1048576) :
    Calls Tryz.prog 32 #[.slice a hs.length cap, .slice A0 ds.length capd] w (MoveV w (rdB hs ds) (rdL hs ds)) := by
  obtain ⟨i0, hi0, hz0, hz1, hz2⟩ := info_parts infoH; have CV := Lib.hid (iVL a cap hs w h hn); have HI := Lib.hid h; have HD0 := Lib.hid hd; clear h hd
  cases hv : vlR hs with
  | false =>
    have HN := Lib.hid (rdd_no (ds := ds) (.inl hv)); rw [hv] at CV; clear hv; go_enter Tryz.func32, Tryz.ntmps32; go_wp2_with fail; refine CV.out.mono ?_; rintro e u ⟨rfl, C⟩; go_wp2_with fail
    go_returns
    exact move_no _ HN.out C
  | true =>
  rw [hv] at CV; have HV := Lib.hid hv; clear hv
  by_cases big : 20 < ds.length
  · have HN := Lib.hid (rdd_no (hs := hs) (.inr big))
    have e1 : decide ((20 : Int) < (ds.length : Int)) = true := decide_eq_true (by omega); have e2 : decide (20 < ds.length) = true := decide_eq_true big; clear big; go_enter Tryz.func32, Tryz.ntmps32; go_wp2_with fail; refine CV.out.mono ?_; rintro e u ⟨rfl, C⟩; go_wp2_with fail
    go_returns
    exact move_no _ HN.out C
  have e1 : decide ((20 : Int) < (ds.length : Int)) = false := decide_eq_false (by omega); have e2 : decide (20 < ds.length) = false := decide_eq_false big
  have HB : Hid (ds.length ≤ 20) := by show _ ≤ _; omega
  clear big; go_enter Tryz.func32, Tryz.ntmps32; go_wp2_with fail; refine CV.out.mono ?_; rintro e u1 ⟨rfl, B1⟩; go_wp2_with fail; refine (icopy a cap hs _ (jqi HI.out B1) hn).mono ?_; rintro e u2 ⟨v, rfl, O, C⟩; obtain ⟨b2, c2, rfl, I2, hc2⟩ := own_hs2 O; have O2 := Lib.hid (own_le O B1.size); have B2 := jq1 B1 C; clear O C B1; go_wp2_with fail
  go_loopw [6, 23] (fun ch i wr => ∃ (k : Nat) (cur : List Hd) (b : Option Addr) (c : Nat), k ≤ ds.length ∧ i = .int .i64 k ∧ Value.slice b cur.length c = ch ∧ Hid (OwnH wr w.heap.size (.slice b cur.length c) cur) ∧ Hid (vlR cur = true) ∧ Hid (rdO cur (ds.drop k) = rdO hs ds) ∧ Below w.heap.size w wr) (fun _ i _ => ds.length - (intOf i).toNat)
  case atStart => exact ⟨0, hs, b2, c2, Nat.zero_le _, rfl, rfl, O2, HV, rfl, B2⟩
  case round =>
    clear B2 I2; obtain ⟨k, cur, b, c, hk, rfl, rfl, HO, HC, HR, hB⟩ := hrel
    by_cases hlt : k < ds.length
    · rcases HD0.out with h0 | ⟨g, o, rfl, hg⟩
      · rw [h0] at hlt; exact absurd hlt (Nat.not_lt_zero _)
      obtain ⟨A, cz, c0, c1, c2, c3, c4, c5, hz, hzn, hzc⟩ := dd_below (hg k hlt) hB; have HST := Lib.hid (rdd_stop hlt HR.out); have HNX := Lib.hid (rdd_next hlt HR.out); generalize ds.getD k dd0 = x at c0 c1 c2 c3 c4 c5 hz hzn hzc HST HNX; obtain ⟨_, _, he, hI, hcc⟩ := own_hs2 HO.out; injection he with he1 he2 he3; subst he1 he3; have hcl := led_le HC.out
      have k0 : (0 : Int) ≤ (k : Int) := by omega
      have k1 : (k : Int) < (ds.length : Int) := by omega
      have E := (Below.refl _ wr).alloc (Nat.le_refl _) (.cells #[.int .i64 x.k, .int .i64 x.o, .int .i64 x.t, .int .i64 x.n, .int .i64 x.d, .slice A x.zs.length cz] 35); have CR := Lib.hid (iRunDeed b c cur A cz x _ (jqi hI E) (by omega) hcc (jqf hz E) hzn hzc); have BE := Lib.hid (jq1 hB E); clear hg hI hz E hB
      obtain ⟨d, hdb⟩ : ∃ d, jjf cur x = d := ⟨_, rfl⟩
      rw [hdb] at CR HST HNX
      cases d with
      | false =>
        go_wp2_with fail; refine CR.out.mono ?_; rintro e u ⟨v, rfl, m1, m2, C⟩; obtain rfl := m1 rfl; go_wp2_with fail
        go_returns
        exact move_no _ (HST.out (by first | trivial | rfl)) (jq1 BE.out C)
      | true =>
        go_wp2_with fail; refine CR.out.mono ?_; rintro e u ⟨v, rfl, m1, m2, C⟩; have O3 := m2 rfl; obtain ⟨b3, c3, rfl, I3, hc3⟩ := own_hs2 O3; have HO3 := Lib.hid (own_le O3 BE.out.size); have HB3 := Lib.hid (jq1 BE.out C); have HV3 := Lib.hid (deed_vl hdb); have HR3 := Lib.hid (HNX.out (by first | trivial | rfl)); clear m1 m2 O3 I3 C; go_wp2_with fail
        go_roundw
        case rel => exact ⟨k + 1, _, b3, c3, by omega, by go_num, rfl, HO3, HV3, HR3, HB3.out⟩
        case measure => simp [intOf]; omega
    · obtain ⟨r1, r2⟩ := rdd_end (by omega) HR.out HV.out HB.out HC.out
      have HR1 := Lib.hid r1; have HR2 := Lib.hid r2; clear r1 r2; go_wp2_with fail
      go_returns
      exact ⟨_, by rw [HR1.out]; rfl, (fun c => by rw [HR1.out] at c; cases c), (fun _ => by rw [HR2.out]; exact HO.out), hB⟩
theorem tw_sum {t : Tw} (h : twB t = true) : acS t.ac t.ac.length + t.hd + t.ls = t.cm := by
 unfold twB at h; simp only [Bool.and_eq_true, decide_eq_true_eq] at h; exact h.2.2.2.2.2.2.2.2.2
theorem tw_ac {t : Tw} (h : twB t = true) : acB t.ac = true := by
 unfold twB at h; simp only [Bool.and_eq_true] at h; exact h.2.2.2.2.1
theorem tw_nums {t : Tw} (h : twB t = true) : (0 ≤ t.hd ∧ t.hd ≤ 20000) ∧ (0 ≤ t.ls ∧ t.ls ≤ 1000000) ∧ (0 ≤ t.cm ∧ t.cm ≤ 1000000) := by
 unfold twB at h; simp only [Bool.and_eq_true] at h; have v := vb_iff.1 h.2.2.2.1; exact ⟨by omega, jzd h.2.2.2.2.2.2.2.1, jzd h.2.2.2.2.2.2.2.2.1⟩
theorem acS_le {ac : List Ac} (h : acB ac = true) : ∀ d k, k + d ≤ ac.length → acS ac k ≤ acS ac (k + d) := by
  intro d
  induction d with
  | zero => intro k _; exact Int.le_refl _
  | succ d ih =>
    intro k hk; have a := ih k (by omega); have b := (okAc_iff ac (k + d)).1 (acB_at h (k := k + d) (by omega))
    show acS ac k ≤ acS ac (k + d) + (ac.getD (k + d) ac0).2
    omega
theorem acS_all {ac : List Ac} (h : acB ac = true) {k : Nat} (hk : k ≤ ac.length) : 0 ≤ acS ac k ∧ acS ac k ≤ acS ac ac.length := by
 refine ⟨(acS_bd h k hk).1, ?_⟩; have := acS_le h (ac.length - k) k (by omega); rw [show k + (ac.length - k) = ac.length by omega] at this; exact this
theorem unt_ac {ac : List Ac} (h : acB ac = true) {k : Nat} (hk : k < ac.length) : untV ac (ac.getD k ac0).1 = (ac.getD k ac0).2 := by
 have hm : ac.getD k ac0 ∈ ac := by rw [List.getD_eq_getElem?_getD, List.getElem?_eq_getElem hk]; exact List.getElem_mem hk
 exact unt_mem (ac_asc h) hm
theorem unt_le {ac : List Ac} (h : acB ac = true) (q : Int) : 0 ≤ untV ac q ∧ untV ac q ≤ acS ac ac.length := by
 by_cases c : ∃ k, k < ac.length ∧ (ac.getD k ac0).1 = q
 ·obtain ⟨k, hk, e⟩ := c
  have hu := unt_ac h hk; rw [e] at hu; rw [hu]; have a := acS_all h (k := k) (by omega); have b := acS_all h (k := k + 1) (by omega); have d : acS ac (k + 1) = acS ac k + (ac.getD k ac0).2 := rfl; have g := (okAc_iff ac k).1 (acB_at h hk)
  omega
 ·have e : untV ac q = 0 := unt_all (fun j hj e => c ⟨j, hj, e⟩)
  rw [e]; exact ⟨Int.le_refl _, (acS_all h (Nat.le_refl _)).1⟩
theorem unV_yes {t : Tw} (h : twB t = true) (q : Int) : unV t q = untV t.ac q := by unfold unV; rw [h]; rfl

theorem ap_shape {t u : Tw} {e : Ev} (h : apT t e = some u) : (e.k ≠ 5 ∧ u.r = t.r ∧ u.hd = t.hd ∧ u.ac = t.ac ∧ u.rt = t.rt ∧ u.tm = t.tm ∧ u.ls = t.ls ∧ u.cm = t.cm) ∨ (e.k = 5 ∧ 0 ≤ e.nu ∧ e.nu ≤ 500 ∧ u = hourT t e.nu) := by
 have hn := (ap_is h).1; unfold jj1 at hn
 by_cases c0 : e.k = 0
 ·rw [if_pos c0] at hn
  split at hn
  ·injection hn with hn; subst hn; exact .inl ⟨by omega, rfl, rfl, rfl, rfl, rfl, rfl, rfl⟩
  ·cases hn
 rw [if_neg c0] at hn
 by_cases c1 : e.k = 1
 ·rw [if_pos c1] at hn
  split at hn
  ·injection hn with hn; subst hn; exact .inl ⟨by omega, rfl, rfl, rfl, rfl, rfl, rfl, rfl⟩
  ·cases hn
 rw [if_neg c1] at hn
 by_cases c2 : e.k = 2
 ·rw [if_pos c2] at hn
  split at hn
  ·injection hn with hn; subst hn; exact .inl ⟨by omega, rfl, rfl, rfl, rfl, rfl, rfl, rfl⟩
  ·cases hn
 rw [if_neg c2] at hn
 by_cases c3 : e.k = 3
 ·rw [if_pos c3] at hn
  split at hn
  ·injection hn with hn; subst hn; exact .inl ⟨by omega, rfl, rfl, rfl, rfl, rfl, rfl, rfl⟩
  ·cases hn
 rw [if_neg c3] at hn
 by_cases c4 : e.k = 4
 ·rw [if_pos c4] at hn
  injection hn with hn; subst hn; exact .inl ⟨by omega, rfl, rfl, rfl, rfl, rfl, rfl, rfl⟩
 rw [if_neg c4] at hn
 by_cases c5 : e.k = 5
 ·rw [if_pos c5] at hn
  split at hn
  ·rename_i hb
   injection hn with hn; exact .inr ⟨c5, (jzd hb).1, (jzd hb).2, hn.symm⟩
  ·cases hn
 ·rw [if_neg c5] at hn; cases hn
def numE (e : Ev) : Int := if e.k = 5 then e.nu else 0
theorem ap_adds {t u : Tw} {e : Ev} (hv : twB t = true) (h : apT t e = some u) : u.cm = t.cm + numE e ∧ u.tm = t.tm + (if e.k = 5 then 1 else 0) ∧ t.ls ≤ u.ls := by
 rcases ap_shape h with ⟨c, _, _, _, _, h5, h6, h7⟩ | ⟨c, n0, n1, rfl⟩
 ·unfold numE; rw [if_neg c, if_neg c, h5, h6, h7]; omega
 ·obtain ⟨a, _, _, _, _, b, _⟩ := hour_nums (tw_ok hv) ⟨n0, n1⟩
  unfold numE; rw [if_pos c, if_pos c]; refine ⟨rfl, rfl, ?_⟩
  show t.ls ≤ t.ls + jqj t.ns e.nu + jx2 t.r t.hd (e.nu - jqj t.ns e.nu) t.rt
  omega
theorem give_rate {t : Tw} (h : TwOk t) {n : Int} (hn : 0 ≤ n ∧ n ≤ 500) : 0 ≤ jzh t.hd (n - jqj t.ns n) t.rt ∧ jzh t.hd (n - jqj t.ns n) t.rt ≤ t.rt := by
 obtain ⟨l0, l1⟩ := hour_lost h.v3 hn; obtain ⟨r0, r1, d0, d1⟩ := vb_iff.1 h.v4; obtain ⟨q0, q1⟩ := h.v6; have b := step_bd (room := t.r) (held := t.hd) (c := n - jqj t.ns n) (w := t.rt) ⟨d0, d1⟩ (by omega) q0; exact ⟨b.2.2.1, by have := b.2.2.2.1; omega⟩
theorem ap_units {t u : Tw} {e : Ev} (hv : twB t = true) (h : apT t e = some u) (c : e.k = 5) (q : Int) : untV u.ac q = untV t.ac q + (if q = whoM t.ts t.tm then jzh t.hd (e.nu - jqj t.ns e.nu) t.rt else 0) ∧ 0 ≤ jzh t.hd (e.nu - jqj t.ns e.nu) t.rt ∧ jzh t.hd (e.nu - jqj t.ns e.nu) t.rt ≤ t.rt := by
 rcases ap_shape h with ⟨c', _⟩ | ⟨_, n0, n1, rfl⟩
 ·exact absurd c c'
 ·obtain ⟨a, b⟩ := give_rate (tw_ok hv) ⟨n0, n1⟩
  exact ⟨unt_add (ac_asc (tw_ok hv).v5) _ _ _, a, b⟩
end Go.Proofs.YtaehemmjemhgpabGreat
