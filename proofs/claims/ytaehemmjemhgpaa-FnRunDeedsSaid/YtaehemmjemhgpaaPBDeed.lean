/- One deed, by impl and by the model. Condition: at most 1048576 holdings and heirs. -/
import Derived.Test.YtaehemmjemhgpaaPBInherI
import Derived.Test.YtaehemmjemhgpaaPBInherS
import Derived.Test.YtaehemmjemhgpaaPBG4
import Derived.Test.YtaehemmjemhgpaaPBG1
import Derived.Deep.RegionHeld3
import Derived.Deep.RegionWith
import Derived.RegionTactic
import Derived.BigRegion
set_option maxRecDepth 100000
set_option maxHeartbeats 16000000
namespace Go.Proofs.Ytaehemmjemhgpaa
open Go.RowKit
set_option linter.unusedSimpArgs false
set_option linter.unusedVariables false
def deedB (hs : List Hd) (x : Dd) : Bool := if x.k = 0 then selB hs x.o x.t x.n x.d else if x.k = 1 then inhB hs x.o x.zs else if x.k = 2 then joinB hs x.o x.t else false
def deedL (hs : List Hd) (x : Dd) : Led := if x.k = 0 then selL hs x.o x.t x.n x.d else if x.k = 1 then inhL hs x.o x.zs else joinL' hs x.o x.t
theorem sel_vl {hs : List Hd} {fr tt pn pd : Int} (h : selB hs fr tt pn pd = true) : VL (selL hs fr tt pn pd) := by
  unfold selB at h
  simp only [Bool.and_eq_true] at h
  exact ((sell_iff _ _ _ _).1 h.2).2.2.2.2.2.2
theorem inh_vl {hs : List Hd} {owner : Int} {zs : List Int} (h : inhB hs owner zs = true) : vlR (rawL (inhL hs owner zs)) = true := by
  unfold inhB at h
  simp only [Bool.and_eq_true] at h
  have := h.2
  rw [← vlR_vl] at this
  exact this
theorem vl_raw {L : Led} (h : VL L) : vlR (rawL L) = true := by
  rw [vlR_vl]; exact (vl_iff L).2 h
theorem deed_vl {hs : List Hd} {x : Dd} (h : deedB hs x = true) : vlR (rawL (deedL hs x)) = true := by
  unfold deedB at h
  unfold deedL
  by_cases h0 : x.k = 0
  · rw [if_pos h0] at h ⊢; exact vl_raw (sel_vl h)
  · rw [if_neg h0] at h ⊢
    by_cases h1 : x.k = 1
    · rw [if_pos h1] at h ⊢; exact inh_vl h
    · rw [if_neg h1] at h ⊢
      by_cases h2 : x.k = 2
      · rw [if_pos h2] at h; exact vl_raw (sel_vl h)
      · rw [if_neg h2] at h; cases h
theorem move_as {w : World} {b b' : Bool} {L L' : Led} {e : Ending} {w' : World} (h : MoveV w b L e w') (hb : b = b') (hL : b' = true → L = L') : MoveV w b' L' e w' := by
  subst hb
  obtain ⟨v, he, m1, m2, hB⟩ := h
  exact ⟨v, he, m1, fun c => by rw [← hL c]; exact m2 c, hB⟩
theorem move_no {w w' : World} {b : Bool} (L : Led) (hb : b = false) (hB : Below w.heap.size w w') : MoveV w b L (.returned (.tuple #[.slice none 0 0, .bool false])) w' := by
  subst hb
  exact ⟨_, rfl, fun _ => rfl, (fun c => by cases c), hB⟩
theorem move_up {w W w' : World} {v : Value} {b : Bool} {L : Led} (hB : Below w.heap.size w W) (m1 : b = false → v = .slice none 0 0) (m2 : b = true → OwnH w' W.heap.size v (rawL L)) (hb : Below W.heap.size W w') : MoveV w b L (.returned (.tuple #[v, .bool b])) w' :=
  ⟨v, rfl, m1, (fun c => own_le (m2 c) hB.size), bel_tr hB hb⟩
/-- impl.runDeed -/
theorem iRunDeed (a : Option Addr) (cap : Nat) (hs : List Hd) (A : Option Addr) (capz : Nat) (x : Dd) (w : World) (h : IsHs w a hs) (hn : hs.length ≤ 1048576) (hc : hs.length ≤ cap) (hz : IsInts w A x.zs) (hzn : x.zs.length ≤ 1048576) (hzc : x.zs.length ≤ capz) :
    Calls Try.prog 60 #[.slice a hs.length cap, .agg #[.int .i64 x.k, .int .i64 x.o, .int .i64 x.t, .int .i64 x.n, .int .i64 x.d, .slice A x.zs.length capz]] w (MoveV w (deedB hs x) (deedL hs x)) := by
  obtain ⟨k, o, t, n, d, zs⟩ := x
  dsimp only at hz hzn hzc ⊢
  have B0 : Below w.heap.size w (w.alloc (.cells #[.int .i64 k, .int .i64 o, .int .i64 t, .int .i64 n, .int .i64 d, .slice A zs.length capz] 61)) := by go_grown
  have K := Blk.new w 61 #[.int .i64 k, .int .i64 o, .int .i64 t, .int .i64 n, .int .i64 d, .slice A zs.length capz]
  have q0 := K.cell 0
  have q1 := K.cell 1
  have q2 := K.cell 2
  have q3 := K.cell 3
  have q4 := K.cell 4
  have q5 := K.cell 5
  dsimp at q0 q1 q2 q3 q4 q5
  have HI := Lib.hid (hs_below h B0)
  have HZ := Lib.hid (ints_below hz B0)
  have HB := Lib.hid B0
  clear h hz B0 K
  by_cases c0 : k = 0
  · subst c0
    have e1 : Hid (deedB hs ⟨0, o, t, n, d, zs⟩ = selB hs o t n d) := rfl
    have e2 : Hid (deedL hs ⟨0, o, t, n, d, zs⟩ = selL hs o t n d) := rfl
    go_enter Try.func60, Try.ntmps60
    go_wp2_with fail
    refine (iSell a cap hs o t n d _ HI.out hn hc).mono ?_
    rintro e w2 ⟨v, rfl, m1, m2, hb2⟩
    go_wp2_with fail
    go_returns
    exact move_as (move_up HB.out m1 m2 hb2) e1.out.symm (fun _ => e2.out.symm)
  have d0 : (k == 0) = false := by simpa using c0
  by_cases c1 : k = 1
  · subst c1
    have e1 : Hid (deedB hs ⟨1, o, t, n, d, zs⟩ = inhB hs o zs) := rfl
    have e2 : Hid (deedL hs ⟨1, o, t, n, d, zs⟩ = inhL hs o zs) := rfl
    clear c0
    go_enter Try.func60, Try.ntmps60
    go_wp2_with fail
    refine (iInherit a cap hs o A capz zs _ HI.out hn hc HZ.out hzn hzc).mono ?_
    rintro e w2 ⟨v, rfl, m1, m2, hb2⟩
    go_wp2_with fail
    go_returns
    exact move_as (move_up HB.out m1 m2 hb2) e1.out.symm (fun _ => e2.out.symm)
  have d1 : (k == 1) = false := by simpa using c1
  by_cases c2 : k = 2
  · subst c2
    have e1 : Hid (deedB hs ⟨2, o, t, n, d, zs⟩ = joinB hs o t) := rfl
    have e2 : Hid (deedL hs ⟨2, o, t, n, d, zs⟩ = joinL' hs o t) := rfl
    clear c0 c1
    go_enter Try.func60, Try.ntmps60
    go_wp2_with fail
    refine (iJoin a cap hs o t _ HI.out hn hc).mono ?_
    rintro e w2 ⟨v, rfl, m1, m2, hb2⟩
    go_wp2_with fail
    go_returns
    exact move_as (move_up HB.out m1 m2 hb2) e1.out.symm (fun _ => e2.out.symm)
  have d2 : (k == 2) = false := by simpa using c2
  have e1 : Hid (deedB hs ⟨k, o, t, n, d, zs⟩ = false) := by show _ = _; unfold deedB; dsimp only; rw [if_neg c0, if_neg c1, if_neg c2]
  clear c0 c1 c2
  go_enter Try.func60, Try.ntmps60
  go_wp2_with fail
  go_returns
  exact move_no _ e1.out HB.out
/-- spec.runDeed -/
theorem sRunDeed (a : Option Addr) (cap : Nat) (hs : List Hd) (A : Option Addr) (capz : Nat) (x : Dd) (w : World) (h : IsHs w a hs) (hn : hs.length ≤ 1048576) (hc : hs.length ≤ cap) (hz : IsInts w A x.zs) (hzn : x.zs.length ≤ 1048576) (hzc : x.zs.length ≤ capz) (hv : vlR hs = true) :
    Calls Try.prog 57 #[.slice a hs.length cap, .agg #[.int .i64 x.k, .int .i64 x.o, .int .i64 x.t, .int .i64 x.n, .int .i64 x.d, .slice A x.zs.length capz]] w (MoveV w (deedB hs x) (deedL hs x)) := by
  obtain ⟨k, o, t, n, d, zs⟩ := x
  dsimp only at hz hzn hzc ⊢
  have B0 : Below w.heap.size w (w.alloc (.cells #[.int .i64 k, .int .i64 o, .int .i64 t, .int .i64 n, .int .i64 d, .slice A zs.length capz] 61)) := by go_grown
  have K := Blk.new w 61 #[.int .i64 k, .int .i64 o, .int .i64 t, .int .i64 n, .int .i64 d, .slice A zs.length capz]
  have q0 := K.cell 0
  have q1 := K.cell 1
  have q2 := K.cell 2
  have q3 := K.cell 3
  have q4 := K.cell 4
  have q5 := K.cell 5
  dsimp at q0 q1 q2 q3 q4 q5
  have HI := Lib.hid (hs_below h B0)
  have HZ := Lib.hid (ints_below hz B0)
  have HB := Lib.hid B0
  have hV := (vlR_is hv).2
  have HVL := Lib.hid hV
  have HEq := Lib.hid (led_eq hv)
  have hle := led_le hv
  have HV := Lib.hid hv
  by_cases c0 : k = 0
  · subst c0
    have e2 : Hid (deedL hs ⟨0, o, t, n, d, zs⟩ = soldL (ledOf hs) o t (Rat.divInt n d)) := rfl
    cases hf : Wsh.vfB n d with
    | false =>
      have e1 : Hid (deedB hs ⟨0, o, t, n, d, zs⟩ = false) := by show selB hs o t n d = false; unfold selB; rw [hv, hf]; rfl
      have HF := Lib.hid hf
      clear h hz B0 hv hV hf
      go_enter Try.func57, Try.ntmps57
      go_wp2_with fail
      refine (vf_boolN HF.out _).mono ?_
      rintro e w2 ⟨rfl, hb⟩
      go_wp2_with fail
      go_returns
      exact move_no _ e1.out (bel_tr HB.out hb)
    | true =>
      have e1 : Hid (deedB hs ⟨0, o, t, n, d, zs⟩ = sellB (ledOf hs) o t (Rat.divInt n d)) := by show selB hs o t n d = _; unfold selB; rw [hv, hf]; rfl
      have HF := Lib.hid hf
      obtain ⟨f1, f2, f3⟩ := vf_q hf
      have HF1 := Lib.hid f1
      have HF2 := Lib.hid f2
      have HF3 := Lib.hid f3
      clear h hz B0 hv hV hf f1 f2 f3
      go_enter Try.func57, Try.ntmps57
      go_wp2_with fail
      refine (vf_boolY HF.out _).mono ?_
      rintro e w2 ⟨rfl, hb⟩
      have K2 := K.next hb
      clear q0 q1 q2 q3 q4 q5
      have q0 := K2.cell 0
      have q1 := K2.cell 1
      have q2 := K2.cell 2
      have q3 := K2.cell 3
      have q4 := K2.cell 4
      have q5 := K2.cell 5
      dsimp at q0 q1 q2 q3 q4 q5
      have HB2 := Lib.hid (bel_tr HB.out hb)
      have HI2 := Lib.hid (hs_below HI.out hb)
      clear hb
      go_wp2_with fail
      refine (ssell a cap (ledOf hs) hs o t n d (Rat.divInt n d) _ HI2.out HEq.out (by omega) HVL.out.fr HF3.out HF1.out.symm HF2.out.symm).mono ?_
      rintro e w4 ⟨v, rfl, m1, m2, hb4⟩
      go_wp2_with fail
      go_returns
      exact move_as (move_up HB2.out m1 m2 hb4) e1.out.symm (fun _ => e2.out.symm)
  have d0 : (k == 0) = false := by simpa using c0
  by_cases c1 : k = 1
  · subst c1
    have e1 : Hid (deedB hs ⟨1, o, t, n, d, zs⟩ = inhB hs o zs) := rfl
    have e2 : Hid (deedL hs ⟨1, o, t, n, d, zs⟩ = inhL hs o zs) := rfl
    clear h hz B0 hv hV c0
    go_enter Try.func57, Try.ntmps57
    go_wp2_with fail
    refine (sinherit a cap hs o A capz zs _ HI.out HV.out HZ.out hzn hzc).mono ?_
    rintro e w2 ⟨v, rfl, m1, m2, hb2⟩
    go_wp2_with fail
    go_returns
    exact move_as (move_up HB.out m1 m2 hb2) e1.out.symm (fun _ => e2.out.symm)
  have d1 : (k == 1) = false := by simpa using c1
  by_cases c2 : k = 2
  · subst c2
    have hsh : shV hs o = ((shareL (ledOf hs) o).num, ((shareL (ledOf hs) o).den : Int)) := by
      unfold shV
      rw [hv]
      conv => lhs; rw [led_eq hv]
      exact shR_raw _ _
    have hfr := share_frA hV.fr o
    have hqe : Rat.divInt (shareL (ledOf hs) o).num ((shareL (ledOf hs) o).den : Int) = shareL (ledOf hs) o := q_mk _
    have e1 : Hid (deedB hs ⟨2, o, t, n, d, zs⟩ = sellB (ledOf hs) o t (shareL (ledOf hs) o)) := by
      show joinB hs o t = _
      unfold joinB selB
      rw [hsh, hv, q_vf hfr, hqe]; rfl
    have e2 : Hid (deedL hs ⟨2, o, t, n, d, zs⟩ = soldL (ledOf hs) o t (shareL (ledOf hs) o)) := by
      show joinL' hs o t = _
      unfold joinL' selL
      rw [hsh, hqe]
    have HFr := Lib.hid hfr
    clear hsh hfr hqe
    have SL := fun (W : World) (hW : IsHs W a hs) => sshareL a cap (ledOf hs) hs o W hW HEq.out hn
    obtain ⟨pn, hpn⟩ : ∃ pn, pn = (shareL (ledOf hs) o).num := ⟨_, rfl⟩
    obtain ⟨pd, hpd⟩ : ∃ pd, pd = ((shareL (ledOf hs) o).den : Int) := ⟨_, rfl⟩
    rw [← hpn, ← hpd] at SL
    have HPn := Lib.hid hpn
    have HPd := Lib.hid hpd
    have HSL := Lib.hid SL
    clear hpn hpd SL
    have hfd : ∀ w : World, (Instr.field 58 (.agg #[.int .i64 pn, .int .i64 pd]) 0).run Try.prog w = .ok (.int .i64 pn) w := fun _ => by kernel_rfl
    by_cases hz0 : pn = 0
    · have HN : Hid (deedB hs ⟨2, o, t, n, d, zs⟩ = false) := by show _ = _; rw [e1.out]; unfold sellB; rw [(num_zero _).1 (HPn.out.symm.trans hz0)]; simp
      have e0 : (pn == 0) = true := by simpa using hz0
      clear h hz B0 hv hV c0 c1 hz0
      go_enter Try.func57, Try.ntmps57
      go_wp2_with fail
      refine (HSL.out _ HI.out).mono ?_
      rintro e w2 ⟨rfl, hb2⟩
      go_wp2_with fail
      go_returns
      exact move_no _ HN.out (bel_tr HB.out hb2)
    · have e0 : (pn == 0) = false := by simpa using hz0
      clear h hz B0 hv hV c0 c1 hz0
      go_enter Try.func57, Try.ntmps57
      go_wp2_with fail
      refine (HSL.out _ HI.out).mono ?_
      rintro e w2 ⟨rfl, hb2⟩
      have K2 := K.next hb2
      clear q0 q1 q2 q3 q4 q5
      have q0 := K2.cell 0
      have q1 := K2.cell 1
      have q2 := K2.cell 2
      have q3 := K2.cell 3
      have q4 := K2.cell 4
      have q5 := K2.cell 5
      dsimp at q0 q1 q2 q3 q4 q5
      have HB2 := Lib.hid (bel_tr HB.out hb2)
      have HI2 := Lib.hid (hs_below HI.out hb2)
      clear hb2
      go_wp2_with fail
      have HMK1 := Lib.hid (fun (W : World) (hW : Below w2.heap.size w2 W) => (⟨⟨(hW.cell (p := ⟨w.heap.size, 1, none⟩) (K2.lt)).trans q1, (hW.cell (p := ⟨w.heap.size, 2, none⟩) (K2.lt)).trans q2⟩, hW⟩ : (W.cell? ⟨w.heap.size, 1, none⟩ = some (.int .i64 o) ∧ W.cell? ⟨w.heap.size, 2, none⟩ = some (.int .i64 t)) ∧ Below w2.heap.size w2 W))
      refine wp_region_held_drew (S := (fun w' => (w'.cell? ⟨w.heap.size, 1, none⟩ = some (.int .i64 o) ∧ w'.cell? ⟨w.heap.size, 2, none⟩ = some (.int .i64 t)) ∧ Below w2.heap.size w2 w')) (by kernel_rfl) ?_ (fun hHeld => ?_)
      · exact ⟨⟨q1, q2⟩, (Below.refl _ _).drew⟩
      refine wpAnyH_take (i := 0) (oi := ?ooa2_) (v := ?vva2_) ?hia2_ (by kernel_rfl) ?h3a2_ ?h4a2_ ?h5a2_ ?h6a2_ (by assumption) ?h8a2_
      case hia2_ => (simp only [List.getElem?_toArray, List.getElem?_cons_succ, List.getElem?_cons_zero]; rfl)
      case h3a2_ => kernel_rfl
      case h4a2_ => kernel_rfl
      case h6a2_ => (refine Or.inl ⟨by rfl, ?_⟩; intro w hSw; (try dsimp only at hSw); (go_simp <;> with_reducible rfl))
      case h5a2_ => exact fun _ _ _ h => h
      try simp only [Act.put, List.setIfInBounds_toArray, List.set_cons_zero, List.set_cons_succ]
      refine wpAnyH_take (i := 1) (oi := ?ooa3_) (v := ?vva3_) ?hia3_ (by kernel_rfl) ?h3a3_ ?h4a3_ ?h5a3_ ?h6a3_ (by assumption) ?h8a3_
      case hia3_ => (simp only [List.getElem?_toArray, List.getElem?_cons_succ, List.getElem?_cons_zero]; rfl)
      case h3a3_ => kernel_rfl
      case h4a3_ => kernel_rfl
      case h6a3_ => (refine Or.inl ⟨by rfl, ?_⟩; intro w hSw; (try dsimp only at hSw); (go_simp <;> with_reducible rfl))
      case h5a3_ => exact fun _ _ _ h => h
      try simp only [Act.put, List.setIfInBounds_toArray, List.set_cons_zero, List.set_cons_succ]
      refine wpAnyH_take (i := 2) (oi := ?ooa4_) (v := ?vva4_) ?hia4_ (by kernel_rfl) ?h3a4_ ?h4a4_ ?h5a4_ ?h6a4_ (by assumption) ?h8a4_
      case hia4_ => (simp only [List.getElem?_toArray, List.getElem?_cons_succ, List.getElem?_cons_zero]; rfl)
      case h3a4_ => kernel_rfl
      case h4a4_ => kernel_rfl
      case h6a4_ => (refine Or.inl ⟨by rfl, ?_⟩; intro w hSw; (try dsimp only at hSw); (go_simp <;> with_reducible rfl))
      case h5a4_ => exact fun _ _ _ h => h
      try simp only [Act.put, List.setIfInBounds_toArray, List.set_cons_zero, List.set_cons_succ]
      refine wpAnyH_take (i := 3) (oi := ?ooa5_) (v := ?vva5_) ?hia5_ (by kernel_rfl) ?h3a5_ ?h4a5_ ?h5a5_ ?h6a5_ (by assumption) ?h8a5_
      case hia5_ => (simp only [List.getElem?_toArray, List.getElem?_cons_succ, List.getElem?_cons_zero]; rfl)
      case h3a5_ => kernel_rfl
      case h4a5_ => kernel_rfl
      case h6a5_ => (refine Or.inl ⟨by rfl, ?_⟩; intro w hSw; (try dsimp only at hSw); (go_simp <;> with_reducible rfl))
      case h5a5_ => exact fun _ _ _ h => h
      try simp only [Act.put, List.setIfInBounds_toArray, List.set_cons_zero, List.set_cons_succ]
      refine wpAnyH_take (i := 4) (oi := ?ooa6_) (v := ?vva6_) ?hia6_ (by kernel_rfl) ?h3a6_ ?h4a6_ ?h5a6_ ?h6a6_ (by assumption) ?h8a6_
      case hia6_ => (simp only [List.getElem?_toArray, List.getElem?_cons_succ, List.getElem?_cons_zero]; rfl)
      case h3a6_ => kernel_rfl
      case h4a6_ => kernel_rfl
      case h6a6_ => (refine Or.inl ⟨by rfl, ?_⟩; intro w hSw; (try dsimp only at hSw); (go_simp <;> with_reducible rfl))
      case h5a6_ => exact fun _ _ _ h => h
      try simp only [Act.put, List.setIfInBounds_toArray, List.set_cons_zero, List.set_cons_succ]
      refine wpAnyH_take (i := 5) (oi := ?ooa7_) (v := ?vva7_) ?hia7_ (by kernel_rfl) ?h3a7_ ?h4a7_ ?h5a7_ ?h6a7_ (by assumption) ?h8a7_
      case hia7_ => (simp only [List.getElem?_toArray, List.getElem?_cons_succ, List.getElem?_cons_zero]; rfl)
      case h3a7_ => kernel_rfl
      case h4a7_ => kernel_rfl
      case h6a7_ => (refine Or.inl ⟨by rfl, ?_⟩; intro w hSw; (try dsimp only at hSw); (go_simp <;> with_reducible rfl))
      case h5a7_ => exact fun _ _ _ h => h
      try simp only [Act.put, List.setIfInBounds_toArray, List.set_cons_zero, List.set_cons_succ]
      refine wpAnyH_take (i := 6) (oi := ?ooa8_) (v := ?vva8_) ?hia8_ (by kernel_rfl) ?h3a8_ ?h4a8_ ?h5a8_ ?h6a8_ (by assumption) ?h8a8_
      case hia8_ => (simp only [List.getElem?_toArray, List.getElem?_cons_succ, List.getElem?_cons_zero]; rfl)
      case h3a8_ => kernel_rfl
      case h4a8_ => kernel_rfl
      case h6a8_ => (refine Or.inl ⟨by rfl, ?_⟩; intro w hSw; (try dsimp only at hSw); (go_simp <;> with_reducible rfl))
      case h5a8_ => exact fun _ _ _ h => h
      try simp only [Act.put, List.setIfInBounds_toArray, List.set_cons_zero, List.set_cons_succ]
      refine wpAnyH_take (i := 7) (oi := ?ooa9_) (v := ?vva9_) ?hia9_ (by kernel_rfl) ?h3a9_ ?h4a9_ ?h5a9_ ?h6a9_ (by assumption) ?h8a9_
      case hia9_ => (simp only [List.getElem?_toArray, List.getElem?_cons_succ, List.getElem?_cons_zero]; rfl)
      case h3a9_ => kernel_rfl
      case h4a9_ => kernel_rfl
      case h6a9_ => (refine Or.inl ⟨by rfl, ?_⟩; intro w hSw; (try dsimp only at hSw); (go_simp <;> with_reducible rfl))
      case h5a9_ => exact fun _ _ _ h => h
      try simp only [Act.put, List.setIfInBounds_toArray, List.set_cons_zero, List.set_cons_succ]
      refine wpAnyH_ready (rs := [8]) (by kernel_rfl) (by simp) (AllReadyH.cons (o := ?ooa10_q0) ?hia10_q0 (fun K hK => ?hka10_q0) AllReadyH.nil)
      case hia10_q0 => (simp only [List.getElem?_toArray, List.getElem?_cons_succ, List.getElem?_cons_zero]; rfl)
      case hka10_q0 =>
        (rw [if_pos (by rfl)]; go_simp; refine (HSL.out _ (hs_below HI2.out hHeld.2)).mono ?_; rintro e w3_ ⟨rfl, hb3⟩; go_wp2_with fail; refine hK.out _ _ (HMK1.out _ (bel_tr hHeld.2 hb3)) (fun hHeld => ?_); clear hK K)
        try simp only [Act.put, List.setIfInBounds_toArray, List.set_cons_zero, List.set_cons_succ]
        refine wpAnyH_ready (rs := [9]) (by kernel_rfl) (by simp) (AllReadyH.cons (o := ?ooa11_q0) ?hia11_q0 (fun K hK => ?hka11_q0) AllReadyH.nil)
        case hia11_q0 => (simp only [List.getElem?_toArray, List.getElem?_cons_succ, List.getElem?_cons_zero]; rfl)
        case hka11_q0 =>
          (rw [if_pos (by rfl)]; go_simp; refine (ssell a cap (ledOf hs) hs o t _ _ (shareL (ledOf hs) o) _ (hs_below HI2.out hHeld.2) HEq.out (by omega) HVL.out.fr HFr.out HPn.out HPd.out).mono ?_; rintro e w4_ ⟨v, rfl, m1, m2, hb4⟩; have HM1 := Lib.hid m1; have HM2 := Lib.hid m2; have HB3 := Lib.hid (bel_tr HB2.out hHeld.2); have HB4 := Lib.hid hb4; clear m1 m2; go_wp2_with fail; refine hK.out _ _ (HMK1.out _ (bel_tr hHeld.2 hb4)) (fun hHeld => ?_); clear hK K)
          try simp only [Act.put, List.setIfInBounds_toArray, List.set_cons_zero, List.set_cons_succ]
          refine wpAnyH_take (i := 10) (oi := ?ooa12_) (v := ?vva12_) ?hia12_ (by kernel_rfl) ?h3a12_ ?h4a12_ ?h5a12_ ?h6a12_ (by assumption) ?h8a12_
          case hia12_ => (simp only [List.getElem?_toArray, List.getElem?_cons_succ, List.getElem?_cons_zero]; rfl)
          case h3a12_ => kernel_rfl
          case h4a12_ => kernel_rfl
          case h6a12_ => (refine Or.inl ⟨by rfl, ?_⟩; intro w hSw; (try dsimp only at hSw); (go_simp <;> with_reducible rfl))
          case h5a12_ => exact fun _ _ _ h => h
          try simp only [Act.put, List.setIfInBounds_toArray, List.set_cons_zero, List.set_cons_succ]
          refine wpAnyH_take (i := 11) (oi := ?ooa13_) (v := ?vva13_) ?hia13_ (by kernel_rfl) ?h3a13_ ?h4a13_ ?h5a13_ ?h6a13_ (by assumption) ?h8a13_
          case hia13_ => (simp only [List.getElem?_toArray, List.getElem?_cons_succ, List.getElem?_cons_zero]; rfl)
          case h3a13_ => kernel_rfl
          case h4a13_ => kernel_rfl
          case h6a13_ => (refine Or.inl ⟨by rfl, ?_⟩; intro w hSw; (try dsimp only at hSw); (go_simp <;> with_reducible rfl))
          case h5a13_ => exact fun _ _ _ h => h
          try simp only [Act.put, List.setIfInBounds_toArray, List.set_cons_zero, List.set_cons_succ]
          refine wpAnyH_take (i := 12) (oi := ?ooa14_) (v := ?vva14_) ?hia14_ (by kernel_rfl) ?h3a14_ ?h4a14_ ?h5a14_ ?h6a14_ (by assumption) ?h8a14_
          case hia14_ => (simp only [List.getElem?_toArray, List.getElem?_cons_succ, List.getElem?_cons_zero]; rfl)
          case h3a14_ => kernel_rfl
          case h4a14_ => kernel_rfl
          case h6a14_ => (refine Or.inl ⟨by rfl, ?_⟩; intro w hSw; (try dsimp only at hSw); (go_simp <;> with_reducible rfl))
          case h5a14_ => exact fun _ _ _ h => h
          try simp only [Act.put, List.setIfInBounds_toArray, List.set_cons_zero, List.set_cons_succ]
          refine wpAnyH_take (i := 13) (oi := ?ooa15_) (v := ?vva15_) ?hia15_ (by kernel_rfl) ?h3a15_ ?h4a15_ ?h5a15_ ?h6a15_ (by assumption) ?h8a15_
          case hia15_ => (simp only [List.getElem?_toArray, List.getElem?_cons_succ, List.getElem?_cons_zero]; rfl)
          case h3a15_ => kernel_rfl
          case h4a15_ => kernel_rfl
          case h6a15_ => (refine Or.inl ⟨by rfl, ?_⟩; intro w hSw; (try dsimp only at hSw); (go_simp <;> with_reducible rfl))
          case h5a15_ => exact fun _ _ _ h => h
          try simp only [Act.put, List.setIfInBounds_toArray, List.set_cons_zero, List.set_cons_succ]
          refine wpAnyH_done (by kernel_rfl) ?_ _
          clear HMK1
          clear hHeld
          go_wp2_with fail
          go_returns
          exact move_as (move_up HB3.out HM1.out HM2.out HB4.out) e1.out.symm (fun _ => e2.out.symm)
  have d2 : (k == 2) = false := by simpa using c2
  have e1 : Hid (deedB hs ⟨k, o, t, n, d, zs⟩ = false) := by show _ = _; unfold deedB; dsimp only; rw [if_neg c0, if_neg c1, if_neg c2]
  clear h hz B0 hv hV c0 c1 c2
  go_enter Try.func57, Try.ntmps57
  go_wp2_with fail
  go_returns
  exact move_no _ e1.out HB.out
end Go.Proofs.Ytaehemmjemhgpaa
