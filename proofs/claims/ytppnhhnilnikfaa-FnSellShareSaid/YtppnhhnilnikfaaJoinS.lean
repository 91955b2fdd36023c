/- Shares that are joined, by impl and spec. Condition: at most 1048576 holdings. -/
import Derived.Test.YtppnhhnilnikfaaSellI
namespace Go.Proofs.Ytppnhhnilnikfaa
open Go.RowKit

def joinB (hs : List Hd) (fr tt : Int) : Bool := selB hs fr tt (shV hs fr).1 (shV hs fr).2
def joinL' (hs : List Hd) (fr tt : Int) : Led := selL hs fr tt (shV hs fr).1 (shV hs fr).2
theorem iJoin (a : Option Addr) (cap : Nat) (hs : List Hd) (fr tt : Int) (w : World) (h : IsHs w a hs) (hn : hs.length ≤ 1048576) (hc : hs.length ≤ cap) :
    Calls Try.prog 28 #[.slice a hs.length cap, .int .i64 fr, .int .i64 tt] w (MoveV w (joinB hs fr tt) (joinL' hs fr tt)) := by
  have HI := Lib.hid h
  clear h
  go_enter Try.func28, Try.ntmps28
  go_wp2_with fail
  refine (iShareOf a cap hs fr _ HI.out hn).mono ?_
  rintro e w1 ⟨rfl, hb⟩
  go_wp2_with fail
  refine (iSell a cap hs fr tt _ _ _ (hs_below HI.out hb) hn hc).mono ?_
  rintro e w2 ⟨v, rfl, m1, m2, hb2⟩
  go_wp2_with fail
  go_returns
  exact ⟨v, rfl, m1, (fun c => own_le (m2 c) hb.size), bel_tr hb hb2⟩

set_option maxRecDepth 100000 in
set_option maxHeartbeats 1000000 in
theorem sJoin (a : Option Addr) (cap : Nat) (hs : List Hd) (fr tt : Int) (w : World) (h : IsHs w a hs) (hn : hs.length ≤ 1048576) :
    Calls Try.prog 29 #[.slice a hs.length cap, .int .i64 fr, .int .i64 tt] w (MoveV w (joinB hs fr tt) (joinL' hs fr tt)) := by
  have CV := svl a cap hs w h hn
  have HI := Lib.hid h
  clear h
  cases hv : vlR hs with
  | false =>
    rw [hv] at CV
    have HN : Hid (joinB hs fr tt = false) := by show _ = _; unfold joinB selB; rw [hv]; rfl
    clear hv
    go_enter Try.func29, Try.ntmps29
    go_wp2_with fail
    refine CV.mono ?_
    rintro e w1 ⟨rfl, hb⟩
    go_wp2_with fail
    go_returns
    exact ⟨_, by rw [HN.out]; rfl, (fun _ => rfl), (fun c => by rw [HN.out] at c; cases c), hb⟩
  | true =>
    rw [hv] at CV
    have hV := (vlR_is hv).2
    have hsh : shV hs fr = ((shareL (ledOf hs) fr).num, ((shareL (ledOf hs) fr).den : Int)) := by
      unfold shV
      rw [hv]
      conv => lhs; rw [led_eq hv]
      exact shR_raw _ _
    have hfr := share_frA hV.fr fr
    have hqe : Rat.divInt (shareL (ledOf hs) fr).num ((shareL (ledOf hs) fr).den : Int) = shareL (ledOf hs) fr := q_mk _
    have HJ : Hid (joinB hs fr tt = sellB (ledOf hs) fr tt (shareL (ledOf hs) fr)) := by
      show _ = _
      unfold joinB selB
      rw [hsh, hv, q_vf hfr, hqe]; rfl
    have HJL : Hid (joinL' hs fr tt = soldL (ledOf hs) fr tt (shareL (ledOf hs) fr)) := by
      show _ = _
      unfold joinL' selL
      rw [hsh, hqe]
    have HVL := Lib.hid hV
    have HEq := Lib.hid (led_eq hv)
    have hle := led_le hv
    have HFr := Lib.hid hfr
    clear hv hV hsh hfr hqe
    have SL := fun (W : World) (hW : IsHs W a hs) => sshareL a cap (ledOf hs) hs fr W hW HEq.out hn
    obtain ⟨pn, hpn⟩ : ∃ pn, pn = (shareL (ledOf hs) fr).num := ⟨_, rfl⟩
    obtain ⟨pd, hpd⟩ : ∃ pd, pd = ((shareL (ledOf hs) fr).den : Int) := ⟨_, rfl⟩
    rw [← hpn, ← hpd] at SL
    have HPn := Lib.hid hpn
    have HPd := Lib.hid hpd
    have HSL := Lib.hid SL
    clear hpn hpd SL
    have hfd : ∀ w : World, (Instr.field 27 (.agg #[.int .i64 pn, .int .i64 pd]) 0).run Try.prog w = .ok (.int .i64 pn) w := fun _ => by kernel_rfl
    by_cases hz : pn = 0
    · have HN : Hid (joinB hs fr tt = false) := by show _ = _; rw [HJ.out]; unfold sellB; rw [(num_zero _).1 (HPn.out.symm.trans hz)]; simp
      have e0 : (pn == 0) = true := by simpa using hz
      clear hz
      go_enter Try.func29, Try.ntmps29
      go_wp2_with fail
      refine CV.mono ?_
      rintro e w1 ⟨rfl, hb⟩
      go_wp2_with fail
      refine (HSL.out _ (hs_below HI.out hb)).mono ?_
      rintro e w2 ⟨rfl, hb2⟩
      go_wp2_with fail
      go_returns
      exact ⟨_, by rw [HN.out]; rfl, (fun _ => rfl), (fun c => by rw [HN.out] at c; cases c), bel_tr hb hb2⟩
    · have e0 : (pn == 0) = false := by simpa using hz
      clear hz
      go_enter Try.func29, Try.ntmps29
      go_wp2_with fail
      refine CV.mono ?_
      rintro e w1 ⟨rfl, hb⟩
      go_wp2_with fail
      refine (HSL.out _ (hs_below HI.out hb)).mono ?_
      rintro e w2 ⟨rfl, hb2⟩
      have hB2 := bel_tr hb hb2
      go_wp2_with fail
      refine (HSL.out _ (hs_below HI.out hB2)).mono ?_
      rintro e w3 ⟨rfl, hb3⟩
      have hB3 := bel_tr hB2 hb3
      go_wp2_with fail
      refine (ssell a cap (ledOf hs) hs fr tt _ _ (shareL (ledOf hs) fr) _ (hs_below HI.out hB3) HEq.out (by omega) HVL.out.fr HFr.out HPn.out HPd.out).mono ?_
      rintro e w4 ⟨v, rfl, m1, m2, hb4⟩
      go_wp2_with fail
      go_returns
      exact ⟨v, by rw [HJ.out]; rfl, (fun c => m1 (by rw [← HJ.out]; exact c)), (fun c => by rw [HJL.out]; exact own_le (m2 (by rw [← HJ.out]; exact c)) hB3.size), bel_tr hB3 hb4⟩
theorem vl_small {L : Led} (h : VL L) : 0 < (rawL L).length ∧ (rawL L).length ≤ 1048576 := by
  rw [raw_len]
  refine ⟨?_, by have := h.len; omega⟩
  cases L with
  | nil => have := h.one; exact absurd this (by decide)
  | cons x t => simp
theorem sel_small {hs : List Hd} {fr tt pn pd : Int} (h : selB hs fr tt pn pd = true) : 0 < (rawL (selL hs fr tt pn pd)).length ∧ (rawL (selL hs fr tt pn pd)).length ≤ 1048576 := by
  unfold selB at h
  simp only [Bool.and_eq_true] at h
  exact vl_small ((sell_iff _ _ _ _).1 h.2).2.2.2.2.2.2
theorem join_small {hs : List Hd} {fr tt : Int} (h : joinB hs fr tt = true) : 0 < (rawL (joinL' hs fr tt)).length ∧ (rawL (joinL' hs fr tt)).length ≤ 1048576 := sel_small h
end Go.Proofs.Ytppnhhnilnikfaa
