/- One heir gets all (pure). No condition but those stated. -/
import Derived.Test.YtppnhhnilnikfaaLedO
import Derived.Test.YtppnhhnilnikfaaInherI
namespace Go.Proofs.Ytppnhhnilnikfaa
theorem inh_one {hs : List Hd} {fr tt : Int} (h : joinB hs fr tt = true) : inhB hs fr [tt] = true ∧ inhL hs fr [tt] = joinL' hs fr tt ∧ selB hs fr tt (shV hs fr).1 (shV hs fr).2 = true ∧ selL hs fr tt (shV hs fr).1 (shV hs fr).2 = joinL' hs fr tt := by
  have hvr := (join_law h).1
  refine ⟨?_, ?_, h, rfl⟩
  all_goals
    obtain ⟨L, rfl, hv, hb, hj, hne, hsf⟩ := join_is h
    have hi := (sell_iff _ _ _ _).1 hb
    have hq : inhQ (rawL L) fr [tt] = shareL L fr := by
      unfold inhQ
      rw [led_raw]
      show Rat.divInt (shareL L fr).num ((shareL L fr).den * 1) = _
      rw [Int.mul_one, q_mk]
    have hl : inhL (rawL L) fr [tt] = soldL L fr tt (shareL L fr) := by
      unfold inhL
      rw [hq, led_raw]
      exact heir_one hv.asc hne
  · refine inh_yes hvr (by rw [led_raw]; exact hsf) ?_ (by rw [hq]; exact share_fr hv fr) ?_ (by rw [hl]; exact (vl_iff _).2 hi.2.2.2.2.2.2)
    · unfold heirsB
      have h1 := hi.2.2.2.2.1
      have h2 := hi.2.2.2.2.2.1
      have e : okH [tt] fr 0 = true := by
        unfold okH
        show (decide (1 ≤ tt) && decide (tt ≤ 999) && decide (tt ≠ fr) && decide (tt ∉ [])) = true
        have h3 : tt ≠ fr := fun e => hne e.symm
        rw [decide_eq_true h1, decide_eq_true h2, decide_eq_true h3]; simp
      show (true && true && ([0].all (okH [tt] fr))) = true
      simp [e]
    · unfold gvAll
      show ([0].all (gvOk _ _ [tt])) = true
      have e : gvOk (inhQ (rawL L) fr [tt]) (setL (ledOf (rawL L)) fr 0) [tt] 0 = true := by
        unfold gvOk
        rw [gv_zero, hq, led_raw]
        show frB (shareL (setL L fr 0) tt + shareL L fr) = true
        rw [share_set hv.asc, if_neg (fun e => hne e.symm)]
        exact hi.2.1
      simp [e]
  · rw [hl, hj]
end Go.Proofs.Ytppnhhnilnikfaa
