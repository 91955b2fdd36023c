/- What is sold can be bought back (pure). No condition but those stated. -/
import Derived.Test.YtppnhhnilnikfaaLedO
namespace Go.Proofs.Ytppnhhnilnikfaa
theorem sell_law {hs : List Hd} {fr tt pn pd : Int} (h : selB hs fr tt pn pd = true) : selB (rawL (selL hs fr tt pn pd)) tt fr pn pd = true ∧ rawL (selL (rawL (selL hs fr tt pn pd)) tt fr pn pd) = hs ∧ vlR hs = true ∧ vlR (rawL (selL hs fr tt pn pd)) = true ∧ ∀ k, k < hs.length → (hs.getD k hd0).1 ≠ fr → (hs.getD k hd0).1 ≠ tt → shV (rawL (selL hs fr tt pn pd)) (hs.getD k hd0).1 = (hs.getD k hd0).2 := by
  obtain ⟨h1, h2, h3⟩ := sel_is h
  obtain ⟨L, rfl, hv, e⟩ := led_as h1
  rw [led_raw] at h3
  have hM : selL (rawL L) fr tt pn pd = soldL L fr tt (Rat.divInt pn pd) := by unfold selL; rw [led_raw]
  have hp := frB_nonneg (vf_q h2).2.2
  obtain ⟨b1, b2⟩ := sell_back hv hp h3
  have hi := (sell_iff _ _ _ _).1 h3
  have hvM : vlR (rawL (soldL L fr tt (Rat.divInt pn pd))) = true := vlR_raw hi.2.2.2.2.2.2
  rw [hM]
  refine ⟨sel_of hvM h2 (by rw [led_raw]; exact b1), ?_, h1, hvM, fun k hk hf ht => ?_⟩
  · unfold selL; rw [led_raw, b2]
  · rw [raw_len] at hk
    rw [hd_get L hk] at hf ht ⊢
    dsimp only at hf ht ⊢
    rw [shV_is hvM, led_raw, sold_share hv.asc, if_neg ht, if_neg hf, share_of_mem hv.asc (mem_at L hk)]
end Go.Proofs.Ytppnhhnilnikfaa
