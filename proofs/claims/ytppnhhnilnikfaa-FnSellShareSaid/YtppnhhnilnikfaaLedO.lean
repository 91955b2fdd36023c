/- What the laws on sales and joined shares want (pure). No condition but those stated. -/
import Derived.Test.YtppnhhnilnikfaaLedN
import Derived.Test.YtppnhhnilnikfaaJoinS
namespace Go.Proofs.Ytppnhhnilnikfaa
theorem sel_is {hs : List Hd} {fr tt pn pd : Int} (h : selB hs fr tt pn pd = true) : vlR hs = true ∧ Wsh.vfB pn pd = true ∧ sellB (ledOf hs) fr tt (Rat.divInt pn pd) = true := by
  unfold selB at h
  simp only [Bool.and_eq_true] at h
  exact ⟨h.1.1, h.1.2, h.2⟩
theorem sel_of {hs : List Hd} {fr tt pn pd : Int} (h1 : vlR hs = true) (h2 : Wsh.vfB pn pd = true) (h3 : sellB (ledOf hs) fr tt (Rat.divInt pn pd) = true) : selB hs fr tt pn pd = true := by
  unfold selB; rw [h1, h2, h3]; rfl
theorem num_pos_iff {q : Rat} (h : 0 ≤ q) : (0 < q.num ∧ q ≠ 0) ∨ (q.num = 0 ∧ q = 0) := by
  have h0 := Rat.num_nonneg.2 h
  by_cases c : q = 0
  · exact .inr ⟨(num_zero q).2 c, c⟩
  · have : q.num ≠ 0 := fun e => c ((num_zero q).1 e)
    exact .inl ⟨by omega, c⟩
theorem join_is {hs : List Hd} {fr tt : Int} (h : joinB hs fr tt = true) : ∃ L, hs = rawL L ∧ VL L ∧ sellB L fr tt (shareL L fr) = true ∧ joinL' hs fr tt = soldL L fr tt (shareL L fr) ∧ fr ≠ tt ∧ shareL L fr ≠ 0 := by
  unfold joinB at h
  obtain ⟨h1, h2, h3⟩ := sel_is h
  have hsh := shV_is h1 fr
  obtain ⟨L, rfl, hv, e⟩ := led_as h1
  rw [led_raw] at hsh h3
  rw [hsh] at h3
  dsimp only at h3
  rw [q_mk] at h3
  have hi := (sell_iff _ _ _ _).1 h3
  refine ⟨L, rfl, hv, h3, ?_, hi.2.2.2.1, hi.2.2.1⟩
  unfold joinL' selL
  rw [hsh, led_raw]
  dsimp only
  rw [q_mk]
theorem join_law {hs : List Hd} {fr tt : Int} (h : joinB hs fr tt = true) : vlR hs = true ∧ vlR (rawL (joinL' hs fr tt)) = true ∧ ((0 < (shV hs tt).1 ∧ (rawL (joinL' hs fr tt)).length + 1 = hs.length) ∨ ((shV hs tt).1 = 0 ∧ (rawL (joinL' hs fr tt)).length = hs.length)) ∧ (shV (rawL (joinL' hs fr tt)) fr).1 = 0 := by
  obtain ⟨L, rfl, hv, hb, hj, hne, hsf⟩ := join_is h
  have hi := (sell_iff _ _ _ _).1 hb
  have hvo : vlR (rawL (soldL L fr tt (shareL L fr))) = true := vlR_raw hi.2.2.2.2.2.2
  obtain ⟨hl, hz⟩ := join_len hv hsf hne
  rw [hj]
  have hvr := vlR_raw hv
  refine ⟨hvr, hvo, ?_, ?_⟩
  · rw [shV_is hvr, led_raw, raw_len, raw_len]
    rcases num_pos_iff (share_nonneg hv.pos tt) with ⟨a, b⟩ | ⟨a, b⟩
    · rw [if_neg b] at hl; exact .inl ⟨a, hl⟩
    · rw [if_pos b] at hl; exact .inr ⟨a, by simpa using hl⟩
  · rw [shV_is hvo, led_raw, hz]; rfl
end Go.Proofs.Ytppnhhnilnikfaa
