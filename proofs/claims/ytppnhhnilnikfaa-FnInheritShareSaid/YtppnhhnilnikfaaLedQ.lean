/- Heirs get equal parts (pure). No condition but those stated. -/
import Derived.Test.YtppnhhnilnikfaaLedP
namespace Go.Proofs.Ytppnhhnilnikfaa
theorem okH_is {zs : List Int} {owner : Int} {k : Nat} (h : okH zs owner k = true) : zs.getD k 0 ≠ owner ∧ zs.getD k 0 ∉ zs.take k := by
  unfold okH at h
  simp only [Bool.and_eq_true, decide_eq_true_eq] at h
  exact ⟨h.1.2, h.2⟩
theorem heirs_is {zs : List Int} {owner : Int} (h : heirsB zs owner = true) : 1 ≤ zs.length ∧ zs.length ≤ 12 ∧ zs.Nodup ∧ owner ∉ zs := by
  unfold heirsB at h
  simp only [Bool.and_eq_true, decide_eq_true_eq] at h
  obtain ⟨⟨h1, h2⟩, h3⟩ := h
  rw [rng_all] at h3
  have hk := fun k hk => okH_is (h3 k hk)
  have gd : ∀ k (hk : k < zs.length), zs.getD k 0 = zs[k] := fun k hk => by rw [List.getD_eq_getElem?_getD, List.getElem?_eq_getElem hk]; rfl
  refine ⟨h1, h2, ?_, fun c => ?_⟩
  · rw [List.nodup_iff_pairwise_ne, List.pairwise_iff_getElem]
    intro i j hi hj hij e
    have := (hk j hj).2
    rw [gd j hj, ← e] at this
    exact this (List.mem_take_iff_getElem.2 ⟨i, by omega, rfl⟩)
  · obtain ⟨k, hkl, e⟩ := List.mem_iff_getElem.1 c
    have := (hk k hkl).1
    rw [gd k hkl] at this
    exact this e
theorem inh_law {hs : List Hd} {owner : Int} {zs : List Int} (h : inhB hs owner zs = true) : ∃ pn pd : Int, 0 < pn ∧ vlR hs = true ∧ vlR (rawL (inhL hs owner zs)) = true ∧ 1 ≤ zs.length ∧ zs.length ≤ 12 ∧ (shV (rawL (inhL hs owner zs)) owner).1 = 0 ∧ ∀ k, k < zs.length →
    frV (Wsh.vfB (shV (rawL (inhL hs owner zs)) (zs.getD k 0)).1 (shV (rawL (inhL hs owner zs)) (zs.getD k 0)).2 && Wsh.vfB (shV hs (zs.getD k 0)).1 (shV hs (zs.getD k 0)).2 && Wsh.redB ((shV (rawL (inhL hs owner zs)) (zs.getD k 0)).1 * (shV hs (zs.getD k 0)).2 - (shV hs (zs.getD k 0)).1 * (shV (rawL (inhL hs owner zs)) (zs.getD k 0)).2) ((shV (rawL (inhL hs owner zs)) (zs.getD k 0)).2 * (shV hs (zs.getD k 0)).2)) (Wsh.rn ((shV (rawL (inhL hs owner zs)) (zs.getD k 0)).1 * (shV hs (zs.getD k 0)).2 - (shV hs (zs.getD k 0)).1 * (shV (rawL (inhL hs owner zs)) (zs.getD k 0)).2) ((shV (rawL (inhL hs owner zs)) (zs.getD k 0)).2 * (shV hs (zs.getD k 0)).2)) (Wsh.rd ((shV (rawL (inhL hs owner zs)) (zs.getD k 0)).1 * (shV hs (zs.getD k 0)).2 - (shV hs (zs.getD k 0)).1 * (shV (rawL (inhL hs owner zs)) (zs.getD k 0)).2) ((shV (rawL (inhL hs owner zs)) (zs.getD k 0)).2 * (shV hs (zs.getD k 0)).2)) = .tuple #[.agg #[.int .i64 pn, .int .i64 pd], .bool true] := by
  unfold inhB at h
  simp only [Bool.and_eq_true, decide_eq_true_eq] at h
  obtain ⟨⟨⟨⟨⟨hvr, hne⟩, hh⟩, hfp⟩, _⟩, hvl⟩ := h
  obtain ⟨z1, z12, hnd, hno⟩ := heirs_is hh
  have hvo : vlR (rawL (inhL hs owner zs)) = true := by rw [vlR_vl]; exact hvl
  have hVL := (vl_iff _).1 hvl
  obtain ⟨L, rfl, hv, e⟩ := led_as hvr
  rw [led_raw] at hne
  obtain ⟨hm, hz⟩ := heir_more hv.asc hnd hno (inhQ (rawL L) owner zs)
  have hi : inhL (rawL L) owner zs = giveL (inhQ (rawL L) owner zs) (setL L owner 0) zs := by unfold inhL; rw [led_raw]
  have hsV := fun o => shV_is hvo o
  have hsL := fun o => shV_is hvr o
  rw [led_raw] at hsV hsL
  have hp0 : inhQ (rawL L) owner zs ≠ 0 := fun c => by
    have hq : inhQ (rawL L) owner zs = shareL L owner / ((zs.length : Int) : Rat) := by
      unfold inhQ; rw [led_raw]; exact part_q _ (by omega)
    rw [hq] at c
    have hl : ((zs.length : Int) : Rat) ≠ 0 := by
      intro c2
      have : (zs.length : Int) = 0 := by exact_mod_cast c2
      omega
    have := Rat.div_mul_cancel (a := shareL L owner) hl
    rw [c, Rat.zero_mul] at this
    exact hne this.symm
  have hpn : 0 < (inhQ (rawL L) owner zs).num := by
    rcases num_pos_iff (frB_nonneg hfp) with ⟨a, _⟩ | ⟨_, c⟩
    · exact a
    · exact absurd c hp0
  refine ⟨(inhQ (rawL L) owner zs).num, ((inhQ (rawL L) owner zs).den : Int), hpn, hvr, hvo, z1, z12, ?_, fun k hk => ?_⟩
  · rw [hsV, hi, hz]; rfl
  · have hmem : zs.getD k 0 ∈ zs := by rw [List.getD_eq_getElem?_getD, List.getElem?_eq_getElem hk]; exact List.getElem_mem _
    have hk2 := hm _ hmem
    rw [← hi] at hk2
    rw [hsV, hsL]
    have f1 := share_fr hVL (zs.getD k 0)
    have f2 := share_fr hv (zs.getD k 0)
    rw [hk2] at f1 ⊢
    generalize shareL L (zs.getD k 0) = s at f1 f2
    generalize inhQ (rawL L) owner zs = p at f1 hfp
    obtain ⟨r1, r2, r3⟩ := sub_red (s + p) s
    have e1 : s + p - s = p := by grind
    rw [e1] at r1 r2 r3
    dsimp only
    rw [r1, r2, r3, q_vf f1, q_vf f2, hfp]
    rfl
end Go.Proofs.Ytppnhhnilnikfaa
