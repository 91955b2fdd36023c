/- What trades are (pure): the turns that both packages give are a trade in circles. No condition but those stated. -/
import Derived.Test.YtdlbjmhjaljlfabTrdK
import Derived.Test.YtdlbjmhjaljlfabRank
namespace Go.Proofs.Ytdlbjmhjaljlfab
set_option linter.unusedVariables false
theorem got_keep {rs : List (List Int)} (hw : wishB rs = true) {m y : Nat} (hy : y < rs.length) (h : (gotK rs m).getD y 0 ≠ -1) : (gotK rs (m + 1)).getD y 0 = (gotK rs m).getD y 0 := by
  rcases (got_is hw m).2.2 with ⟨e, _⟩ | ⟨L, e⟩
  · rw [e]
  · rw [e]; exact (stepC_is hw (got_is hw m).1 L).keep y hy h
theorem got_stay {rs : List (List Int)} (hw : wishB rs = true) {y : Nat} (hy : y < rs.length) : ∀ d m, (gotK rs m).getD y 0 ≠ -1 → (gotK rs (m + d)).getD y 0 = (gotK rs m).getD y 0 := by
  intro d
  induction d with
  | zero => intro m _; rfl
  | succ d ih =>
    intro m h
    have := ih m h
    rw [← Nat.add_assoc, got_keep hw hy (by rw [this]; exact h), this]
theorem got_full {rs : List (List Int)} (hw : wishB rs = true) {y : Nat} (hy : y < rs.length) : (gotK rs rs.length).getD y 0 ≠ -1 := by
  have hz : cntL (gotK rs rs.length) = 0 := by
    rcases (got_is hw rs.length).2.1 with q | q
    · exact q
    · omega
  exact (cnt_zero _).1 hz y (by rw [(got_is hw _).1]; exact hy)
theorem got_when {rs : List (List Int)} (hw : wishB rs = true) {y : Nat} (hy : y < rs.length) : ∃ m, (gotK rs m).getD y 0 = -1 ∧ (gotK rs (m + 1)).getD y 0 ≠ -1 := by
  have key : ∀ n, (gotK rs n).getD y 0 ≠ -1 → ∃ m, (gotK rs m).getD y 0 = -1 ∧ (gotK rs (m + 1)).getD y 0 ≠ -1 := by
    intro n
    induction n with
    | zero =>
      intro h
      refine absurd ?_ h
      show (List.replicate rs.length (-1 : Int)).getD y 0 = -1
      rw [List.getD_eq_getElem?_getD, List.getElem?_replicate, if_pos hy]; rfl
    | succ n ih =>
      intro h
      by_cases c : (gotK rs n).getD y 0 = -1
      · exact ⟨n, c, h⟩
      · exact ih c
  exact key _ (got_full hw hy)
/-- the place of a turn among the wishes of a trader -/
def rkN (rs : List (List Int)) (i j : Nat) : Nat := (plcV (rs.getD i []) (j : Int)).toNat
theorem rk_first {rs : List (List Int)} {i j k : Nat} (hk : k < (rs.getD i []).length) (e : (rs.getD i []).getD k 0 = (j : Int)) (hno : ∀ p, p < k → (rs.getD i []).getD p 0 ≠ (j : Int)) : rkN rs i j = k := by
  unfold rkN; rw [plc_at hk hno e]; rfl
theorem rk_ex {rs : List (List Int)} (hw : wishB rs = true) {i j : Nat} (hi : i < rs.length) (hj : j < rs.length) : rkN rs i j < (rs.getD i []).length ∧ (rs.getD i []).getD (rkN rs i j) 0 = (j : Int) ∧ ∀ p, p < rkN rs i j → (rs.getD i []).getD p 0 ≠ (j : Int) := by
  have key : ∀ (r : List Int) (x : Int), x ∈ r → ∃ k, k < r.length ∧ r.getD k 0 = x ∧ ∀ p, p < k → r.getD p 0 ≠ x := by
    intro r x
    induction r with
    | nil => intro h; cases h
    | cons z t ih =>
      intro h
      by_cases c : z = x
      · exact ⟨0, by simp, c, fun p hp => absurd hp (Nat.not_lt_zero _)⟩
      · rcases List.mem_cons.1 h with h | h
        · exact absurd h.symm c
        · obtain ⟨k, k1, k2, k3⟩ := ih h
          refine ⟨k + 1, by simpa using k1, k2, fun p hp => ?_⟩
          cases p with
          | zero => exact c
          | succ p => exact k3 p (by omega)
  obtain ⟨k, k1, k2, k3⟩ := key _ _ (wish_mem hw hi hj)
  rw [rk_first k1 k2 k3]
  exact ⟨k1, k2, k3⟩
theorem rk_inj {rs : List (List Int)} (hw : wishB rs = true) : RInj rs.length (rkN rs) := fun i j k hi hj hk e => by
  have a := (rk_ex hw hi hj).2.1
  have b := (rk_ex hw hi hk).2.1
  rw [e, b] at a; omega
theorem trade_at {rs : List (List Int)} (hw : wishB rs = true) {i m : Nat} (hi : i < rs.length) (h1 : (gotK rs m).getD i 0 = -1) (h2 : (gotK rs (m + 1)).getD i 0 ≠ -1) : (tradeV rs).getD i 0 = ((nx rs (gotK rs m) i : Nat) : Int) ∧ Lf rs (gotK rs m) (nx rs (gotK rs m) i) ∧ (gotK rs (m + 1)).getD (nx rs (gotK rs m) i) 0 ≠ -1 := by
  have e : tradeV rs = gotK rs rs.length := by unfold tradeV; rw [if_pos hw]
  rcases (got_is hw m).2.2 with ⟨q, _⟩ | ⟨L, q⟩
  · rw [q] at h2; exact absurd h1 h2
  · have S := stepC_is hw (got_is hw m).1 L
    rw [← q] at S
    obtain ⟨n1, n2⟩ := S.new i hi h1 h2
    obtain ⟨a, b, _⟩ := nx_is hw hi h1
    refine ⟨?_, ⟨a, b⟩, n2⟩
    rw [e, ← n1]
    by_cases c : m + 1 ≤ rs.length
    · have := got_stay hw hi (rs.length - (m + 1)) (m + 1) h2
      rw [show m + 1 + (rs.length - (m + 1)) = rs.length from by omega] at this; exact this
    · have := got_stay hw hi (m - rs.length) rs.length (got_full hw hi)
      rw [show rs.length + (m - rs.length) = m from by omega, h1] at this
      exact absurd this.symm (got_full hw hi)
theorem trade_ttc {rs : List (List Int)} (hw : wishB rs = true) : (tradeV rs).length = rs.length ∧ (∀ i, i < rs.length → ∃ y : Nat, (tradeV rs).getD i 0 = (y : Int)) ∧ ∃ st, Ttc rs.length (rkN rs) (fun i => ((tradeV rs).getD i 0).toNat) st := by
  have hl : (tradeV rs).length = rs.length := by unfold tradeV; rw [if_pos hw]; exact (got_is hw _).1
  have hall : ∀ i, ∃ m, i < rs.length → (gotK rs m).getD i 0 = -1 ∧ (gotK rs (m + 1)).getD i 0 ≠ -1 := fun i => by
    by_cases c : i < rs.length
    · obtain ⟨m, h⟩ := got_when hw c; exact ⟨m, fun _ => h⟩
    · exact ⟨0, fun h => absurd h c⟩
  obtain ⟨st, hst⟩ := Classical.axiomOfChoice hall
  have hat := fun i (hi : i < rs.length) => trade_at hw hi (hst i hi).1 (hst i hi).2
  -- the round in which a turn goes is one
  have one : ∀ y, y < rs.length → ∀ m, (gotK rs m).getD y 0 = -1 → (gotK rs (m + 1)).getD y 0 ≠ -1 → st y = m := fun y hy m a b => by
    obtain ⟨c, d⟩ := hst y hy
    rcases Nat.lt_trichotomy (st y) m with h | h | h
    · have := got_stay hw hy (m - (st y + 1)) (st y + 1) d
      rw [show st y + 1 + (m - (st y + 1)) = m from by omega, a] at this
      exact absurd this.symm d
    · exact h
    · have := got_stay hw hy (st y - (m + 1)) (m + 1) b
      rw [show m + 1 + (st y - (m + 1)) = st y from by omega, c] at this
      exact absurd this.symm b
  have left : ∀ y, y < rs.length → ∀ m, m ≤ st y → (gotK rs m).getD y 0 = -1 := fun y hy m hm => by
    apply Classical.byContradiction
    intro c
    have := got_stay hw hy (st y - m) m c
    rw [show m + (st y - m) = st y from by omega, (hst y hy).1] at this
    exact c this.symm
  have hout : ∀ i, i < rs.length → ((tradeV rs).getD i 0).toNat = nx rs (gotK rs (st i)) i := fun i hi => by rw [(hat i hi).1]; rfl
  have hlev : ∀ i, i < rs.length → st (nx rs (gotK rs (st i)) i) = st i := fun i hi => one _ (hat i hi).2.1.1 _ (hat i hi).2.1.2 (hat i hi).2.2
  refine ⟨hl, fun i hi => ⟨_, (hat i hi).1⟩, st, ?_, ?_, ?_, ?_⟩
  · intro i hi
    show ((tradeV rs).getD i 0).toNat < _
    rw [hout i hi]; exact (hat i hi).2.1.1
  · intro i j hi hj e
    have e : ((tradeV rs).getD i 0).toNat = ((tradeV rs).getD j 0).toNat := e
    have es : st i = st j := by
      have a := hlev i hi
      have b := hlev j hj
      rw [← hout i hi, e, hout j hj] at a
      omega
    rcases (got_is hw (st i)).2.2 with ⟨q, _⟩ | ⟨L, q⟩
    · have := (hst i hi).2; rw [q] at this; exact absurd (hst i hi).1 this
    · have S := stepC_is hw (got_is hw (st i)).1 L
      rw [← q] at S
      have j1 := (hst j hj).1
      have j2 := (hst j hj).2
      rw [← es] at j1 j2
      refine S.inj i j hi hj (hst i hi).1 j1 (hst i hi).2 j2 ?_
      rw [(S.new i hi (hst i hi).1 (hst i hi).2).1, (S.new j hj j1 j2).1]
      rw [hout i hi, hout j hj, ← es] at e
      rw [e]
  · intro i hi
    show st ((tradeV rs).getD i 0).toNat = st i
    rw [hout i hi]; exact hlev i hi
  · intro i j hi hj hs
    show rkN rs i ((tradeV rs).getD i 0).toNat ≤ rkN rs i j
    rw [hout i hi]
    obtain ⟨a, b, k, k1, k2, k3, _⟩ := nx_is hw hi (hst i hi).1
    have hk : rkN rs i (nx rs (gotK rs (st i)) i) = k := rk_first k1 k2 (fun p hp e => k3 p hp (by rw [e]; simpa using b))
    rw [hk]
    obtain ⟨p1, p2, p3⟩ := rk_ex hw hi hj
    apply Classical.byContradiction
    intro c
    have := k3 (rkN rs i j) (by omega)
    rw [p2] at this
    exact this (by simpa using left j hj (st i) hs)
end Go.Proofs.Ytdlbjmhjaljlfab
