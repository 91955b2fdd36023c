/- Texts of ledgers, line by line. No condition but those stated. -/
import Derived.Test.YtdlbjmhjaljlfaaLedT
import Derived.Test.YtdlbjmhjaljlfaaSetH
namespace Go.Proofs.Ytdlbjmhjaljlfaa

/-- the text of a ledger, "" if it is not valid -/
def flT (hs : List Hd) : ByteArray := if vlR hs then txt (textB hs) else { data := #[] }
theorem fl_no {hs : List Hd} (h : vlR hs = false) : flT hs = { data := #[] } := by unfold flT; rw [h]; rfl
theorem fl_yes {hs : List Hd} (h : vlR hs = true) : flT hs = txt (textB hs) := by unfold flT; rw [h]; rfl
/-- the text of the first k lines -/
def ltk (hs : List Hd) (k : Nat) : List UInt8 := textB (hs.take k)
theorem ltk_zero (hs : List Hd) : ltk hs 0 = [] := by unfold ltk; rw [List.take_zero]; rfl
theorem ltk_all (hs : List Hd) : ltk hs hs.length = textB hs := by unfold ltk; rw [List.take_length]
theorem ltk_next {hs : List Hd} {k : Nat} (h : k < hs.length) {o n d : Int} (e : hs.getD k hd0 = (o, n, d)) :
    ltk hs (k + 1) = (((ltk hs k ++ decL o.toNat) ++ [32]) ++ (decL n.toNat ++ 47 :: decL d.toNat)) ++ [10] := by
  unfold ltk
  rw [take_snocD hs h hd0, text_app, e]
  show _ ++ (lineB o n d ++ [10] ++ []) = _
  unfold lineB
  rw [frT_list]
  simp
theorem dec_small {n : Int} (h : n ≤ 10000) : (decL n.toNat).length ≤ 8 := dec_len 7 n.toNat (by omega)
/-- what a valid ledger says of one holding -/
theorem vl_at {hs : List Hd} (h : vlR hs = true) {k : Nat} (hk : k < hs.length) : 1 ≤ (hs.getD k hd0).1 ∧ (hs.getD k hd0).1 ≤ 999 ∧ Wsh.vfB (hs.getD k hd0).2.1 (hs.getD k hd0).2.2 = true := by
  unfold vlR at h
  simp only [Bool.and_eq_true, decide_eq_true_eq] at h
  obtain ⟨⟨⟨_, h2⟩, h3⟩, _⟩ := h
  have a := (rng_all _ _).1 h2 k hk
  have b := (okF_is (okS_is ((rng_all _ _).1 h3 k hk)).1).1
  unfold okA at a
  simp only [Bool.and_eq_true, decide_eq_true_eq] at a
  exact ⟨a.1.2, a.2, b⟩
theorem vl_len {hs : List Hd} (h : vlR hs = true) : hs.length ≤ 12 := by
  unfold vlR at h
  simp only [Bool.and_eq_true, decide_eq_true_eq] at h
  exact h.1.1.1
theorem ltk_len {hs : List Hd} (h : vlR hs = true) : ∀ k, k ≤ hs.length → (ltk hs k).length ≤ k * 32 := by
  intro k
  induction k with
  | zero => intro _; rw [ltk_zero]; simp
  | succ k ih =>
    intro hk
    have i := ih (by omega)
    obtain ⟨a, b, c⟩ := vl_at h (k := k) (by omega)
    rw [Wsh.vfB_iff] at c
    rw [ltk_next (o := (hs.getD k hd0).1) (n := (hs.getD k hd0).2.1) (d := (hs.getD k hd0).2.2) (by omega) rfl]
    have l1 := dec_small (n := (hs.getD k hd0).1) (by omega)
    have l2 := dec_small (n := (hs.getD k hd0).2.1) (by omega)
    have l3 := dec_small (n := (hs.getD k hd0).2.2) (by omega)
    simp only [List.length_append, List.length_cons, List.length_nil]
    omega
/-- a valid ledger has a line -/
theorem text_ne {hs : List Hd} (h : vlR hs = true) : textB hs ≠ [] := by
  cases hs with
  | nil => exact absurd (vlR_is h).2.one (by decide)
  | cons x t =>
    show lineB x.1 x.2.1 x.2.2 ++ [10] ++ _ ≠ []
    simp
end Go.Proofs.Ytdlbjmhjaljlfaa
