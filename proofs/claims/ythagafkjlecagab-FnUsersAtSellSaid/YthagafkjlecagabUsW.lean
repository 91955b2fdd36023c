/- Who uses the water at a time: what the laws reckon (pure). No condition. -/
import Derived.Test.YthagafkjlecagabUse
import Derived.Test.YthagafkjlecagabSellI
namespace Go.Proofs.Ythagafkjlecagab
open Go.RowKit
set_option linter.unusedSimpArgs false
set_option linter.unusedVariables false

theorem us_vl {hs : List Hd} {ls : List Lr} {t : Int} (h : usB hs ls t = true) : vlR (rawL (usL hs ls t)) = true ∧ uO t (ledOf hs) ls = some (usL hs ls t) ∧ vlR hs = true := by
  have h0 := h
  unfold usB at h
  simp only [Bool.and_eq_true, decide_eq_true_eq] at h
  cases e : uO t (ledOf hs) ls with
  | none => rw [us_none e] at h0; cases h0
  | some L =>
    obtain ⟨e1, e2⟩ := us_some h.1.1.1 h.1.1.2 h.1.2 e
    exact ⟨by rw [e2, ← e1]; exact h0, by rw [e2], (lz_vl h.1.2).1⟩
theorem uO_still {t : Int} : ∀ (ls : List Lr) (L : Led), (∀ x ∈ ls, atB x t = false) → uO t L ls = some L := by
  intro ls
  induction ls with
  | nil => intro L _; exact uO_nil t L
  | cons x r ih =>
    intro L h
    rw [uO_out r (h x (List.mem_cons_self ..))]
    exact ih L fun y hy => h y (List.mem_cons_of_mem _ hy)
theorem us_same {hs : List Hd} {ls : List Lr} {t : Int} (h : usB hs ls t = true) (hno : ∀ k, k < ls.length → atB (ls.getD k lr0) t = false) : rawL (usL hs ls t) = hs := by
  obtain ⟨_, h2, h3⟩ := us_vl h
  have h4 := uO_still (t := t) ls (ledOf hs) fun x hx => by
    obtain ⟨i, hi, rfl⟩ := List.getElem_of_mem hx
    have := hno i hi
    rw [List.getD_eq_getElem?_getD, List.getElem?_eq_getElem hi] at this
    exact this
  rw [h2] at h4
  injection h4 with h4
  rw [h4]
  exact (vlR_is h3).1
theorem st_sold {L : Led} {x : Lr} (ha : Asc L) (hne : x.ow ≠ x.te) : stL x L = soldL L x.ow x.te (partQ x) ∧ stB x L = (frB (shareL L x.ow - partQ x) && frB (shareL L x.te + partQ x)) := by
  have e : shareL (stA x L) x.te = shareL L x.te := by unfold stA; rw [share_set ha, if_neg (fun c => hne c.symm)]
  unfold stL stB soldL
  rw [e]
  exact ⟨rfl, rfl⟩
theorem sell_st {L : Led} {x : Lr} (ha : Asc L) (h : sellB L x.ow x.te (partQ x) = true) : stB x L = true ∧ soldL L x.ow x.te (partQ x) = stL x L := by
  obtain ⟨h1, h2, _, h4, _⟩ := (sell_iff _ _ _ _).1 h
  obtain ⟨a, b⟩ := st_sold (x := x) ha h4
  exact ⟨by rw [b, h1, h2]; rfl, a.symm⟩
theorem sel_st {L : Led} {x : Lr} (hv : vlR (rawL L) = true) (h : selB (rawL L) x.ow x.te x.n x.d = true) : stB x L = true ∧ selL (rawL L) x.ow x.te x.n x.d = stL x L ∧ vlR (rawL (stL x L)) = true := by
  unfold selB at h
  rw [led_raw] at h
  simp only [Bool.and_eq_true] at h
  have hs : sellB L x.ow x.te (partQ x) = true := h.2
  obtain ⟨_, e2⟩ := vlR_is hv
  rw [led_raw] at e2
  obtain ⟨a, b⟩ := sell_st e2.asc hs
  refine ⟨a, ?_, ?_⟩
  · unfold selL; rw [led_raw]; exact b
  · rw [← b, vlR_vl]
    obtain ⟨_, _, _, _, _, _, h7⟩ := (sell_iff _ _ _ _).1 hs
    exact (vl_iff _).2 h7
end Go.Proofs.Ythagafkjlecagab
