/- Who uses the water at a time (pure). No condition. -/
import Derived.Test.YthagafkjlecagabLzw
import Derived.Test.YthagafkjlecagabLent
namespace Go.Proofs.Ythagafkjlecagab
open Go.RowKit
set_option linter.unusedSimpArgs false
set_option linter.unusedVariables false

/-- one lease: the owner has less, the tenant more -/
def stA (l : Lr) (L : Led) : Led := setL L l.ow (shareL L l.ow - partQ l)
def stL (l : Lr) (L : Led) : Led := setL (stA l L) l.te (shareL (stA l L) l.te + partQ l)
def stB (l : Lr) (L : Led) : Bool := frB (shareL L l.ow - partQ l) && frB (shareL (stA l L) l.te + partQ l)
def uO (t : Int) : Led → List Lr → Option Led
  | L, [] => some L
  | L, l :: r => if atB l t = true then (if stB l L = true then uO t (stL l L) r else none) else uO t L r
theorem uO_nil (t : Int) (L : Led) : uO t L [] = some L := by rw [uO]
theorem uO_out {t : Int} {L : Led} {l : Lr} (r : List Lr) (h : atB l t = false) : uO t L (l :: r) = uO t L r := by rw [uO, h]; rfl
theorem uO_bad {t : Int} {L : Led} {l : Lr} (r : List Lr) (h : atB l t = true) (hb : stB l L = false) : uO t L (l :: r) = none := by rw [uO, h, hb]; rfl
theorem uO_go {t : Int} {L : Led} {l : Lr} (r : List Lr) (h : atB l t = true) (hb : stB l L = true) : uO t L (l :: r) = uO t (stL l L) r := by rw [uO, h, hb]; rfl
def usB (hs : List Hd) (ls : List Lr) (t : Int) : Bool := decide (0 ≤ t) && decide (t ≤ 5000) && lzB hs ls && (match uO t (ledOf hs) ls with | some L => vlR (rawL L) | none => false)
def usL (hs : List Hd) (ls : List Lr) (t : Int) : Led := (uO t (ledOf hs) ls).getD []
theorem us_time {hs : List Hd} {ls : List Lr} {t : Int} (h : t < 0 ∨ 5000 < t) : usB hs ls t = false := by
  unfold usB
  rcases h with h | h
  · rw [decide_eq_false (by omega : ¬ 0 ≤ t)]; rfl
  · rw [decide_eq_false (by omega : ¬ t ≤ 5000), Bool.and_false]; rfl
theorem us_lz {hs : List Hd} {ls : List Lr} {t : Int} (h : lzB hs ls = false) : usB hs ls t = false := by unfold usB; rw [h, Bool.and_false]; rfl
theorem us_none {hs : List Hd} {ls : List Lr} {t : Int} (h : uO t (ledOf hs) ls = none) : usB hs ls t = false := by unfold usB; rw [h, Bool.and_false]
theorem us_some {hs : List Hd} {ls : List Lr} {t : Int} {L : Led} (h0 : 0 ≤ t) (h1 : t ≤ 5000) (hl : lzB hs ls = true) (h : uO t (ledOf hs) ls = some L) : usB hs ls t = vlR (rawL L) ∧ usL hs ls t = L := by
  unfold usB usL
  rw [h, hl, decide_eq_true h0, decide_eq_true h1]
  exact ⟨rfl, rfl⟩
theorem ls_drop {ls : List Lr} {k : Nat} (h : k < ls.length) : ls.drop k = ls.getD k lr0 :: ls.drop (k + 1) := by
  rw [List.drop_eq_getElem_cons h, List.getD_eq_getElem?_getD, List.getElem?_eq_getElem h]; rfl
/-- the ledger while leases run -/
structure UInv (L : Led) (m : Nat) : Prop where
  a : Asc L
  f : ∀ x ∈ L, frB x.2 = true
  n : L.length ≤ m
theorem st_inv {L : Led} {m : Nat} {l : Lr} (h : UInv L m) (hb : stB l L = true) : UInv (stL l L) (m + 2) := by
  unfold stB at hb
  rw [Bool.and_eq_true] at hb
  have h1 := fr_set h.f l.ow hb.1
  refine ⟨asc_set (asc_set h.a _ _) _ _, fr_set h1 l.te hb.2, ?_⟩
  have a := set_len (L := L) l.ow (shareL L l.ow - partQ l)
  have b := set_len (L := stA l L) l.te (shareL (stA l L) l.te + partQ l)
  have c := h.n
  unfold stL
  unfold stA at *
  omega
theorem us_start {hs : List Hd} (h : vlR hs = true) : rawL (ledOf hs) = hs ∧ UInv (ledOf hs) 12 := by
  obtain ⟨h1, h2⟩ := vlR_is h
  refine ⟨h1, h2.asc, h2.fr, by have := h2.len; omega⟩
theorem lz_vl {hs : List Hd} {ls : List Lr} (h : lzB hs ls = true) : vlR hs = true ∧ ls.length ≤ 10 ∧ termsB ls = true := by
  unfold lzB at h
  simp only [Bool.and_eq_true, decide_eq_true_eq] at h
  exact ⟨h.1.1.1, h.1.1.2, h.1.2⟩
end Go.Proofs.Ythagafkjlecagab
