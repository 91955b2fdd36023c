/- Contracts and facts of functions of this program, in build order. Conditions: those stated in each. -/
import Derived.Test.YtaehemmjemhgpaaPASell
import Derived.Test.YtaehemmjemhgpaaPAG1
import Derived.Test.YtaehemmjemhgpaaPAG4
import Derived.Deep.RegionHeld3
import Derived.Deep.DeepCutAuto
set_option maxRecDepth 100000
set_option maxHeartbeats 16000000
namespace Go.Proofs.Ytaehemmjemhgpaa
open Go.RowKit
set_option linter.unusedSimpArgs false
set_option linter.unusedVariables false

def joinB (hs : List Hd) (fr tt : Int) : Bool := selB hs fr tt (shV hs fr).1 (shV hs fr).2
def joinL' (hs : List Hd) (fr tt : Int) : Led := selL hs fr tt (shV hs fr).1 (shV hs fr).2
/-- after the first k heirs -/
def gvTo (p : Rat) (L : Led) (zs : List Int) (k : Nat) : Led := giveL p L (zs.take k)
def gvOk (p : Rat) (L : Led) (zs : List Int) (k : Nat) : Bool := frB (shareL (gvTo p L zs k) (zs.getD k 0) + p)
def gvAll (p : Rat) (L : Led) (zs : List Int) : Bool := (List.range zs.length).all (gvOk p L zs)
theorem gv_succ (p : Rat) (L : Led) {zs : List Int} {k : Nat} (h : k < zs.length) : gvTo p L zs (k + 1) = setL (gvTo p L zs k) (zs.getD k 0) (shareL (gvTo p L zs k) (zs.getD k 0) + p) := by
  unfold gvTo
  rw [take_snocD zs h 0, give_snoc]
theorem gv_end (p : Rat) (L : Led) (zs : List Int) : gvTo p L zs zs.length = giveL p L zs := by unfold gvTo; rw [List.take_of_length_le (Nat.le_refl _)]
theorem gv_fr {p : Rat} {L : Led} (h : ∀ x ∈ L, frB x.2 = true) {zs : List Int} : ∀ k, k ≤ zs.length → (∀ j, j < k → gvOk p L zs j = true) → ∀ x ∈ gvTo p L zs k, frB x.2 = true := by
  intro k
  induction k with
  | zero => intro _ _; exact h
  | succ k ih =>
    intro hk hj
    rw [gv_succ p L (by omega)]
    exact fr_set (ih (by omega) (fun j hj' => hj j (by omega))) _ (hj k (by omega))
theorem gv_len {p : Rat} {L : Led} {zs : List Int} : ∀ k, k ≤ zs.length → (gvTo p L zs k).length ≤ L.length + k := by
  intro k
  induction k with
  | zero => intro _; exact Nat.le_refl _
  | succ k ih =>
    intro hk
    rw [gv_succ p L (by omega)]
    have a := ih (by omega)
    have b := set_len (L := gvTo p L zs k) (zs.getD k 0) (shareL (gvTo p L zs k) (zs.getD k 0) + p)
    omega
def inhQ (hs : List Hd) (owner : Int) (zs : List Int) : Rat := Rat.divInt (shareL (ledOf hs) owner).num ((shareL (ledOf hs) owner).den * (zs.length : Int))
/-- the ledger after a share was inherited -/
def inhL (hs : List Hd) (owner : Int) (zs : List Int) : Led := giveL (inhQ hs owner zs) (setL (ledOf hs) owner 0) zs
def inhB (hs : List Hd) (owner : Int) (zs : List Int) : Bool :=
  vlR hs && decide (shareL (ledOf hs) owner ≠ 0) && heirsB zs owner && frB (inhQ hs owner zs) && gvAll (inhQ hs owner zs) (setL (ledOf hs) owner 0) zs && vlB (inhL hs owner zs)
theorem inh_no {hs : List Hd} {owner : Int} {zs : List Int} (h : vlR hs = false ∨ shareL (ledOf hs) owner = 0 ∨ heirsB zs owner = false ∨ frB (inhQ hs owner zs) = false ∨ gvAll (inhQ hs owner zs) (setL (ledOf hs) owner 0) zs = false ∨ vlB (inhL hs owner zs) = false) : inhB hs owner zs = false := by
  unfold inhB
  rcases h with h | h | h | h | h | h
  · rw [h]; rfl
  · rw [h]; simp
  all_goals (rw [h]; simp)
theorem inh_yes {hs : List Hd} {owner : Int} {zs : List Int} (h1 : vlR hs = true) (h2 : shareL (ledOf hs) owner ≠ 0) (h3 : heirsB zs owner = true) (h4 : frB (inhQ hs owner zs) = true) (h5 : gvAll (inhQ hs owner zs) (setL (ledOf hs) owner 0) zs = true) (h6 : vlB (inhL hs owner zs) = true) : inhB hs owner zs = true := by
  unfold inhB; rw [h1, h3, h4, h5, h6, decide_eq_true h2]; rfl
/-- the equal part as the program makes it -/
theorem inh_red {hs : List Hd} (owner : Int) {zs : List Int} (h : 1 ≤ zs.length) :
    Wsh.redB (shareL (ledOf hs) owner).num (((shareL (ledOf hs) owner).den : Int) * (zs.length : Int)) = frB (inhQ hs owner zs) ∧ Wsh.rn (shareL (ledOf hs) owner).num (((shareL (ledOf hs) owner).den : Int) * (zs.length : Int)) = (inhQ hs owner zs).num ∧ Wsh.rd (shareL (ledOf hs) owner).num (((shareL (ledOf hs) owner).den : Int) * (zs.length : Int)) = ((inhQ hs owner zs).den : Int) := by
  have hd : 0 < ((shareL (ledOf hs) owner).den : Int) * (zs.length : Int) := Int.mul_pos (by have := den_pos (shareL (ledOf hs) owner); omega) (by omega)
  exact ⟨redB_q hd, rn_q hd, rd_q hd⟩
end Go.Proofs.Ytaehemmjemhgpaa
