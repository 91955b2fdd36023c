/- Contracts and facts of functions of this program, in build order. Conditions: those stated in each. -/
import Derived.Test.YtaehemmjemhgpaaPCSaB
import Derived.Test.YtaehemmjemhgpaaPCSaC
import Derived.Test.YtaehemmjemhgpaaPCSaD
import Derived.Test.YtaehemmjemhgpaaPCSaE
set_option maxRecDepth 100000
set_option maxHeartbeats 16000000
namespace Go.Proofs.Ytaehemmjemhgpaa
open Go.RowKit
set_option linter.unusedSimpArgs false
set_option linter.unusedVariables false
theorem X10o {w y : World} {base b : Nat} {p : TA} {t : Tw} {cs : Array Value} {v0 v1 v2 v3 v4 v5 v6 v7 v8 v9 : Value} (h : TwO w base p t) (K : Blk w b 49 cs) (hy : y = jqg w b v0 v1 v2 v3 v4 v5 v6 v7 v8 v9) : TwO y base p t := by subst hy; exact h.offK K (sets10_offW _ _ _ _ _ _ _ _ _ _ _ _)
def OutTB (w : World) (b : Bool) (u : Tw) (e : Ending) (w' : World) : Prop := ∃ p, e = .returned (.tuple #[twV p u, .bool b]) ∧ TwO w' w.heap.size p u ∧ Below w.heap.size w w'
def apU (t : Tw) (x : Ev) : Tw := (apT t x).getD Tw.zero
def apB (t : Tw) (x : Ev) : Bool := (apT t x).isSome
theorem ap_sm {t u : Tw} {x : Ev} (h : apT t x = some u) : apB t x = true ∧ apU t x = u := by unfold apB apU; rw [h]; exact ⟨rfl, rfl⟩
theorem ap_nn {t : Tw} {x : Ev} (h : apT t x = none) : apB t x = false ∧ apU t x = Tw.zero := by unfold apB apU; rw [h]; exact ⟨rfl, rfl⟩
theorem out_zero {w w' : World} {t : Tw} {x : Ev} {e : Ending} (h : apT t x = none) (he : e = .returned (.tuple #[twV TA.zero Tw.zero, .bool false])) (B : Below w.heap.size w w') : OutTB w (apB t x) (apU t x) e w' := by
 obtain ⟨h1, h2⟩ := ap_nn h; rw [h1, h2]; exact ⟨_, he, TwO.zero _ _, B⟩
theorem out_some {w w' : World} {t u : Tw} {x : Ev} {e : Ending} {p : TA} (h : apT t x = some u) (he : e = .returned (.tuple #[twV p u, .bool true])) (hO : TwO w' w.heap.size p u) (B : Below w.heap.size w w') : OutTB w (apB t x) (apU t x) e w' := by
 obtain ⟨h1, h2⟩ := ap_sm h; rw [h1, h2]; exact ⟨_, he, hO, B⟩
theorem out_by {w w' : World} {t u : Tw} {x : Ev} {e : Ending} {b : Bool} (B : Below w.heap.size w w') (hb : b = true → nextT t x = some u) (hn : b = false → nextT t x = none)
    (m1 : b = false → e = .returned (.tuple #[twV TA.zero Tw.zero, .bool false])) (m2 : b = true → twB u = false → e = .returned (.tuple #[twV TA.zero Tw.zero, .bool false])) (m3 : b = true → twB u = true → ∃ q, e = .returned (.tuple #[twV q u, .bool true]) ∧ TwO w' w.heap.size q u) : OutTB w (apB t x) (apU t x) e w' := by
  cases b with
  | false => exact out_zero (ap_none (hn rfl)) (m1 rfl) B
  | true =>
    cases hv : twB u with
    | false => exact out_zero (ap_bad (hb rfl) hv) (m2 rfl hv) B
    | true =>
      obtain ⟨q, he, hO⟩ := m3 rfl hv; exact out_some (ap_some (hb rfl) hv) he hO B
theorem sAE (p : TA) (t : Tw) (x : Ev) (A : Option Addr) (cz : Nat) (w : World) (h : IsTw w p t) (hv : twB t = true) (hz : jqf w A x.dd.zs) (hzn : x.dd.zs.length ≤ 1048576) (hzc : x.dd.zs.length ≤ cz) :
  Calls Try.prog 171 #[twV p t, evV A cz x] w (OutTB w (apB t x) (apU t x)) := by
 obtain ⟨a1, c1, a2, c2, a3, c3, a4, c4⟩ := p; obtain ⟨hs, ts, ns, r, hd, ac, rt, tm, ls, cm⟩ := t; obtain ⟨k, ⟨dk, o, tt, n, d, zs⟩, at_, nu⟩ := x; dsimp only at hz hzn hzc
 by_cases k0 : k = 0
 ·refine (ssa0 a1 a2 a3 a4 c1 c2 c3 c4 hs ts ns r hd ac rt tm ls cm k dk o tt n d A zs cz at_ nu w h hz hzn hzc hv k0).mono ?_
  rintro e w' ⟨B, m1, m2, m3⟩; exact out_by B (b := deedB hs ⟨dk, o, tt, n, d, zs⟩) (fun hb => by unfold nextT; rw [if_pos k0]; dsimp only; rw [hb]; rfl) (fun hb => by unfold nextT; rw [if_pos k0]; dsimp only; rw [hb]; rfl) m1 m2 m3
 by_cases k1 : k = 1
 ·refine (ssa1 a1 a2 a3 a4 c1 c2 c3 c4 hs ts ns r hd ac rt tm ls cm k dk o tt n d A zs cz at_ nu w h hv k1).mono ?_
  rintro e w' ⟨B, m1, m2, m3⟩; exact out_by B (b := tfB hs nu) (fun hb => by unfold nextT; rw [if_neg k0, if_pos k1]; dsimp only; rw [hb]; rfl) (fun hb => by unfold nextT; rw [if_neg k0, if_pos k1]; dsimp only; rw [hb]; rfl) m1 m2 m3
 by_cases k2 : k = 2
 ·refine (ssa2 a1 a2 a3 a4 c1 c2 c3 c4 hs ts ns r hd ac rt tm ls cm k dk o tt n d A zs cz at_ nu w h hv k2).mono ?_
  rintro e w' ⟨B, m1, m2, m3⟩; exact out_by B (b := swB ts at_ nu) (fun hb => by unfold nextT; rw [if_neg k0, if_neg k1, if_pos k2]; dsimp only; rw [hb]; rfl) (fun hb => by unfold nextT; rw [if_neg k0, if_neg k1, if_pos k2]; dsimp only; rw [hb]; rfl) m1 m2 m3
 by_cases k3 : k = 3
 ·refine (ssa3 a1 a2 a3 a4 c1 c2 c3 c4 hs ts ns r hd ac rt tm ls cm k dk o tt n d A zs cz at_ nu w h hv k3).mono ?_
  rintro e w' ⟨B, m1, m2, m3⟩; exact out_by B (b := sgB ns at_ nu) (fun hb => by unfold nextT; rw [if_neg k0, if_neg k1, if_neg k2, if_pos k3]; dsimp only; rw [hb]; rfl) (fun hb => by unfold nextT; rw [if_neg k0, if_neg k1, if_neg k2, if_pos k3]; dsimp only; rw [hb]; rfl) m1 m2 m3
 by_cases k4 : k = 4
 ·refine (ssa4 a1 a2 a3 a4 c1 c2 c3 c4 hs ts ns r hd ac rt tm ls cm k dk o tt n d A zs cz at_ nu w h hv k4).mono ?_
  rintro e w' ⟨B, m2, m3⟩; exact out_by B (b := true) (fun _ => by unfold nextT; rw [if_neg k0, if_neg k1, if_neg k2, if_neg k3, if_pos k4]) (fun hb => by cases hb) (fun hb => by cases hb) (fun _ => m2) (fun _ => m3)
 by_cases k5 : k = 5
 ·refine (ssa5 a1 a2 a3 a4 c1 c2 c3 c4 hs ts ns r hd ac rt tm ls cm k dk o tt n d A zs cz at_ nu w h hv k5).mono ?_
  rintro e w' ⟨B, m1, m2, m3⟩; exact out_by B (b := inB3 nu 0 500) (fun hb => by unfold nextT; rw [if_neg k0, if_neg k1, if_neg k2, if_neg k3, if_neg k4, if_pos k5]; dsimp only; rw [hb]; rfl) (fun hb => by unfold nextT; rw [if_neg k0, if_neg k1, if_neg k2, if_neg k3, if_neg k4, if_pos k5]; dsimp only; rw [hb]; rfl) m1 m2 m3
 ·refine (ssa6 a1 a2 a3 a4 c1 c2 c3 c4 hs ts ns r hd ac rt tm ls cm k dk o tt n d A zs cz at_ nu w h k0 k1 k2 k3 k4 k5).mono ?_
  rintro e w' ⟨B, he⟩; exact out_zero (ap_none (by unfold nextT; rw [if_neg k0, if_neg k1, if_neg k2, if_neg k3, if_neg k4, if_neg k5])) he B
end Go.Proofs.Ytaehemmjemhgpaa
