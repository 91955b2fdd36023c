/- Contracts and facts of functions of this program, in build order. Conditions: those stated in each. -/
import Derived.Test.YtaehemmjemhgpabGreatZASaB
import Derived.Test.YtaehemmjemhgpabGreatZASaC
import Derived.Test.YtaehemmjemhgpabGreatZASaD
import Derived.Test.YtaehemmjemhgpabGreatZASaE
set_option maxRecDepth 100000
set_option maxHeartbeats 16000000
namespace Go.Proofs.YtaehemmjemhgpabGreat
open Go.RowKit
set_option linter.unusedSimpArgs false
set_option linter.unusedVariables false
theorem X10o {w y : World} {base b : Nat} {p : TA} {t : Tw} {cs : Array Value} {v0 v1 v2 v3 v4 v5 v6 v7 v8 v9 : Value} (h : TwO w base p t) (K : Blk w b 30 cs) (hy : y = jq9 w b v0 v1 v2 v3 v4 v5 v6 v7 v8 v9) : TwO y base p t := by subst hy; exact h.offK K (sets10_offW _ _ _ _ _ _ _ _ _ _ _ _)
def OutTB (w : World) (b : Bool) (u : Tw) (e : Ending) (w' : World) : Prop := ∃ p, e = .returned (.tuple #[twV p u, .bool b]) ∧ TwO w' w.heap.size p u ∧ Below w.heap.size w w'
def apU (t : Tw) (x : Ev) : Tw := (apT t x).getD Tw.zero
def apB (t : Tw) (x : Ev) : Bool := (apT t x).isSome
theorem ap_sm {t u : Tw} {x : Ev} (h : apT t x = some u) : apB t x = true ∧ apU t x = u := by unfold apB apU; rw [h]; exact ⟨rfl, rfl⟩
theorem ap_nn {t : Tw} {x : Ev} (h : apT t x = none) : apB t x = false ∧ apU t x = Tw.zero := by unfold apB apU; rw [h]; exact ⟨rfl, rfl⟩
theorem out_zero {w w' : World} {t : Tw} {x : Ev} {e : Ending} (h : apT t x = none) (he : e = .returned (.tuple #[twV TA.zero Tw.zero, .bool false])) (B : Below w.heap.size w w') : OutTB w (apB t x) (apU t x) e w' := by
 obtain ⟨h1, h2⟩ := ap_nn h; rw [h1, h2]; exact ⟨_, he, TwO.zero _ _, B⟩
theorem out_some {w w' : World} {t u : Tw} {x : Ev} {e : Ending} {p : TA} (h : apT t x = some u) (he : e = .returned (.tuple #[twV p u, .bool true])) (hO : TwO w' w.heap.size p u) (B : Below w.heap.size w w') : OutTB w (apB t x) (apU t x) e w' := by
 obtain ⟨h1, h2⟩ := ap_sm h; rw [h1, h2]; exact ⟨_, he, hO, B⟩
def aevB (t : Tw) (x : Ev) : Bool := twB t && apB t x
def aevU (t : Tw) (x : Ev) : Tw := if twB t then apU t x else Tw.zero
theorem aev_no {t : Tw} {x : Ev} (h : twB t = false) : aevB t x = false ∧ aevU t x = Tw.zero := by unfold aevB aevU; rw [h]; exact ⟨rfl, rfl⟩
theorem aev_yes {t : Tw} {x : Ev} (h : twB t = true) : aevB t x = apB t x ∧ aevU t x = apU t x := by unfold aevB aevU; rw [h]; exact ⟨rfl, rfl⟩
theorem out_by {w w' : World} {t u : Tw} {x : Ev} {e : Ending} {b : Bool} (B : Below w.heap.size w w') (hb : b = true → jj1 t x = some u) (hn : b = false → jj1 t x = none)
    (m1 : b = false → e = .returned (.tuple #[twV TA.zero Tw.zero, .bool false])) (m2 : b = true → twB u = false → e = .returned (.tuple #[twV TA.zero Tw.zero, .bool false])) (m3 : b = true → twB u = true → ∃ q, e = .returned (.tuple #[twV q u, .bool true]) ∧ TwO w' w.heap.size q u) : OutTB w (apB t x) (apU t x) e w' := by
  cases b with
  | false => exact out_zero (ap_none (hn rfl)) (m1 rfl) B
  | true =>
    cases hv : twB u with
    | false => exact out_zero (ap_bad (hb rfl) hv) (m2 rfl hv) B
    | true =>
      obtain ⟨q, he, hO⟩ := m3 rfl hv; exact out_some (ap_some (hb rfl) hv) he hO B
theorem sAE (p : TA) (t : Tw) (x : Ev) (A : Option Addr) (cz : Nat) (w : World) (h : IsTw w p t) (hv : twB t = true) (hz : jqc w A x.dd.zs) (hzn : x.dd.zs.length ≤ 1048576) (hzc : x.dd.zs.length ≤ cz) :
  Calls Tryz.prog 42 #[twV p t, evV A cz x] w (OutTB w (apB t x) (apU t x)) := by
 obtain ⟨a1, c1, a2, c2, a3, c3, a4, c4⟩ := p; obtain ⟨hs, ts, ns, r, hd, ac, rt, tm, ls, cm⟩ := t; obtain ⟨k, ⟨dk, o, tt, n, d, zs⟩, at_, nu⟩ := x; dsimp only at hz hzn hzc
 by_cases k0 : k = 0
 ·refine (ssa0 a1 a2 a3 a4 c1 c2 c3 c4 hs ts ns r hd ac rt tm ls cm k dk o tt n d A zs cz at_ nu w h hz hzn hzc hv k0).mono ?_
  rintro e w' ⟨B, m1, m2, m3⟩; exact out_by B (b := jjf hs ⟨dk, o, tt, n, d, zs⟩) (fun hb => by unfold jj1; rw [if_pos k0]; dsimp only; rw [hb]; rfl) (fun hb => by unfold jj1; rw [if_pos k0]; dsimp only; rw [hb]; rfl) m1 m2 m3
 by_cases k1 : k = 1
 ·refine (ssa1 a1 a2 a3 a4 c1 c2 c3 c4 hs ts ns r hd ac rt tm ls cm k dk o tt n d A zs cz at_ nu w h hv k1).mono ?_
  rintro e w' ⟨B, m1, m2, m3⟩; exact out_by B (b := tfB hs nu) (fun hb => by unfold jj1; rw [if_neg k0, if_pos k1]; dsimp only; rw [hb]; rfl) (fun hb => by unfold jj1; rw [if_neg k0, if_pos k1]; dsimp only; rw [hb]; rfl) m1 m2 m3
 by_cases k2 : k = 2
 ·refine (ssa2 a1 a2 a3 a4 c1 c2 c3 c4 hs ts ns r hd ac rt tm ls cm k dk o tt n d A zs cz at_ nu w h hv k2).mono ?_
  rintro e w' ⟨B, m1, m2, m3⟩; exact out_by B (b := swB ts at_ nu) (fun hb => by unfold jj1; rw [if_neg k0, if_neg k1, if_pos k2]; dsimp only; rw [hb]; rfl) (fun hb => by unfold jj1; rw [if_neg k0, if_neg k1, if_pos k2]; dsimp only; rw [hb]; rfl) m1 m2 m3
 by_cases k3 : k = 3
 ·refine (ssa3 a1 a2 a3 a4 c1 c2 c3 c4 hs ts ns r hd ac rt tm ls cm k dk o tt n d A zs cz at_ nu w h hv k3).mono ?_
  rintro e w' ⟨B, m1, m2, m3⟩; exact out_by B (b := sgB ns at_ nu) (fun hb => by unfold jj1; rw [if_neg k0, if_neg k1, if_neg k2, if_pos k3]; dsimp only; rw [hb]; rfl) (fun hb => by unfold jj1; rw [if_neg k0, if_neg k1, if_neg k2, if_pos k3]; dsimp only; rw [hb]; rfl) m1 m2 m3
 by_cases k4 : k = 4
 ·refine (ssa4 a1 a2 a3 a4 c1 c2 c3 c4 hs ts ns r hd ac rt tm ls cm k dk o tt n d A zs cz at_ nu w h hv k4).mono ?_
  rintro e w' ⟨B, m2, m3⟩; exact out_by B (b := true) (fun _ => by unfold jj1; rw [if_neg k0, if_neg k1, if_neg k2, if_neg k3, if_pos k4]) (fun hb => by cases hb) (fun hb => by cases hb) (fun _ => m2) (fun _ => m3)
 by_cases k5 : k = 5
 ·refine (ssa5 a1 a2 a3 a4 c1 c2 c3 c4 hs ts ns r hd ac rt tm ls cm k dk o tt n d A zs cz at_ nu w h hv k5).mono ?_
  rintro e w' ⟨B, m1, m2, m3⟩; exact out_by B (b := inB3 nu 0 500) (fun hb => by unfold jj1; rw [if_neg k0, if_neg k1, if_neg k2, if_neg k3, if_neg k4, if_pos k5]; dsimp only; rw [hb]; rfl) (fun hb => by unfold jj1; rw [if_neg k0, if_neg k1, if_neg k2, if_neg k3, if_neg k4, if_pos k5]; dsimp only; rw [hb]; rfl) m1 m2 m3
 ·refine (ssa6 a1 a2 a3 a4 c1 c2 c3 c4 hs ts ns r hd ac rt tm ls cm k dk o tt n d A zs cz at_ nu w h k0 k1 k2 k3 k4 k5).mono ?_
  rintro e w' ⟨B, he⟩; exact out_zero (ap_none (by unfold jj1; rw [if_neg k0, if_neg k1, if_neg k2, if_neg k3, if_neg k4, if_neg k5])) he B
theorem sApply (a1 a2 a3 a4 : Option Addr) (c1 c2 c3 c4 : Nat) (hs : List Hd) (ts : List Tn) (ns : List Nd) (r hd : Int) (ac : List Ac) (rt tm ls cm : Int) (k dk o tt n d : Int) (A : Option Addr) (zs : List Int) (cz : Nat) (at_ nu : Int) (w : World) (h : IsTw w ⟨a1, c1, a2, c2, a3, c3, a4, c4⟩ ⟨hs, ts, ns, r, hd, ac, rt, tm, ls, cm⟩) (hz : jqc w A zs) (hzn : zs.length ≤ 1048576) (hzc : zs.length ≤ cz) :
    Calls Tryz.prog 12 #[.agg #[.slice a1 hs.length c1, .slice a2 ts.length c2, .slice a3 ns.length c3, .int .i64 r, .int .i64 hd, .slice a4 ac.length c4, .int .i64 rt, .int .i64 tm, .int .i64 ls, .int .i64 cm], .agg #[.int .i64 k, .int .i64 dk, .int .i64 o, .int .i64 tt, .int .i64 n, .int .i64 d, .slice A zs.length cz, .int .i64 at_, .int .i64 nu]] w (OutTB w (aevB ⟨hs, ts, ns, r, hd, ac, rt, tm, ls, cm⟩ ⟨k, ⟨dk, o, tt, n, d, zs⟩, at_, nu⟩) (aevU ⟨hs, ts, ns, r, hd, ac, rt, tm, ls, cm⟩ ⟨k, ⟨dk, o, tt, n, d, zs⟩, at_, nu⟩)) := by
  have HI := Lib.hid (fun W (hW : Below w.heap.size w W) => jq7 h hW); have HZI := Lib.hid (fun W (hW : Below w.heap.size w W) => jqf hz hW); have HZN := Lib.hid hzn; have HZC := Lib.hid hzc; clear h hz hzn hzc
  obtain ⟨va, hva⟩ : ∃ va, twB ⟨hs, ts, ns, r, hd, ac, rt, tm, ls, cm⟩ = va := ⟨_, rfl⟩
  have HVA := Lib.hid hva; clear hva; go_enter Tryz.func12, Tryz.ntmps12; obtain ⟨u0, hy, KA, KE, KR, B⟩ := three w 30 37 30 #[.slice a1 hs.length c1, .slice a2 ts.length c2, .slice a3 ns.length c3, .int .i64 r, .int .i64 hd, .slice a4 ac.length c4, .int .i64 rt, .int .i64 tm, .int .i64 ls, .int .i64 cm] #[.int .i64 k, .int .i64 dk, .int .i64 o, .int .i64 tt, .int .i64 n, .int .i64 d, .slice A zs.length cz, .int .i64 at_, .int .i64 nu] #[.slice none 0 0, .slice none 0 0, .slice none 0 0, .int .i64 0, .int .i64 0, .slice none 0 0, .int .i64 0, .int .i64 0, .int .i64 0, .int .i64 0]; have HY := Lib.hid hy; clear hy; have HS0 := Lib.hid (And.intro KA (And.intro KE (And.intro KR B))); clear KA KE KR B
  go_wp2_with (first | (show wpList _ _ _ _ _ _; rw [← HY.out]; clear HY; obtain ⟨KA, KE, KR, B⟩ := HS0.out; clear HS0; have QA := jq0 KA; have QE := jqa KE; have QR := jq0 KR))
  refine (svtw ⟨a1, c1, a2, c2, a3, c3, a4, c4⟩ ⟨hs, ts, ns, r, hd, ac, rt, tm, ls, cm⟩ _ (HI.out _ B)).mono ?_; rintro e u1 ⟨rfl, C⟩; clear QA QE QR; replace KA := KA.next C; replace KE := KE.next C; replace KR := KR.next C; replace B := jq1 B C; clear C; rw [HVA.out]
  cases va with
  | false =>
    clear HI HZI HZN HZC; obtain ⟨fr0, fr1, fr2, fr3, fr4, fr5, fr6, fr7, fr8, fr9⟩ := jx9 KR; have QA := jq0 KA; have QE := jqa KE; have QR := jq0 KR; have HF := Lib.hid (And.intro KA (And.intro KE (And.intro KR B))); clear KA KE KR B; go_wp2_with fail; clear fr0 fr1 fr2 fr3 fr4 fr5 fr6 fr7 fr8 fr9; clear QA QE QR; obtain ⟨KA, KE, KR, B⟩ := HF.out; clear HF
    obtain ⟨uf, hy⟩ : ∃ y, y = jq9 u1 (w.heap.size + 1 + 1) (.slice none 0 0) (.slice none 0 0) (.slice none 0 0) (.int .i64 0) (.int .i64 0) (.slice none 0 0) (.int .i64 0) (.int .i64 0) (.int .i64 0) (.int .i64 0) := ⟨_, rfl⟩
    change bodyPost _ _ _ _ _ (jq9 _ _ _ _ _ _ _ _ _ _ _ _); rw [← hy]; replace B := X10B B hy (by omega); have KOLD := KR; replace KR := X10b KR hy; clear KA; clear KE; clear KOLD hy; have QR := jq0 KR; refine bodyPost_ret (v := .tuple #[.agg #[.slice none 0 0, .slice none 0 0, .slice none 0 0, .int .i64 0, .int .i64 0, .slice none 0 0, .int .i64 0, .int .i64 0, .int .i64 0, .int .i64 0], .bool false]) (by simp [results, Tryz.results12, go_sem, QR]) rfl ⟨TA.zero, by rw [(aev_no HVA.out).1, (aev_no HVA.out).2]; rfl, by rw [(aev_no HVA.out).2]; exact TwO.zero _ _, B⟩
  | true =>
    have QA := jq0 KA; have QE := jqa KE; have QR := jq0 KR; go_wp2_with fail; refine (sAE ⟨a1, c1, a2, c2, a3, c3, a4, c4⟩ ⟨hs, ts, ns, r, hd, ac, rt, tm, ls, cm⟩ ⟨k, ⟨dk, o, tt, n, d, zs⟩, at_, nu⟩ A cz _ (HI.out _ B) HVA.out (HZI.out _ B) HZN.out HZC.out).mono ?_; rintro e u2 ⟨⟨qa1, qc1, qa2, qc2, qa3, qc3, qa4, qc4⟩, he, OT, C⟩; have HU : Hid (aevU ⟨hs, ts, ns, r, hd, ac, rt, tm, ls, cm⟩ ⟨k, ⟨dk, o, tt, n, d, zs⟩, at_, nu⟩ = apU ⟨hs, ts, ns, r, hd, ac, rt, tm, ls, cm⟩ ⟨k, ⟨dk, o, tt, n, d, zs⟩, at_, nu⟩) := (aev_yes HVA.out).2; have HB : Hid (aevB ⟨hs, ts, ns, r, hd, ac, rt, tm, ls, cm⟩ ⟨k, ⟨dk, o, tt, n, d, zs⟩, at_, nu⟩ = apB ⟨hs, ts, ns, r, hd, ac, rt, tm, ls, cm⟩ ⟨k, ⟨dk, o, tt, n, d, zs⟩, at_, nu⟩) := (aev_yes HVA.out).1
    obtain ⟨bb, hbb⟩ : ∃ bb, apB ⟨hs, ts, ns, r, hd, ac, rt, tm, ls, cm⟩ ⟨k, ⟨dk, o, tt, n, d, zs⟩, at_, nu⟩ = bb := ⟨_, rfl⟩
    obtain ⟨UU, hUU⟩ : ∃ UU, apU ⟨hs, ts, ns, r, hd, ac, rt, tm, ls, cm⟩ ⟨k, ⟨dk, o, tt, n, d, zs⟩, at_, nu⟩ = UU := ⟨_, rfl⟩
    rw [hbb, hUU] at he; rw [hUU] at OT; rw [hbb] at HB; rw [hUU] at HU; clear hbb hUU; obtain ⟨hs9, ts9, ns9, r9, hd9, ac9, rt9, tm9, ls9, cm9⟩ := UU; change e = .returned (.tuple #[.agg #[.slice qa1 hs9.length qc1, .slice qa2 ts9.length qc2, .slice qa3 ns9.length qc3, .int .i64 r9, .int .i64 hd9, .slice qa4 ac9.length qc4, .int .i64 rt9, .int .i64 tm9, .int .i64 ls9, .int .i64 cm9], .bool bb]) at he; subst he; have OT := OT.base B.size; have HOT := Lib.hid OT; have KR0 := Lib.hid (KR.next C); clear OT; clear QA QE QR; replace KA := KA.next C; replace KE := KE.next C; replace KR := KR.next C; replace B := jq1 B C; clear C; have KSA := Lib.hid KR; have QA := jq0 KA; have QE := jqa KE; have QR := jq0 KR
    obtain ⟨y1s, hy⟩ : ∃ y, y = jq9 u2 (w.heap.size + 1 + 1) (.slice qa1 hs9.length qc1) (.slice qa2 ts9.length qc2) (.slice qa3 ns9.length qc3) (.int .i64 r9) (.int .i64 hd9) (.slice qa4 ac9.length qc4) (.int .i64 rt9) (.int .i64 tm9) (.int .i64 ls9) (.int .i64 cm9) := ⟨_, rfl⟩
    replace KA := X10f KA hy (by omega); replace KE := X10f KE hy (by omega); replace KR := X10b KR hy; replace B := X10B B hy (by omega); have HS9 := Lib.hid (X10o HOT.out KR0.out hy); clear HOT KR0; have HY := Lib.hid hy; clear hy; have HS1 := Lib.hid (And.intro KA (And.intro KE (And.intro KR B))); clear KA KE KR B
    go_wp2_with (first | (show wpList _ _ _ ({ dst := _, op := Op.store _ _ _, type := _, pos := _, after := _, guard := _ } :: _) _ _; refine jzc rfl _ _ _ rfl (w.heap.size + 1 + 1) _ _ _ _ _ _ _ _ _ _ rfl rfl KSA.out (by kernel_rfl) rfl ?_; rw [← HY.out]; clear KSA HY; clear QA QE QR; obtain ⟨KA, KE, KR, B⟩ := HS1.out; clear HS1; have QA := jq0 KA; have QE := jqa KE; have QR := jq0 KR))
    skip
    clear QA QE QR; have QA := jq0 KA; have QE := jqa KE; have QR := jq0 KR; refine bodyPost_ret (v := .tuple #[.agg #[.slice qa1 hs9.length qc1, .slice qa2 ts9.length qc2, .slice qa3 ns9.length qc3, .int .i64 r9, .int .i64 hd9, .slice qa4 ac9.length qc4, .int .i64 rt9, .int .i64 tm9, .int .i64 ls9, .int .i64 cm9], .bool bb]) (by simp [results, Tryz.results12, go_sem, QR]) rfl ⟨⟨qa1, qc1, qa2, qc2, qa3, qc3, qa4, qc4⟩, by rw [HB.out, HU.out]; rfl, by rw [HU.out]; exact HS9.out, B⟩
end Go.Proofs.YtaehemmjemhgpabGreat
