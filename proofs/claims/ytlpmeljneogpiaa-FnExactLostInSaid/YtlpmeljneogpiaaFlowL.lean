/- What is lost, by the program. Condition: at most 1048576 nodes. -/
import Derived.Test.YtlpmeljneogpiaaFlowK
namespace Go.Proofs.Ytlpmeljneogpiaa
open Go.RowKit
set_option linter.unusedSimpArgs false
set_option linter.unusedVariables false
set_option maxHeartbeats 4000000 in
/-- impl.isShut -/
theorem iShut (a : Option Addr) (cap : Nat) (ns : List Nd) (k : Nat) (w : World) (h : IsNd w a ns) (hn : ns.length ≤ 1048576) (hcap : ns.length ≤ cap) (hv : vnB ns = true) (hk : k < ns.length) :
    Calls Try.prog 46 #[.slice a ns.length cap, .int .i64 (k : Int)] w fun e w' => e = .returned (.bool (shB ns (k : Int))) ∧ Below w.heap.size w w' := by
  have CK := iKids a cap ns (k : Int) w h hn hcap
  rw [kids_yes hv (inN_is hk)] at CK
  have hkl := kids_len ns (k : Int)
  have CW := fun (W : World) (b : Option Addr) (c : Nat) (hW : Below w.heap.size w W) (hb : IsInts W b (kidsF ns (k : Int))) => iweights a b cap c ns (kidsF ns (k : Int)) W (nd_below h hW) hb (fun z hz => by obtain ⟨j, x, y, _⟩ := kids_bd hz; exact ⟨j, x, y⟩) (by omega) hn
  change ∀ W b c, _ → _ → Calls _ _ _ W (OutI W (wts ns (k : Int))) at CW
  have CS := fun (W : World) (b : Option Addr) (c : Nat) (hb : IsInts W b (wts ns (k : Int))) => isum b c (wts ns (k : Int)) W hb (by have := wts_len hv (k : Int); omega) (fun z hz => by have := wts_bd hv (k : Int) z hz; omega)
  have HS : Hid (shB ns (k : Int) = (decide (0 < (kidsF ns (k : Int)).length) && ((wts ns (k : Int)).sum == 0))) := rfl
  have HCW := Lib.hid CW
  have HCS := Lib.hid CS
  clear CW CS h hv
  generalize wts ns (k : Int) = ws at HCW HCS HS
  go_enter Try.func46, Try.ntmps46
  go_wp2_with fail
  refine CK.mono ?_
  rintro e w1 ⟨v5, rfl, hO, hB⟩
  obtain ⟨b, c, rfl, hI⟩ := hO.ints
  have CW := HCW.out w1 b c hB hI
  clear CK hO hI
  by_cases hz : (kidsF ns (k : Int)).length = 0
  · have HE : Hid (shB ns (k : Int) = false) := by rw [HS.out, decide_eq_false (by omega)]; rfl
    have e1 : decide (0 < ((kidsF ns (k : Int)).length : Int)) = false := decide_eq_false (by omega)
    have e2 : decide (0 < (kidsF ns (k : Int)).length) = false := decide_eq_false (by omega)
    generalize (kidsF ns (k : Int)).length = q at hz e1 e2 CW
    subst hz
    have HB := Lib.hid hB
    clear CW hB
    go_wp2_with fail
    go_ret
    exact ⟨ret_bool HE.out.symm, HB.out⟩
  · have HE : Hid (shB ns (k : Int) = (ws.sum == 0)) := by rw [HS.out, decide_eq_true (by omega)]; rfl
    have e1 : decide (0 < ((kidsF ns (k : Int)).length : Int)) = true := decide_eq_true (by omega)
    have e2 : decide (0 < (kidsF ns (k : Int)).length) = true := decide_eq_true (by omega)
    have e3 : 0 < (kidsF ns (k : Int)).length := by omega
    generalize (kidsF ns (k : Int)).length = q at hz e1 e2 e3 CW
    have HB := Lib.hid hB
    clear hB
    go_wp2_with fail
    refine CW.mono ?_
    rintro e w2 ⟨v15, rfl, hW, hB2⟩
    obtain ⟨b2, c2, rfl, hI2⟩ := hW.ints
    have CS := HCS.out w2 b2 c2 hI2
    have HB2 := Lib.hid (bel_tr HB.out hB2)
    clear CW hW hI2 hB2
    go_wp2_with fail
    refine CS.mono ?_
    rintro e w' ⟨rfl, rfl⟩
    obtain ⟨s, hs⟩ : ∃ s, ws.sum = s := ⟨_, rfl⟩
    rw [hs] at HE ⊢
    clear CS hs
    by_cases h0 : s = 0
    · subst h0
      go_wp2_with fail
      go_ret
      exact ⟨ret_bool HE.out.symm, HB2.out⟩
    · have e4 : (s == 0) = false := by simpa using h0
      go_wp2_with fail
      go_ret
      exact ⟨ret_bool (HE.out.trans e4).symm, HB2.out⟩
set_option maxHeartbeats 8000000 in
/-- impl.LostIn -/
theorem iLost (a : Option Addr) (cap : Nat) (ns : List Nd) (fl : Int) (w : World) (h : IsNd w a ns) (hn : ns.length ≤ 1048576) (hcap : ns.length ≤ cap) :
    Calls Try.prog 24 #[.slice a ns.length cap, .int .i64 fl] w fun e w' => e = .returned (.int .i64 (lostV ns fl)) ∧ Below w.heap.size w w' := by
  have CF := icanFlow a cap ns fl w h hn hcap
  cases hb : flB ns fl with
  | false =>
    rw [hb] at CF
    rw [lost_no hb]
    clear hb h
    go_enter Try.func24, Try.ntmps24
    go_wp2_with fail
    refine CF.mono ?_
    rintro e w1 ⟨rfl, C⟩
    go_wp2_with fail
    go_ret
    exact ⟨rfl, C⟩
  | true =>
  rw [hb] at CF
  rw [lost_yes hb]
  obtain ⟨hv, f0, f1⟩ := flB_is hb
  obtain ⟨l1, l12, _⟩ := vn_is hv
  have CP := fun (W : World) (hW : Below w.heap.size w W) => (by have := iPassed a cap ns fl W (nd_below h hW) hn hcap; rw [passed_yes hb] at this; exact this : Calls Try.prog 22 #[.slice a ns.length cap, .int .i64 fl] W (OutI W (passF ns fl)))
  have CC := fun (W : World) (hW : Below w.heap.size w W) => (by have := iFlows a cap ns fl W (nd_below h hW) hn hcap; rw [flow_yes hb] at this; exact this : Calls Try.prog 15 #[.slice a ns.length cap, .int .i64 fl] W (OutI W (comeF ns fl)))
  have CS := fun (W : World) (hW : Below w.heap.size w W) (k : Nat) (hk : k < ns.length) => iShut a cap ns k W (nd_below h hW) hn hcap hv hk
  have HV := Lib.hid hv
  have HCC := Lib.hid CC
  have HCS := Lib.hid CS
  have HCP := Lib.hid CP
  clear hb hv h CC CS CP
  go_enter Try.func24, Try.ntmps24
  go_wp2_with fail
  refine CF.mono ?_
  rintro e w1 ⟨rfl, C⟩
  have CP := HCP.out w1 C
  have H1 := Lib.hid C
  clear CF C
  go_wp2_with fail
  refine CP.mono ?_
  rintro e w2 ⟨v5, rfl, hP, hB2⟩
  obtain ⟨pb, pc, rfl, _⟩ := hP.ints
  have hpl := passF_len ns fl
  rw [hpl] at hP ⊢
  have H2 := Lib.hid (bel_tr H1.out hB2)
  have CC := HCC.out w2 H2.out
  have HP := Lib.hid hP
  clear CP hP hB2 H1
  go_wp2_with fail
  refine CC.mono ?_
  rintro e w3 ⟨v18, rfl, hC, hB3⟩
  obtain ⟨cb, cc, rfl, _⟩ := hC.ints
  have hcl : (comeF ns fl).length = ns.length := comeTo_len ns fl _
  rw [hcl] at hC ⊢
  have H3 := Lib.hid (bel_tr H2.out hB3)
  have HP3 := Lib.hid (HP.out.of_block hB3)
  have HC3 := Lib.hid hC
  clear CC hC hB3 HP H2
  go_wp2_with fail
  obtain ⟨V, hV⟩ : ∃ V, V = w3 := ⟨_, rfl⟩
  subst hV
  go_loopw [6, 20] (fun s i wr => ∃ k : Nat, k ≤ ns.length ∧ i = .int .i64 k ∧ s = .int .i64 (lostTo ns fl k) ∧ Below V.heap.size V wr) (fun _ i _ => ns.length - (intOf i).toNat)
  case atStart => exact ⟨0, Nat.zero_le _, rfl, rfl, Below.refl _ _⟩
  case round =>
    obtain ⟨k, hk, rfl, rfl, hB⟩ := hrel
    have hlb := lost_bd HV.out ⟨f0, f1⟩ k hk
    by_cases hlt : k < ns.length
    · rcases (HP3.out.of_block hB).at_ with e | ⟨gp, op, rfl, hpp⟩
      · rw [e] at hpl; simp at hpl; omega
      rcases (HC3.out.of_block hB).at_ with e | ⟨gc, oc, rfl, hcc⟩
      · rw [e] at hcl; simp at hcl; omega
      have c1 := hpp k (by omega)
      have c2 := hcc k (by omega)
      have hcb := come_bd HV.out ⟨f0, f1⟩ k
      have hpb := passF_bd HV.out ⟨f0, f1⟩ hlt
      have CS := HCS.out wr (bel_tr H3.out hB) k hlt
      have hls := lostTo_succ ns fl k
      unfold lossAt at hls
      generalize (passF ns fl).getD k 0 = p at c1 hpb hls
      generalize (comeF ns fl).getD k 0 = c at c2 hcb hls hpb
      generalize lostTo ns fl k = s at hlb hls
      have k0 : (0 : Int) ≤ (k : Int) := by omega
      have k1 : (k : Int) < (ns.length : Int) := by omega
      have c3 : ∀ W, Below wr.heap.size wr W → W.cell? ⟨gp, op + k, none⟩ = some (.int .i64 p) := fun W hW => (hW.cell (World.block_lt_of_cell? wr _ c1)).trans c1
      have HC1 := Lib.hid c3
      have HB := Lib.hid hB
      have hs12 : s ≤ 6000 := by omega
      have hs0 : 0 ≤ s := hlb.1
      clear hpp hcc c3 hB hlb
      cases hsh : shB ns (k : Int) with
      | false =>
        rw [hsh] at CS hls
        have HL : Hid (lostTo ns fl (k + 1) = s + c - p) := by rw [hls]; show s + (c - p + if false = true then p else 0) = s + c - p; rw [if_neg (by simp)]; omega
        clear hls hsh
        go_wp2_with fail
        refine CS.mono ?_
        rintro e w5 ⟨rfl, hb5⟩
        have HB5 := Lib.hid (bel_tr HB.out hb5)
        clear hb5 CS
        go_wp2_with fail
        go_roundw
        case rel => exact ⟨k + 1, by omega, by go_num, by rw [HL.out], HB5.out⟩
        case measure => simp [intOf]; omega
      | true =>
        rw [hsh] at CS hls
        have HL : Hid (lostTo ns fl (k + 1) = s + c) := by rw [hls]; show s + (c - p + if true = true then p else 0) = s + c; rw [if_pos rfl]; omega
        clear hls hsh
        go_wp2_with fail
        refine CS.mono ?_
        rintro e w5 ⟨rfl, hb5⟩
        have c5 := HC1.out w5 hb5
        have HB5 := Lib.hid (bel_tr HB.out hb5)
        clear hb5 CS c1 c2
        go_wp2_with fail
        go_roundw
        case rel => exact ⟨k + 1, by omega, by go_num, by rw [HL.out], HB5.out⟩
        case measure => simp [intOf]; omega
    · have H4 := Lib.hid (bel_tr H3.out hB)
      clear hB
      go_wp2_with fail
      go_ret
      exact ⟨ret_int (by rw [show k = ns.length from by omega]), H4.out⟩
end Go.Proofs.Ytlpmeljneogpiaa
