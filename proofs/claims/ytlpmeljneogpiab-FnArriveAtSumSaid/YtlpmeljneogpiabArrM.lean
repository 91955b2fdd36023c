/- The texts FlowL, NodQ, NodR and NodW in one (a claim has at most 60 files). Conditions as stated. -/
import Derived.Test.YtlpmeljneogpiabFlowK
import Derived.Test.YtlpmeljneogpiabFlowQ
namespace Go.Proofs.Ytlpmeljneogpiab
section XFlowL
open Go.RowKit
set_option linter.unusedSimpArgs false
set_option linter.unusedVariables false
set_option maxHeartbeats 4000000 in
/-- impl.isShut -/
theorem iShut (a : Option Addr) (cap : Nat) (ns : List Nd) (k : Nat) (w : World) (h : IsNd w a ns) (hn : ns.length ≤ 1048576) (hcap : ns.length ≤ cap) (hv : vnB ns = true) (hk : k < ns.length) :
    Calls Try.prog 59 #[.slice a ns.length cap, .int .i64 (k : Int)] w fun e w' => e = .returned (.bool (shB ns (k : Int))) ∧ Below w.heap.size w w' := by
  have CK := iKids a cap ns (k : Int) w h hn hcap
  rw [kids_yes hv (inN_is hk)] at CK
  have hkl := kids_len ns (k : Int)
  have CW := fun (W : World) (b : Option Addr) (c : Nat) (hW : Below w.heap.size w W) (hb : IsInts W b (kidsF ns (k : Int))) => iweights a b cap c ns (kidsF ns (k : Int)) W (nd_below h hW) hb (fun z hz => by obtain ⟨j, x, y, _⟩ := kids_bd hz; exact ⟨j, x, y⟩) (by omega) hn
  change ∀ W b c, _ → _ → Calls _ _ _ W (OutI W (wts ns (k : Int))) at CW
  have CS := fun (W : World) (b : Option Addr) (c : Nat) (hb : IsInts W b (wts ns (k : Int))) => isum b c (wts ns (k : Int)) W hb (by have := wts_len hv (k : Int); omega) (fun z hz => by have := wts_bd hv (k : Int) z hz; omega)
  have HS : Hid (shB ns (k : Int) = (decide (0 < (kidsF ns (k : Int)).length) && ((wts ns (k : Int)).sum == 0))) := rfl
  have HCW := Lib.hid CW
  have HCS := Lib.hid CS
  clear CW CS h hv
  generalize wts ns (k : Int) = ws at HCW HCS HS
  go_enter Try.func59, Try.ntmps59
  go_wp2_with fail
  refine CK.mono ?_
  rintro e w1 ⟨v5, rfl, hO, hB⟩
  obtain ⟨b, c, rfl, hI⟩ := hO.ints
  have CW := HCW.out w1 b c hB hI
  clear CK hO hI
  by_cases hz : (kidsF ns (k : Int)).length = 0
  · have HE : Hid (shB ns (k : Int) = false) := by rw [HS.out, decide_eq_false (by omega)]; rfl
    have e1 : decide (0 < ((kidsF ns (k : Int)).length : Int)) = false := decide_eq_false (by omega)
    have e2 : decide (0 < (kidsF ns (k : Int)).length) = false := decide_eq_false (by omega)
    generalize (kidsF ns (k : Int)).length = q at hz e1 e2 CW
    subst hz
    have HB := Lib.hid hB
    clear CW hB
    go_wp2_with fail
    go_ret
    exact ⟨ret_bool HE.out.symm, HB.out⟩
  · have HE : Hid (shB ns (k : Int) = (ws.sum == 0)) := by rw [HS.out, decide_eq_true (by omega)]; rfl
    have e1 : decide (0 < ((kidsF ns (k : Int)).length : Int)) = true := decide_eq_true (by omega)
    have e2 : decide (0 < (kidsF ns (k : Int)).length) = true := decide_eq_true (by omega)
    have e3 : 0 < (kidsF ns (k : Int)).length := by omega
    generalize (kidsF ns (k : Int)).length = q at hz e1 e2 e3 CW
    have HB := Lib.hid hB
    clear hB
    go_wp2_with fail
    refine CW.mono ?_
    rintro e w2 ⟨v15, rfl, hW, hB2⟩
    obtain ⟨b2, c2, rfl, hI2⟩ := hW.ints
    have CS := HCS.out w2 b2 c2 hI2
    have HB2 := Lib.hid (bel_tr HB.out hB2)
    clear CW hW hI2 hB2
    go_wp2_with fail
    refine CS.mono ?_
    rintro e w' ⟨rfl, rfl⟩
    obtain ⟨s, hs⟩ : ∃ s, ws.sum = s := ⟨_, rfl⟩
    rw [hs] at HE ⊢
    clear CS hs
    by_cases h0 : s = 0
    · subst h0
      go_wp2_with fail
      go_ret
      exact ⟨ret_bool HE.out.symm, HB2.out⟩
    · have e4 : (s == 0) = false := by simpa using h0
      go_wp2_with fail
      go_ret
      exact ⟨ret_bool (HE.out.trans e4).symm, HB2.out⟩
set_option maxHeartbeats 8000000 in
/-- impl.LostIn -/
theorem iLost (a : Option Addr) (cap : Nat) (ns : List Nd) (fl : Int) (w : World) (h : IsNd w a ns) (hn : ns.length ≤ 1048576) (hcap : ns.length ≤ cap) :
    Calls Try.prog 28 #[.slice a ns.length cap, .int .i64 fl] w fun e w' => e = .returned (.int .i64 (lostV ns fl)) ∧ Below w.heap.size w w' := by
  have CF := icanFlow a cap ns fl w h hn hcap
  cases hb : flB ns fl with
  | false =>
    rw [hb] at CF
    rw [lost_no hb]
    clear hb h
    go_enter Try.func28, Try.ntmps28
    go_wp2_with fail
    refine CF.mono ?_
    rintro e w1 ⟨rfl, C⟩
    go_wp2_with fail
    go_ret
    exact ⟨rfl, C⟩
  | true =>
  rw [hb] at CF
  rw [lost_yes hb]
  obtain ⟨hv, f0, f1⟩ := flB_is hb
  obtain ⟨l1, l12, _⟩ := vn_is hv
  have CP := fun (W : World) (hW : Below w.heap.size w W) => (by have := iPassed a cap ns fl W (nd_below h hW) hn hcap; rw [passed_yes hb] at this; exact this : Calls Try.prog 15 #[.slice a ns.length cap, .int .i64 fl] W (OutI W (passF ns fl)))
  have CC := fun (W : World) (hW : Below w.heap.size w W) => (by have := iFlows a cap ns fl W (nd_below h hW) hn hcap; rw [flow_yes hb] at this; exact this : Calls Try.prog 21 #[.slice a ns.length cap, .int .i64 fl] W (OutI W (comeF ns fl)))
  have CS := fun (W : World) (hW : Below w.heap.size w W) (k : Nat) (hk : k < ns.length) => iShut a cap ns k W (nd_below h hW) hn hcap hv hk
  have HV := Lib.hid hv
  have HCC := Lib.hid CC
  have HCS := Lib.hid CS
  have HCP := Lib.hid CP
  clear hb hv h CC CS CP
  go_enter Try.func28, Try.ntmps28
  go_wp2_with fail
  refine CF.mono ?_
  rintro e w1 ⟨rfl, C⟩
  have CP := HCP.out w1 C
  have H1 := Lib.hid C
  clear CF C
  go_wp2_with fail
  refine CP.mono ?_
  rintro e w2 ⟨v5, rfl, hP, hB2⟩
  obtain ⟨pb, pc, rfl, _⟩ := hP.ints
  have hpl := passF_len ns fl
  rw [hpl] at hP ⊢
  have H2 := Lib.hid (bel_tr H1.out hB2)
  have CC := HCC.out w2 H2.out
  have HP := Lib.hid hP
  clear CP hP hB2 H1
  go_wp2_with fail
  refine CC.mono ?_
  rintro e w3 ⟨v18, rfl, hC, hB3⟩
  obtain ⟨cb, cc, rfl, _⟩ := hC.ints
  have hcl : (comeF ns fl).length = ns.length := comeTo_len ns fl _
  rw [hcl] at hC ⊢
  have H3 := Lib.hid (bel_tr H2.out hB3)
  have HP3 := Lib.hid (HP.out.of_block hB3)
  have HC3 := Lib.hid hC
  clear CC hC hB3 HP H2
  go_wp2_with fail
  obtain ⟨V, hV⟩ : ∃ V, V = w3 := ⟨_, rfl⟩
  subst hV
  go_loopw [6, 20] (fun s i wr => ∃ k : Nat, k ≤ ns.length ∧ i = .int .i64 k ∧ s = .int .i64 (lostTo ns fl k) ∧ Below V.heap.size V wr) (fun _ i _ => ns.length - (intOf i).toNat)
  case atStart => exact ⟨0, Nat.zero_le _, rfl, rfl, Below.refl _ _⟩
  case round =>
    obtain ⟨k, hk, rfl, rfl, hB⟩ := hrel
    have hlb := lost_bd HV.out ⟨f0, f1⟩ k hk
    by_cases hlt : k < ns.length
    · rcases (HP3.out.of_block hB).at_ with e | ⟨gp, op, rfl, hpp⟩
      · rw [e] at hpl; simp at hpl; omega
      rcases (HC3.out.of_block hB).at_ with e | ⟨gc, oc, rfl, hcc⟩
      · rw [e] at hcl; simp at hcl; omega
      have c1 := hpp k (by omega)
      have c2 := hcc k (by omega)
      have hcb := come_bd HV.out ⟨f0, f1⟩ k
      have hpb := passF_bd HV.out ⟨f0, f1⟩ hlt
      have CS := HCS.out wr (bel_tr H3.out hB) k hlt
      have hls := lostTo_succ ns fl k
      unfold lossAt at hls
      generalize (passF ns fl).getD k 0 = p at c1 hpb hls
      generalize (comeF ns fl).getD k 0 = c at c2 hcb hls hpb
      generalize lostTo ns fl k = s at hlb hls
      have k0 : (0 : Int) ≤ (k : Int) := by omega
      have k1 : (k : Int) < (ns.length : Int) := by omega
      have c3 : ∀ W, Below wr.heap.size wr W → W.cell? ⟨gp, op + k, none⟩ = some (.int .i64 p) := fun W hW => (hW.cell (World.block_lt_of_cell? wr _ c1)).trans c1
      have HC1 := Lib.hid c3
      have HB := Lib.hid hB
      have hs12 : s ≤ 6000 := by omega
      have hs0 : 0 ≤ s := hlb.1
      clear hpp hcc c3 hB hlb
      cases hsh : shB ns (k : Int) with
      | false =>
        rw [hsh] at CS hls
        have HL : Hid (lostTo ns fl (k + 1) = s + c - p) := by rw [hls]; show s + (c - p + if false = true then p else 0) = s + c - p; rw [if_neg (by simp)]; omega
        clear hls hsh
        go_wp2_with fail
        refine CS.mono ?_
        rintro e w5 ⟨rfl, hb5⟩
        have HB5 := Lib.hid (bel_tr HB.out hb5)
        clear hb5 CS
        go_wp2_with fail
        go_roundw
        case rel => exact ⟨k + 1, by omega, by go_num, by rw [HL.out], HB5.out⟩
        case measure => simp [intOf]; omega
      | true =>
        rw [hsh] at CS hls
        have HL : Hid (lostTo ns fl (k + 1) = s + c) := by rw [hls]; show s + (c - p + if true = true then p else 0) = s + c; rw [if_pos rfl]; omega
        clear hls hsh
        go_wp2_with fail
        refine CS.mono ?_
        rintro e w5 ⟨rfl, hb5⟩
        have c5 := HC1.out w5 hb5
        have HB5 := Lib.hid (bel_tr HB.out hb5)
        clear hb5 CS c1 c2
        go_wp2_with fail
        go_roundw
        case rel => exact ⟨k + 1, by omega, by go_num, by rw [HL.out], HB5.out⟩
        case measure => simp [intOf]; omega
    · have H4 := Lib.hid (bel_tr H3.out hB)
      clear hB
      go_wp2_with fail
      go_ret
      exact ⟨ret_int (by rw [show k = ns.length from by omega]), H4.out⟩
end XFlowL
section XNodQ
set_option linter.unusedVariables false

theorem take_getD {ns : List Nd} {k j : Nat} (h : j < k) : (ns.take k).getD j nd0 = ns.getD j nd0 := by
  rw [List.getD_eq_getElem?_getD, List.getD_eq_getElem?_getD, List.getElem?_take, if_pos h]
theorem vn_take {ns : List Nd} (hv : vnB ns = true) {k : Nat} (h1 : 1 ≤ k) (hk : k ≤ ns.length) : vnB (ns.take k) = true := by
  obtain ⟨a, b, c⟩ := vn_is hv
  have hl : (ns.take k).length = k := by rw [List.length_take]; omega
  refine vn_yes (by omega) (by omega) (fun j hj => ?_)
  have := c j (by omega)
  unfold okN at this ⊢
  rw [take_getD (by omega)]; exact this
/-- how many kids the first k nodes have, of the first m nodes -/
def cntT (ns : List Nd) (m : Nat) : Nat → Int
  | 0 => 0
  | k + 1 => cntT ns m k + ((kidsTo ns (k : Int) m).length : Int)
theorem cntT_succ (ns : List Nd) (m k : Nat) : cntT ns m (k + 1) = cntT ns m k + ((kidsTo ns (k : Int) m).length : Int) := rfl
theorem cntT_more (ns : List Nd) (m : Nat) : ∀ k : Nat, cntT ns (m + 1) k = cntT ns m k + if 0 ≤ (ns.getD m nd0).1 ∧ (ns.getD m nd0).1 < (k : Int) then 1 else 0 := by
  intro k
  induction k with
  | zero => show (0 : Int) = 0 + _; rw [if_neg (by omega)]; rfl
  | succ k ih =>
    rw [cntT_succ, cntT_succ, ih]
    by_cases e : (ns.getD m nd0).1 = (k : Int)
    · rw [kidsTo_yes e, List.length_append, if_neg (by omega), if_pos (by omega)]
      show _ + ((_ + 1 : Nat) : Int) = _; omega
    · rw [kidsTo_no e]
      by_cases c : 0 ≤ (ns.getD m nd0).1 ∧ (ns.getD m nd0).1 < (k : Int)
      · rw [if_pos c, if_pos (by omega)]; omega
      · rw [if_neg c, if_neg (by omega)]; omega
theorem cntT_zero (ns : List Nd) : ∀ k : Nat, cntT ns 0 k = 0 := by
  intro k
  induction k with
  | zero => rfl
  | succ k ih => rw [cntT_succ, ih]; rfl
theorem cnt_all {ns : List Nd} (hv : vnB ns = true) : ∀ m : Nat, m < ns.length → cntT ns (m + 1) ns.length = (m : Int) := by
  intro m
  induction m with
  | zero =>
    intro h
    rw [cntT_more, cntT_zero, vn_par0 hv, if_neg (by omega)]; rfl
  | succ m ih =>
    intro h
    have p := vn_par hv h (by omega)
    rw [cntT_more, ih (by omega), if_pos (by omega)]; omega
theorem cntT_bd (ns : List Nd) (m : Nat) : ∀ k : Nat, 0 ≤ cntT ns m k ∧ cntT ns m k ≤ (m : Int) * (k : Int) := by
  intro k
  induction k with
  | zero => exact ⟨Int.le_refl _, by show (0 : Int) ≤ (m : Int) * ((0 : Nat) : Int); simp⟩
  | succ k ih =>
    have a := kidsTo_len ns (k : Int) m
    rw [cntT_succ, show ((k + 1 : Nat) : Int) = (k : Int) + 1 from by omega, Int.mul_add]
    omega
/-- leaves -/
theorem leavesTo_mem (ns : List Nd) (z : Int) : ∀ k, z ∈ leavesTo ns k ↔ ∃ j : Nat, z = (j : Int) ∧ j < k ∧ (kidsF ns (j : Int)).length = 0 := by
  intro k
  induction k with
  | zero => exact ⟨fun h => (by cases h), fun ⟨j, _, h, _⟩ => absurd h (Nat.not_lt_zero _)⟩
  | succ k ih =>
    by_cases h : (kidsF ns (k : Int)).length = 0
    · rw [leavesTo_yes h, List.mem_append, List.mem_singleton, ih]
      constructor
      · rintro (⟨j, a, b, c⟩ | rfl)
        · exact ⟨j, a, by omega, c⟩
        · exact ⟨k, rfl, by omega, h⟩
      · rintro ⟨j, rfl, b, c⟩
        by_cases e : j = k
        · exact .inr (by rw [e])
        · exact .inl ⟨j, rfl, by omega, c⟩
    · rw [leavesTo_no h, ih]
      constructor
      · rintro ⟨j, a, b, c⟩; exact ⟨j, a, by omega, c⟩
      · rintro ⟨j, rfl, b, c⟩
        refine ⟨j, rfl, ?_, c⟩
        by_cases e : j = k
        · subst e; exact absurd c h
        · omega
theorem leavesTo_asc (ns : List Nd) : ∀ k i j, i < j → j < (leavesTo ns k).length → (leavesTo ns k).getD i 0 < (leavesTo ns k).getD j 0 := by
  intro k
  induction k with
  | zero => intro i j _ h; exact absurd h (Nat.not_lt_zero _)
  | succ k ih =>
    intro i j hij hj
    by_cases h : (kidsF ns (k : Int)).length = 0
    · rw [leavesTo_yes h] at hj ⊢
      rw [List.length_append] at hj
      have hj' : j < (leavesTo ns k).length + 1 := hj
      by_cases e : j < (leavesTo ns k).length
      · rw [app_l e, app_l (by omega)]; exact ih i j hij e
      · have e2 : j = (leavesTo ns k).length := by omega
        rw [app_l (by omega), e2, app_r]
        obtain ⟨m, hm, hmk, _⟩ := (leavesTo_mem ns _ k).1 (getD_mem (zs := leavesTo ns k) (k := i) (by omega))
        rw [hm]
        show (m : Int) < (k : Int)
        omega
    · rw [leavesTo_no h] at hj ⊢
      exact ih i j hij hj
theorem leaf_last {ns : List Nd} (hv : vnB ns = true) : 0 < (leavesTo ns ns.length).length := by
  obtain ⟨l1, _, _⟩ := vn_is hv
  have hz : (kidsF ns ((ns.length - 1 : Nat) : Int)).length = 0 := by
    cases e : kidsF ns ((ns.length - 1 : Nat) : Int) with
    | nil => rfl
    | cons z t =>
      obtain ⟨j, rfl, hj, hp⟩ := kids_bd (ns := ns) (at_ := ((ns.length - 1 : Nat) : Int)) (z := z) (by rw [e]; exact List.mem_cons_self ..)
      have := vn_parI hv hj
      omega
  have := (leavesTo_mem ns ((ns.length - 1 : Nat) : Int) ns.length).2 ⟨ns.length - 1, rfl, by omega, hz⟩
  cases e : leavesTo ns ns.length with
  | nil => rw [e] at this; cases this
  | cons z t => simp
/-- paths -/
theorem path_last {ns : List Nd} (hv : vnB ns = true) {k : Nat} (hk : k < ns.length) : 0 < (pathF ns (k : Int)).length ∧ (pathF ns (k : Int)).getD ((pathF ns (k : Int)).length - 1) 0 = (k : Int) := by
  rw [pathTo_step hv hk, List.length_append]
  refine ⟨by show 0 < _ + 1; omega, ?_⟩
  show (_ ++ [(k : Int)]).getD (_ + 1 - 1) 0 = _
  rw [Nat.add_sub_cancel, app_r]
theorem path_first {ns : List Nd} (hv : vnB ns = true) : ∀ k : Nat, k < ns.length → (pathF ns (k : Int)).getD 0 0 = 0 := by
  intro k
  induction k using Nat.strongRecOn with
  | ind k ih =>
    intro hk
    rw [pathTo_step hv hk]
    by_cases h0 : k = 0
    · subst h0
      rw [vn_par0 hv, pathF_neg ns (by omega)]; rfl
    · obtain ⟨p0, p1⟩ := vn_par hv hk (by omega)
      obtain ⟨m, hm⟩ : ∃ m : Nat, (ns.getD k nd0).1 = (m : Int) := ⟨(ns.getD k nd0).1.toNat, by omega⟩
      have hmk : m < k := by omega
      rw [hm, app_l (path_last hv (k := m) (by omega)).1]
      exact ih m hmk (by omega)
theorem path_next {ns : List Nd} (hv : vnB ns = true) : ∀ k : Nat, k < ns.length → ∀ i, i + 1 < (pathF ns (k : Int)).length → ∃ m p : Nat, (pathF ns (k : Int)).getD (i + 1) 0 = (m : Int) ∧ (pathF ns (k : Int)).getD i 0 = (p : Int) ∧ m < ns.length ∧ p < ns.length ∧ (ns.getD m nd0).1 = (p : Int) := by
  intro k
  induction k using Nat.strongRecOn with
  | ind k ih =>
    intro hk i hi
    rw [pathTo_step hv hk] at hi ⊢
    by_cases h0 : k = 0
    · subst h0
      rw [vn_par0 hv, pathF_neg ns (by omega)] at hi
      have : i + 1 < 1 := hi
      omega
    · obtain ⟨p0, p1⟩ := vn_par hv hk (by omega)
      obtain ⟨m, hm⟩ : ∃ m : Nat, (ns.getD k nd0).1 = (m : Int) := ⟨(ns.getD k nd0).1.toNat, by omega⟩
      have hmk : m < k := by omega
      obtain ⟨l0, l1⟩ := path_last hv (k := m) (by omega)
      have ihm := ih m hmk (by omega)
      rw [hm] at hi ⊢
      rw [List.length_append] at hi
      have hi' : i + 1 < (pathF ns (m : Int)).length + 1 := hi
      by_cases e : i + 1 < (pathF ns (m : Int)).length
      · rw [app_l e, app_l (by omega)]; exact ihm i e
      · have e2 : i + 1 = (pathF ns (m : Int)).length := by omega
        rw [e2, app_r, app_l (by omega), show i = (pathF ns (m : Int)).length - 1 from by omega, l1]
        exact ⟨k, m, rfl, rfl, hk, by omega, hm⟩
theorem delay_step {ns : List Nd} (hv : vnB ns = true) {k : Nat} (hk : k < ns.length) : delayF ns (k : Int) = delayF ns (ns.getD k nd0).1 + (ns.getD k nd0).2.2.2.2 := by
  unfold delayF
  rw [pathTo_step hv hk, dlySum_append]
  show _ + (dly ns (k : Int) + 0) = _
  have : dly ns (k : Int) = (ns.getD k nd0).2.2.2.2 := rfl
  rw [this]; omega
end XNodQ
section XNodR
set_option linter.unusedVariables false

/-- the sum of some numbers at places -/
def atSum (c : List Int) : List Int → Int
  | [] => 0
  | z :: t => c.getD z.toNat 0 + atSum c t
theorem atSum_append (c a b : List Int) : atSum c (a ++ b) = atSum c a + atSum c b := by
  induction a with
  | nil => show atSum c b = 0 + atSum c b; omega
  | cons h t ih => show c.getD h.toNat 0 + atSum c (t ++ b) = c.getD h.toNat 0 + atSum c t + _; rw [ih]; omega
theorem atSum_got (ns : List Nd) (fl : Int) (k : Int) : atSum (comeF ns fl) (kidsF ns k) = (gotL ns fl k).sum := by
  unfold gotL
  induction kidsF ns k with
  | nil => rfl
  | cons h t ih => rw [List.map_cons, List.sum_cons, ← ih]; rfl
/-- what comes to the kids of the first k nodes, of the first m nodes -/
def gotT (ns : List Nd) (c : List Int) (m : Nat) : Nat → Int
  | 0 => 0
  | k + 1 => gotT ns c m k + atSum c (kidsTo ns (k : Int) m)
theorem gotT_succ (ns : List Nd) (c : List Int) (m k : Nat) : gotT ns c m (k + 1) = gotT ns c m k + atSum c (kidsTo ns (k : Int) m) := rfl
theorem gotT_more (ns : List Nd) (c : List Int) (m : Nat) : ∀ k : Nat, gotT ns c (m + 1) k = gotT ns c m k + if 0 ≤ (ns.getD m nd0).1 ∧ (ns.getD m nd0).1 < (k : Int) then c.getD m 0 else 0 := by
  intro k
  induction k with
  | zero => show (0 : Int) = 0 + _; rw [if_neg (by omega)]; rfl
  | succ k ih =>
    rw [gotT_succ, gotT_succ, ih]
    by_cases e : (ns.getD m nd0).1 = (k : Int)
    · rw [kidsTo_yes e, atSum_append, if_neg (by omega), if_pos (by omega)]
      show _ + (_ + (c.getD ((m : Int)).toNat 0 + 0)) = _
      rw [show ((m : Int)).toNat = m from by omega]; omega
    · rw [kidsTo_no e]
      by_cases h : 0 ≤ (ns.getD m nd0).1 ∧ (ns.getD m nd0).1 < (k : Int)
      · rw [if_pos h, if_pos (by omega)]; omega
      · rw [if_neg h, if_neg (by omega)]; omega
theorem gotT_zero (ns : List Nd) (c : List Int) : ∀ k : Nat, gotT ns c 0 k = 0 := by
  intro k
  induction k with
  | zero => rfl
  | succ k ih => rw [gotT_succ, ih]; rfl
/-- the sum of the first k numbers -/
def sumTo (c : List Int) : Nat → Int
  | 0 => 0
  | k + 1 => sumTo c k + c.getD k 0
theorem sumTo_succ (c : List Int) (k : Nat) : sumTo c (k + 1) = sumTo c k + c.getD k 0 := rfl
theorem got_all {ns : List Nd} (hv : vnB ns = true) (c : List Int) : ∀ m : Nat, m < ns.length → gotT ns c (m + 1) ns.length = sumTo c (m + 1) - c.getD 0 0 := by
  intro m
  induction m with
  | zero =>
    intro h
    rw [gotT_more, gotT_zero, vn_par0 hv, if_neg (by omega)]
    show (0 : Int) + 0 = 0 + c.getD 0 0 - c.getD 0 0; omega
  | succ m ih =>
    intro h
    have p := vn_par hv h (by omega)
    rw [gotT_more, ih (by omega), if_pos (by omega), sumTo_succ c (m + 1)]; omega
theorem lost_leaves {ns : List Nd} (hv : vnB ns = true) {fl : Int} (hf : 0 ≤ fl ∧ fl ≤ 500) : ∀ k : Nat, k ≤ ns.length → lostTo ns fl k + atSum (passF ns fl) (leavesTo ns k) = sumTo (comeF ns fl) k - gotT ns (comeF ns fl) ns.length k := by
  intro k
  induction k with
  | zero => intro _; rfl
  | succ k ih =>
    intro hk
    have a := ih (by omega)
    rw [lostTo_succ, loss_got hv hf (by omega), sumTo_succ, gotT_succ]
    have hg : atSum (comeF ns fl) (kidsTo ns (k : Int) ns.length) = (gotL ns fl (k : Int)).sum := atSum_got ns fl (k : Int)
    rw [hg]
    by_cases hz : (kidsF ns (k : Int)).length = 0
    · have h0 : (gotL ns fl (k : Int)).sum = 0 := by
        have : gotL ns fl (k : Int) = [] := List.eq_nil_of_length_eq_zero (by rw [gotL_len]; exact hz)
        rw [this]; rfl
      rw [if_pos hz, leavesTo_yes hz, atSum_append, h0]
      show _ + (atSum (passF ns fl) (leavesTo ns k) + ((passF ns fl).getD ((k : Int)).toNat 0 + 0)) = _
      rw [show ((k : Int)).toNat = k from by omega]; omega
    · rw [if_neg hz, leavesTo_no hz]; omega
/-- P57 -/
theorem lost_all {ns : List Nd} (hv : vnB ns = true) {fl : Int} (hf : 0 ≤ fl ∧ fl ≤ 500) : lostTo ns fl ns.length + atSum (passF ns fl) (leavesTo ns ns.length) = fl := by
  obtain ⟨l1, _, _⟩ := vn_is hv
  have a := lost_leaves hv hf ns.length (Nat.le_refl _)
  have b := got_all hv (comeF ns fl) (ns.length - 1) (by omega)
  rw [show ns.length - 1 + 1 = ns.length from by omega, come_spring hv] at b
  omega
theorem atSum_take (c ls : List Int) (k : Nat) (h : k < ls.length) : atSum c (ls.take (k + 1)) = atSum c (ls.take k) + c.getD (ls.getD k 0).toNat 0 := by
  rw [take_snocD ls h 0, atSum_append]
  show _ + (_ + 0) = _; omega
theorem atSum_bd {c : List Int} (hc : ∀ i, 0 ≤ c.getD i 0 ∧ c.getD i 0 ≤ 500) : ∀ ls : List Int, 0 ≤ atSum c ls ∧ atSum c ls ≤ 500 * (ls.length : Int) := by
  intro ls
  induction ls with
  | nil => exact ⟨Int.le_refl _, by show (0 : Int) ≤ 500 * ((0 : Nat) : Int); omega⟩
  | cons z t ih =>
    have a := hc z.toNat
    show 0 ≤ c.getD z.toNat 0 + atSum c t ∧ c.getD z.toNat 0 + atSum c t ≤ 500 * ((t.length + 1 : Nat) : Int)
    omega
theorem passF_all {ns : List Nd} (hv : vnB ns = true) {fl : Int} (hf : 0 ≤ fl ∧ fl ≤ 500) (i : Nat) : 0 ≤ (passF ns fl).getD i 0 ∧ (passF ns fl).getD i 0 ≤ 500 := by
  by_cases h : i < ns.length
  · have := passF_bd hv hf h; omega
  · rw [List.getD_eq_getElem?_getD, List.getElem?_eq_none (by rw [passF_len]; omega)]
    exact ⟨Int.le_refl _, by show (0 : Int) ≤ 500; omega⟩
/-- what a least flow is -/
theorem needF_is {ns : List Nd} {k : Nat} {am : Int} : ∀ (m x : Nat), (∃ y : Nat, needF ns k am m x = (y : Int) ∧ x ≤ y ∧ y < x + m ∧ am ≤ (passF ns (y : Int)).getD k 0 ∧ ∀ j : Nat, x ≤ j → j < y → (passF ns (j : Int)).getD k 0 < am) ∨ (needF ns k am m x = -1 ∧ ∀ j : Nat, x ≤ j → j < x + m → (passF ns (j : Int)).getD k 0 < am) := by
  intro m
  induction m with
  | zero => intro x; exact .inr ⟨rfl, fun j h1 h2 => by omega⟩
  | succ m ih =>
    intro x
    by_cases h : am ≤ (passF ns (x : Int)).getD k 0
    · exact .inl ⟨x, if_pos h, Nat.le_refl _, by omega, h, fun j h1 h2 => by omega⟩
    · have e : needF ns k am (m + 1) x = needF ns k am m (x + 1) := if_neg h
      rw [e]
      rcases ih (x + 1) with ⟨y, a, b, c, d, f⟩ | ⟨a, b⟩
      · refine .inl ⟨y, a, by omega, by omega, d, fun j h1 h2 => ?_⟩
        by_cases c : j = x
        · subst c; omega
        · exact f j (by omega) h2
      · refine .inr ⟨a, fun j h1 h2 => ?_⟩
        by_cases c : j = x
        · subst c; omega
        · exact b j (by omega) (by omega)
theorem need_pos {ns : List Nd} {at_ am : Int} (h : ¬ needV ns at_ am < 0) : ∃ k r : Nat, at_ = (k : Int) ∧ needV ns at_ am = (r : Int) ∧ k < ns.length ∧ r ≤ 500 ∧ vnB ns = true ∧ am ≤ (passF ns (r : Int)).getD k 0 ∧ (∀ j : Nat, j < r → (passF ns (j : Int)).getD k 0 < am) ∧ am ≤ (passF ns 500).getD k 0 := by
  have hb : (vnB ns && inN ns.length at_) = true := by
    cases c : (vnB ns && inN ns.length at_) with
    | true => rfl
    | false => exact absurd (by unfold needV; rw [c]; show (-1 : Int) < 0; omega) h
  rw [Bool.and_eq_true] at hb
  obtain ⟨k, rfl, hk⟩ := inN_yes hb.2
  rw [need_yes hb.1 hk] at h ⊢
  rcases needF_is (ns := ns) (k := k) (am := am) 501 0 with ⟨y, a, b, c, d, e⟩ | ⟨a, b⟩
  · have := passF_le hb.1 (x := (y : Int)) (y := 500) (by omega) (by omega) (by omega) hk
    exact ⟨k, y, rfl, a, hk, by omega, hb.1, d, fun j hj => e j (by omega) hj, by omega⟩
  · rw [a] at h; omega
theorem need_iff {ns : List Nd} {k : Nat} {am : Int} (hv : vnB ns = true) (hk : k < ns.length) : (needV ns (k : Int) am < 0) ↔ (passF ns 500).getD k 0 < am := by
  constructor
  · intro h
    rw [need_yes hv hk] at h
    rcases needF_is (ns := ns) (k := k) (am := am) 501 0 with ⟨y, a, _⟩ | ⟨a, b⟩
    · rw [a] at h; omega
    · exact b 500 (by omega) (by omega)
  · intro h
    by_cases c : needV ns (k : Int) am < 0
    · exact c
    · obtain ⟨k', r, e, _, _, _, _, _, _, h2⟩ := need_pos c
      have : k' = k := by omega
      rw [this] at h2; omega
end XNodR
section XNodW
set_option linter.unusedVariables false

theorem flatNd_still : ∀ (ns : List Nd) (k : Nat) (x : Int), k < ns.length → (flatNd ns).set (k * 5 + 4) x = flatNd (ns.set k ((ns.getD k nd0).1, (ns.getD k nd0).2.1, (ns.getD k nd0).2.2.1, (ns.getD k nd0).2.2.2.1, x)) := by
  intro ns
  induction ns with
  | nil => intro k x h; simp at h
  | cons h t ih =>
    intro k x hk
    cases k with
    | zero => rfl
    | succ k =>
      have := ih k x (by simpa using hk)
      rw [show (k + 1) * 5 + 4 = k * 5 + 4 + 1 + 1 + 1 + 1 + 1 from by omega]
      show h.1 :: h.2.1 :: h.2.2.1 :: h.2.2.2.1 :: h.2.2.2.2 :: ((flatNd t).set (k * 5 + 4) x) = _
      rw [this]; rfl
theorem getD_setN {zs : List Nd} {i : Nat} (j : Nat) (z : Nd) (hi : i < zs.length) : (zs.set i z).getD j nd0 = if j = i then z else zs.getD j nd0 := by
  rw [List.getD_eq_getElem?_getD, List.getD_eq_getElem?_getD, List.getElem?_set]
  by_cases e : i = j
  · subst e; rw [if_pos rfl, if_pos hi, if_pos rfl]; rfl
  · rw [if_neg e, if_neg (fun c => e c.symm)]
def stl (x : Nd) : Nd := (x.1, x.2.1, x.2.2.1, x.2.2.2.1, 0)
def stT (ns : List Nd) : Nat → List Nd
  | 0 => ns
  | k + 1 => (stT ns k).set k (stl ((stT ns k).getD k nd0))
theorem stT_len (ns : List Nd) : ∀ k, (stT ns k).length = ns.length := by
  intro k
  induction k with
  | zero => rfl
  | succ k ih => show ((stT ns k).set k _).length = _; rw [List.length_set, ih]
theorem stT_get (ns : List Nd) : ∀ k, k ≤ ns.length → ∀ j, (stT ns k).getD j nd0 = if j < k then stl (ns.getD j nd0) else ns.getD j nd0 := by
  intro k
  induction k with
  | zero => intro _ j; rw [if_neg (by omega)]; rfl
  | succ k ih =>
    intro hk j
    show ((stT ns k).set k _).getD j nd0 = _
    rw [getD_setN j _ (by rw [stT_len]; omega), ih (by omega) k, ih (by omega) j, if_neg (Nat.lt_irrefl k)]
    by_cases e : j = k
    · subst e; rw [if_pos rfl, if_pos (by omega)]
    · rw [if_neg e]
      by_cases c : j < k
      · rw [if_pos c, if_pos (by omega)]
      · rw [if_neg c, if_neg (by omega)]
theorem still_vn {ns : List Nd} (h : vnB ns = true) : vnB (stT ns ns.length) = true := by
  obtain ⟨a, b, c⟩ := vn_is h
  refine vn_yes (by rw [stT_len]; exact a) (by rw [stT_len]; exact b) (fun j hj => ?_)
  rw [stT_len] at hj
  have hc := c j hj
  unfold okN at hc ⊢
  rw [stT_get ns _ (Nat.le_refl _) j, if_pos hj]
  rw [Bool.and_eq_true] at hc ⊢
  refine ⟨hc.1, ?_⟩
  have := (mB_iff _).1 hc.2
  exact (mB_iff _).2 ⟨this.1, this.2.1, this.2.2.1, by show (0 : Int) ≤ 0 ∧ (0 : Int) ≤ 20; omega⟩
theorem dly_zero {ns : List Nd} : ∀ l : List Int, (∀ z ∈ l, dly ns z = 0) → dlySum ns l = 0 := by
  intro l
  induction l with
  | nil => intro _; rfl
  | cons z t ih =>
    intro h
    show dly ns z + dlySum ns t = 0
    rw [h z (by simp), ih (fun y hy => h y (by simp [hy]))]; rfl
theorem still_delay {ns : List Nd} (h : vnB ns = true) {k : Nat} (hk : k < ns.length) : delayF (stT ns ns.length) (k : Int) = 0 := by
  unfold delayF
  refine dly_zero _ (fun z hz => ?_)
  unfold pathF at hz
  obtain ⟨j, rfl, hj⟩ := pathTo_mem (still_vn h) _ _ (by rw [stT_len]; omega) z hz
  rw [stT_len] at hj
  unfold dly
  rw [show ((j : Int)).toNat = j from by omega, stT_get ns _ (Nat.le_refl _) j, if_pos hj]; rfl
def colT (f : Nat → Int) : Nat → Int
  | 0 => 0
  | k + 1 => colT f k + f k
theorem sum_range (f : Nat → Int) : ∀ n, ((List.range n).map f).sum = colT f n := by
  intro n
  induction n with
  | zero => rfl
  | succ n ih =>
    rw [List.range_succ, List.map_append, List.sum_append, ih]
    show _ + (f n + 0) = _
    rw [Int.add_zero]; rfl
theorem colT_add (f g : Nat → Int) : ∀ n, colT (fun q => f q + g q) n = colT f n + colT g n := by
  intro n
  induction n with
  | zero => rfl
  | succ n ih =>
    show colT (fun q => f q + g q) n + (f n + g n) = colT f n + f n + (colT g n + g n)
    rw [ih]; omega
theorem colT_zero : ∀ n, colT (fun _ => 0) n = 0 := by
  intro n
  induction n with
  | zero => rfl
  | succ n ih => show colT (fun _ => 0) n + 0 = 0; rw [ih]; rfl
theorem colT_bd {f : Nat → Int} {B : Int} : ∀ n, (∀ q, q < n → 0 ≤ f q ∧ f q ≤ B) → 0 ≤ colT f n ∧ colT f n ≤ B * (n : Int) := by
  intro n
  induction n with
  | zero => intro _; exact ⟨Int.le_refl _, by show (0 : Int) ≤ B * ((0 : Nat) : Int); simp⟩
  | succ n ih =>
    intro h
    have a := ih (fun q hq => h q (by omega))
    have b := h n (by omega)
    show 0 ≤ colT f n + f n ∧ colT f n + f n ≤ B * ((n + 1 : Nat) : Int)
    rw [show B * ((n + 1 : Nat) : Int) = B * (n : Int) + B from by rw [Int.natCast_add, Int.mul_add]; simp]
    omega
def lT (ns : List Nd) (fs : List Int) : List Int → Int
  | [] => 0
  | z :: t => (arrF ns z.toNat fs).sum + lT ns fs t
theorem lT_append (ns : List Nd) (fs a b : List Int) : lT ns fs (a ++ b) = lT ns fs a + lT ns fs b := by
  induction a with
  | nil => show lT ns fs b = 0 + lT ns fs b; omega
  | cons z t ih => show (arrF ns z.toNat fs).sum + lT ns fs (t ++ b) = (arrF ns z.toNat fs).sum + lT ns fs t + lT ns fs b; rw [ih]; omega
theorem arr_sum {ns : List Nd} {fs : List Int} {k : Nat} (hd : delayF ns (k : Int) = 0) : (arrF ns k fs).sum = colT (fun q => (passF ns (fs.getD q 0)).getD k 0) fs.length := by
  unfold arrF
  rw [sum_range]
  congr 1
  funext q
  unfold arrAt
  rw [hd, if_neg (by omega)]
  rfl
def hT (ns : List Nd) (fs ls : List Int) (n : Nat) : Int := colT (fun q => atSum (passF ns (fs.getD q 0)) ls) n
theorem hT_all {ns : List Nd} {fs : List Int} : ∀ ls : List Int, (∀ z ∈ ls, delayF ns ((z.toNat : Nat) : Int) = 0) → hT ns fs ls fs.length = lT ns fs ls := by
  intro ls
  induction ls with
  | nil => intro _; exact colT_zero _
  | cons z t ih =>
    intro h
    show colT (fun q => (passF ns (fs.getD q 0)).getD z.toNat 0 + atSum (passF ns (fs.getD q 0)) t) fs.length = (arrF ns z.toNat fs).sum + lT ns fs t
    rw [colT_add, arr_sum (h z (by simp)), ← ih (fun y hy => h y (by simp [hy]))]; rfl
/-- what the law reckons with a channel without delays -/
theorem still_sum {ns : List Nd} (hv : vnB ns = true) {fs : List Int} (hf : allB fs 500 = true) (hf2 : fs.length ≤ 200) {ys : List Nd} (hy : ys = stT ns ns.length) :
    ∃ H T : Nat → Int, H 0 = 0 ∧ T 0 = 0 ∧ (∀ q, q < fs.length → H (q + 1) = H q + (fs.getD q 0 - lostTo ys (fs.getD q 0) ys.length)) ∧ (∀ q, q ≤ fs.length → 0 ≤ H q ∧ H q ≤ 6000 * (q : Int)) ∧
      (∀ m, m < (leavesTo ys ys.length).length → ∃ j : Nat, (leavesTo ys ys.length).getD m 0 = (j : Int) ∧ j < ys.length ∧ T (m + 1) = T m + (arrF ys j fs).sum ∧ ∀ z ∈ arrF ys j fs, 0 ≤ z ∧ z ≤ 500) ∧
      (∀ m, m ≤ (leavesTo ys ys.length).length → 0 ≤ T m ∧ T m ≤ 100000 * (m : Int)) ∧ T (leavesTo ys ys.length).length = H fs.length ∧ (leavesTo ys ys.length).length ≤ 12 := by
  have hvy : vnB ys = true := by rw [hy]; exact still_vn hv
  have hl : ys.length = ns.length := by rw [hy]; exact stT_len _ _
  have hfb : ∀ q, q < fs.length → 0 ≤ fs.getD q 0 ∧ fs.getD q 0 ≤ 500 := fun q hq => (allB_iff fs 500).1 hf _ (getD_mem hq)
  have hd : ∀ k, k < ys.length → delayF ys (k : Int) = 0 := fun k hk => by rw [hy]; exact still_delay hv (by omega)
  have hll := leavesTo_len ys ys.length
  obtain ⟨_, l12, _⟩ := vn_is hvy
  have hlm : ∀ m, m < (leavesTo ys ys.length).length → ∃ j : Nat, (leavesTo ys ys.length).getD m 0 = (j : Int) ∧ j < ys.length := fun m hm => by
    obtain ⟨j, a, b, _⟩ := (leavesTo_mem ys _ ys.length).1 (getD_mem hm); exact ⟨j, a, b⟩
  have har : ∀ j, j < ys.length → ∀ q, q < fs.length → 0 ≤ (passF ys (fs.getD q 0)).getD j 0 ∧ (passF ys (fs.getD q 0)).getD j 0 ≤ 500 := fun j hj q hq => passF_all hvy (hfb q hq) j
  have hcol : ∀ j, j < ys.length → 0 ≤ (arrF ys j fs).sum ∧ (arrF ys j fs).sum ≤ 500 * (fs.length : Int) := fun j hj => by
    rw [arr_sum (hd j hj)]; exact colT_bd _ (har j hj)
  have htake : ∀ m, m < (leavesTo ys ys.length).length → ∀ j : Nat, (leavesTo ys ys.length).getD m 0 = (j : Int) → lT ys fs ((leavesTo ys ys.length).take (m + 1)) = lT ys fs ((leavesTo ys ys.length).take m) + (arrF ys j fs).sum := fun m hm j hj => by
    rw [take_snocD _ hm 0, lT_append, hj]
    show _ + ((arrF ys ((j : Int)).toNat fs).sum + 0) = _
    rw [Int.add_zero, show ((j : Int)).toNat = j from by omega]
  refine ⟨hT ys fs (leavesTo ys ys.length), fun m => lT ys fs ((leavesTo ys ys.length).take m), rfl, rfl, fun q hq => ?_, fun q hq => ?_, fun m hm => ?_, fun m => ?_, ?_, by omega⟩
  · have := lost_all hvy (hfb q hq)
    show hT ys fs _ q + atSum (passF ys (fs.getD q 0)) (leavesTo ys ys.length) = _
    omega
  · refine colT_bd q (fun r hr => ?_)
    have := atSum_bd (passF_all hvy (hfb r (by omega))) (leavesTo ys ys.length)
    omega
  · obtain ⟨j, a, b⟩ := hlm m hm
    refine ⟨j, a, b, htake m hm j a, fun z hz => ?_⟩
    unfold arrF at hz
    obtain ⟨q, hq, rfl⟩ := List.mem_map.1 hz
    have hq := List.mem_range.1 hq
    unfold arrAt
    rw [hd j b, if_neg (by omega)]
    exact har j b q hq
  · show m ≤ _ → 0 ≤ lT ys fs ((leavesTo ys ys.length).take m) ∧ lT ys fs ((leavesTo ys ys.length).take m) ≤ _
    induction m with
    | zero => intro _; exact ⟨Int.le_refl _, by show (0 : Int) ≤ 100000 * ((0 : Nat) : Int); omega⟩
    | succ m ih =>
      intro hm
      have a := ih (by omega)
      obtain ⟨j, e, hj⟩ := hlm m (by omega)
      have b := hcol j hj
      rw [htake m (by omega) j e]
      omega
  · show lT ys fs ((leavesTo ys ys.length).take (leavesTo ys ys.length).length) = _
    rw [List.take_of_length_le (Nat.le_refl _)]
    refine (hT_all _ (fun z hz => ?_)).symm
    obtain ⟨j, a, b, _⟩ := (leavesTo_mem ys z ys.length).1 hz
    rw [a, show ((j : Int)).toNat = j from by omega]; exact hd j b
end XNodW
end Go.Proofs.Ytlpmeljneogpiab
