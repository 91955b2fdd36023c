/- Paths to a node and their delays, by the program and by the model. Condition: at most 1048576 nodes. -/
import Derived.Test.YtlpmeljneogpiabNodK
namespace Go.Proofs.Ytlpmeljneogpiab
open Go.RowKit
set_option linter.unusedSimpArgs false
set_option linter.unusedVariables false
set_option maxHeartbeats 4000000 in
/-- impl.PathTo -/
theorem iPath (a : Option Addr) (cap : Nat) (ns : List Nd) (at_ : Int) (w : World) (h : IsNd w a ns) (hn : ns.length ≤ 1048576) (hcap : ns.length ≤ cap) :
    Calls Try.prog 58 #[.slice a ns.length cap, .int .i64 at_] w (OutI w (pathV ns at_)) := by
  have VN := iVN a cap ns _ h hn hcap
  have CI := fun W => iisNode a ns.length cap at_ W hn
  skip
  skip
  cases hv : vnB ns with
  | false =>
    rw [path_no (.inl hv)]
    rw [hv] at VN
    clear hv h
    go_enter Try.func58, Try.ntmps58
    go_wp2_with fail
    refine VN.mono ?_
    rintro e w1 ⟨rfl, C⟩
    go_wp2_with fail
    go_ret
    exact outI_nil C
  | true =>
  rw [hv] at VN
  cases hi : inN ns.length at_ with
  | false =>
    rw [path_no (.inr hi)]
    rw [hi] at CI
    clear hv hi h
    go_enter Try.func58, Try.ntmps58
    go_wp2_with fail
    refine VN.mono ?_
    rintro e w1 ⟨rfl, C⟩
    go_wp2_with fail
    refine (CI _).mono ?_
    rintro e w' ⟨rfl, rfl⟩
    go_wp2_with fail
    go_ret
    exact outI_nil C
  | true =>
    rw [hi] at CI
    rw [path_yes hv hi]
    obtain ⟨k0, rfl, hk0⟩ := inN_yes hi
    obtain ⟨i0, hi0, hz0, hz1, hz2⟩ := info_parts infoInt
    obtain ⟨l1, l12, _⟩ := vn_is hv
    have HH := Lib.hid h
    rcases h with rfl | ⟨g, o, rfl, hc⟩
    · simp at l1
    have HC := Lib.hid hc
    have HV := Lib.hid hv
    clear hi hc hv
    go_enter Try.func58, Try.ntmps58
    go_wp2_with fail
    refine VN.mono ?_
    rintro e w1 ⟨rfl, C⟩
    go_wp2_with fail
    refine (CI _).mono ?_
    rintro e w' ⟨rfl, rfl⟩
    clear VN CI
    go_wp2_with fail
    go_loopw [5, 6] (fun v i wr => ∃ (j : Int) (acc : List Int), i = .int .i64 j ∧ -1 ≤ j ∧ j < (ns.length : Int) ∧ (acc.length : Int) + j ≤ (ns.length : Int) ∧ Hid (pathF ns j ++ acc = pathF ns (k0 : Int)) ∧ OwnI wr w.heap.size v acc ∧ Below w.heap.size w wr) (fun _ i _ => (intOf i + 1).toNat)
    case atStart => exact ⟨_, [], rfl, by omega, by omega, by simp; omega, by show _ ++ [] = _; rw [List.append_nil], OwnI.new C, C.alloc C.size _⟩
    case round =>
      clear C
      obtain ⟨j, acc, rfl, j0, j1, jl, HP, hO, hB⟩ := hrel
      have hsz := hB.size
      by_cases hj : j = -1
      · subst hj
        have HR : Hid (acc = pathF ns (k0 : Int)) := by have := HP.out; rw [pathF_neg ns (by omega), List.nil_append] at this; exact this
        have HO := Lib.hid hO
        have HB := Lib.hid hB
        clear hO hB HP
        go_wp2_with fail
        go_ret
        exact ⟨_, rfl, by rw [← HR.out]; exact HO.out, HB.out⟩
      · obtain ⟨m, rfl⟩ : ∃ m : Nat, j = (m : Int) := ⟨j.toNat, by omega⟩
        have hm : m < ns.length := by omega
        have HS := Lib.hid (pathTo_step HV.out hm)
        have hpar := vn_parI HV.out hm
        have hcc : ∀ W, Below w.heap.size w W → W.cell? ⟨g, o + m * 5, none⟩ = some (.int .i64 (ns.getD m nd0).1) := fun W hW => (nd_at HC.out hW hm).1
        generalize (ns.getD m nd0).1 = p at HS hpar hcc
        have HCC := Lib.hid hcc
        have HB := Lib.hid hB
        have b0 : (0 : Int) ≤ (m : Int) := by omega
        have b1 : (m : Int) < (ns.length : Int) := by omega
        have e1 : ¬ (m : Int) = -1 := by omega
        obtain ⟨sa, sc, rfl, _⟩ := OwnI.ints hO
        have hrd := (Reads.of_own hO).alloc (Nat.le_refl _) (.cells #[.int .i64 (m : Int)] 3)
        have hone := OwnI.one hB (m : Int)
        have hal : acc.length ≤ 1048576 := by omega
        have h1c : ∀ u ∈ acc.map (Value.int .i64), u.oneCell' = true := fun u hu => by obtain ⟨z, _, rfl⟩ := List.mem_map.1 hu; rfl
        have HBG : Hid (∀ W, (wr.alloc (.cells #[.int .i64 (m : Int)] 3)).grownBy W (some wr.heap.size) → Below w.heap.size w W) := fun W hg => (hB.alloc hsz _).grown hg (by simp; omega) (fun q hq => by have e : wr.heap.size = q := Option.some.inj hq; omega)
        clear hj hB hcc hO
        go_wp2_with (first | (at_builtin; refine wpList_append_any _ rfl (.tmp 26) (.tmp 27) _ rfl w.heap.size 3 i0 _ 1 8 Try.underlying27 hi0 hz0 hz1 hz2 rfl (by omega) _ 1 [.int .i64 (m : Int)] rfl hone wr.heap.size sa acc.length sc (acc.map (Value.int .i64)) rfl hrd h1c (by unfold maxLen; omega) (by omega) (by simp; omega) ?_; intro v3 w3 hown3 hgrow3 hat3; have hB3 := HBG.out w3 hgrow3; have hcell := HCC.out w3 hB3; clear hrd hone h1c hgrow3 hat3; replace hown3 := Lib.hid (OwnI.cons hown3); replace hB3 := Lib.hid hB3))
        go_roundw
        case rel => exact ⟨p, (m : Int) :: acc, rfl, hpar.1, by omega, by rw [List.length_cons]; omega, by have := HP.out; rw [HS.out, List.append_assoc] at this; exact this, hown3.out, hB3.out⟩
        case measure => simp [intOf]; omega
set_option maxHeartbeats 4000000 in
/-- impl.DelayTo -/
theorem iDelay (a : Option Addr) (cap : Nat) (ns : List Nd) (at_ : Int) (w : World) (h : IsNd w a ns) (hn : ns.length ≤ 1048576) (hcap : ns.length ≤ cap) :
    Calls Try.prog 27 #[.slice a ns.length cap, .int .i64 at_] w fun e w' => e = .returned (.int .i64 (delayV ns at_)) ∧ Below w.heap.size w w' := by
  have PT := iPath a cap ns at_ w h hn hcap
  by_cases hb : (vnB ns && inN ns.length at_) = true
  rotate_left
  · have hb' : vnB ns = false ∨ inN ns.length at_ = false := by
      cases h1 : vnB ns
      · exact .inl rfl
      · rw [h1] at hb; exact .inr (by simpa using hb)
    rw [path_no hb'] at PT
    rw [delay_no hb']
    clear hb hb' h
    go_enter Try.func27, Try.ntmps27
    go_wp2_with fail
    refine PT.mono ?_
    rintro e w1 ⟨v, rfl, hO, hB⟩
    obtain ⟨b, c, rfl, _⟩ := hO.ints
    have HB := Lib.hid hB
    clear hO hB PT
    go_wp2_with fail
    go_ret
    exact ⟨rfl, HB.out⟩
  rw [Bool.and_eq_true] at hb
  rw [path_yes hb.1 hb.2] at PT
  rw [delay_yes hb.1 hb.2]
  obtain ⟨k0, rfl, hk0⟩ := inN_yes hb.2
  have hmem := pathTo_mem hb.1 ns.length (k0 : Int) (by omega)
  have hpl := pathTo_len ns ns.length (k0 : Int)
  have hl12 := (vn_is hb.1).2.1
  have hne : 0 < (pathF ns (k0 : Int)).length := by rw [pathTo_step hb.1 hk0, List.length_append]; show 0 < _ + 1; omega
  have hbd : ∀ k, k ≤ (pathF ns (k0 : Int)).length → 0 ≤ dlySum ns ((pathF ns (k0 : Int)).take k) ∧ dlySum ns ((pathF ns (k0 : Int)).take k) ≤ 20 * (k : Int) := fun k hk => by
    have := dlySum_bd hb.1 ((pathF ns (k0 : Int)).take k) (fun z hz => hmem z (List.mem_of_mem_take hz))
    rw [List.length_take, Nat.min_eq_left hk] at this
    exact this
  unfold delayF
  change ∀ z ∈ pathF ns (k0 : Int), _ at hmem
  change (pathF ns (k0 : Int)).length ≤ ns.length at hpl
  have hvb := hb.1
  rcases h with rfl | ⟨g, o, rfl, hc⟩
  · simp at hk0
  generalize pathF ns (k0 : Int) = ps at PT hmem hpl hne hbd
  have HM := Lib.hid hmem
  have HBD := Lib.hid hbd
  have HC := Lib.hid hc
  have HV := Lib.hid hvb
  clear hb hmem hbd hc hvb
  go_enter Try.func27, Try.ntmps27
  go_wp2_with fail
  refine PT.mono ?_
  rintro e w1 ⟨v, rfl, hO, hB⟩
  obtain ⟨b, c, rfl, hI⟩ := hO.ints
  rcases hI with rfl | ⟨gp, op, rfl, hcp⟩
  · simp at hne
  have HCP := Lib.hid hcp
  have z0 : ((ps.length : Int) == 0) = false := beq_eq_false_iff_ne.2 (by omega)
  have z1 : (ps.length == 0) = false := beq_eq_false_iff_ne.2 (by omega)
  have z2 : ¬ (ps.length : Int) = 0 := by omega
  have z3 : ¬ ps.length = 0 := by omega
  have z4 : ¬ ps = [] := fun e => by rw [e] at hne; simp at hne
  have HB := Lib.hid hB
  clear hO hB PT hcp
  go_wp2_with fail
  clear z0 z1 z2 z3 z4
  go_loop [6, 17] (fun s i => ∃ k : Nat, k ≤ ps.length ∧ i = .int .i64 k ∧ s = .int .i64 (dlySum ns (ps.take k))) (fun _ i => ps.length - (intOf i).toNat)
  case atStart => exact ⟨0, Nat.zero_le _, rfl, rfl⟩
  case round =>
    obtain ⟨k, hk, rfl, rfl⟩ := hrel
    obtain ⟨s0, s1⟩ := HBD.out k hk
    by_cases hlt : k < ps.length
    · have hcz := HCP.out k hlt
      have ht : dlySum ns (ps.take (k + 1)) = dlySum ns (ps.take k) + dly ns (ps.getD k 0) := by rw [take_snocD ps hlt 0, dlySum_append]; show _ + (dly ns (ps.getD k 0) + 0) = _; omega
      obtain ⟨m, hm, hml⟩ := HM.out _ (getD_mem hlt)
      rw [hm] at hcz ht
      have hnd := (nd_at HC.out HB.out hml).2.2.2.2
      have hdb := (vn_at HV.out hml).2.2.2
      have hdl : dly ns (m : Int) = (ns.getD m nd0).2.2.2.2 := rfl
      rw [hdl] at ht
      generalize (ns.getD m nd0).2.2.2.2 = d at hnd hdb ht
      generalize dlySum ns (ps.take k) = s at s0 s1 ht
      have HT := Lib.hid ht
      have b0 : (0 : Int) ≤ (m : Int) := by omega
      have b1 : (m : Int) < (ns.length : Int) := by omega
      clear hm ht hdl
      go_wp2_with fail
      go_round
      case rel => exact ⟨k + 1, by omega, by go_num, by rw [HT.out]⟩
      case measure => simp [intOf]; omega
    · go_wp2_with fail
      go_ret
      exact ⟨ret_int (by rw [List.take_of_length_le (by omega)]), HB.out⟩
set_option maxHeartbeats 4000000 in
/-- spec.DelayTo -/
theorem sDelay (a : Option Addr) (cap : Nat) (ns : List Nd) (at_ : Int) (w : World) (h : IsNd w a ns) (hn : ns.length ≤ 1048576) :
    Calls Try.prog 57 #[.slice a ns.length cap, .int .i64 at_] w fun e w' => e = .returned (.int .i64 (delayV ns at_)) ∧ Below w.heap.size w w' := by
  have VN := svn a cap ns _ h hn
  have CI := fun W => sinRange at_ 0 ((ns.length : Int) - 1) W
  rw [inN_range] at CI
  have wn : IntKind.i64.wrap ((ns.length : Int) - 1) = (ns.length : Int) - 1 := by rw [IntKind.wrap_i64]; omega
  cases hv : vnB ns with
  | false =>
    rw [delay_no (.inl hv)]
    rw [hv] at VN
    clear hv h
    go_enter Try.func57, Try.ntmps57
    go_wp2_with fail
    refine VN.mono ?_
    rintro e w1 ⟨rfl, C⟩
    go_wp2_with fail
    go_ret
    exact ⟨rfl, C⟩
  | true =>
  rw [hv] at VN
  cases hi : inN ns.length at_ with
  | false =>
    rw [delay_no (.inr hi)]
    rw [hi] at CI
    clear hv hi h
    go_enter Try.func57, Try.ntmps57
    go_wp2_with fail
    refine VN.mono ?_
    rintro e w1 ⟨rfl, C⟩
    go_wp2_with fail
    refine (CI _).mono ?_
    rintro e w' ⟨rfl, rfl⟩
    go_wp2_with fail
    go_ret
    exact ⟨rfl, C⟩
  | true =>
    rw [hi] at CI
    rw [delay_yes hv hi]
    obtain ⟨k0, rfl, hk0⟩ := inN_yes hi
    obtain ⟨l1, l12, _⟩ := vn_is hv
    have HBD := Lib.hid (delay_bd hv hk0)
    rcases h with rfl | ⟨g, o, rfl, hc⟩
    · simp at l1
    have HC := Lib.hid hc
    have HV := Lib.hid hv
    clear hi hc hv
    go_enter Try.func57, Try.ntmps57
    go_wp2_with fail
    refine VN.mono ?_
    rintro e w1 ⟨rfl, C⟩
    go_wp2_with fail
    refine (CI _).mono ?_
    rintro e w' ⟨rfl, rfl⟩
    clear VN CI
    go_wp2_with fail
    have HCw := Lib.hid C
    clear C
    go_loop [5, 6] (fun s i => ∃ (j r : Int), i = .int .i64 j ∧ -1 ≤ j ∧ j < (ns.length : Int) ∧ s = .int .i64 r ∧ 0 ≤ r ∧ Hid (r + delayF ns j = delayF ns (k0 : Int))) (fun _ i => (intOf i + 1).toNat)
    case atStart => exact ⟨_, 0, rfl, by omega, by omega, rfl, by omega, by show 0 + _ = _; omega⟩
    case round =>
      obtain ⟨j, r, rfl, j0, j1, rfl, r0, HR⟩ := hrel
      by_cases hj : j = -1
      · subst hj
        have HE : Hid (r = delayF ns (k0 : Int)) := by
          have := HR.out
          have e : delayF ns (-1) = 0 := by unfold delayF; rw [pathF_neg ns (by omega)]; rfl
          rw [e] at this; show r = _; omega
        go_wp2_with fail
        go_ret
        exact ⟨ret_int HE.out, HCw.out⟩
      · obtain ⟨m, rfl⟩ : ∃ m : Nat, j = (m : Int) := ⟨j.toNat, by omega⟩
        have hm : m < ns.length := by omega
        obtain ⟨c0, _, _, _, c4⟩ := nd_at HC.out HCw.out hm
        have hpar := vn_parI HV.out hm
        have hdb := (vn_at HV.out hm).2.2.2
        have hst : delayF ns (m : Int) = delayF ns (ns.getD m nd0).1 + (ns.getD m nd0).2.2.2.2 := by
          unfold delayF
          rw [pathTo_step HV.out hm, dlySum_append]
          show _ + (dly ns (m : Int) + 0) = _
          have : dly ns (m : Int) = (ns.getD m nd0).2.2.2.2 := rfl
          rw [this]; omega
        have hrb : 0 ≤ delayF ns (ns.getD m nd0).1 := by
          unfold delayF
          exact (dlySum_bd HV.out _ (pathTo_mem HV.out ns.length _ (by omega))).1
        have hro := HR.out
        obtain ⟨q0, q1⟩ := HBD.out
        rw [hst] at hro
        generalize (ns.getD m nd0).1 = p at c0 hpar hst hrb hro
        generalize (ns.getD m nd0).2.2.2.2 = d at c4 hdb hst hro
        have rb : r + d ≤ 1000 := by omega
        have HRR : Hid (r + d + delayF ns p = delayF ns (k0 : Int)) := by show _ = _; omega
        have b0 : (0 : Int) ≤ (m : Int) := by omega
        have b1 : (m : Int) < (ns.length : Int) := by omega
        have r1 : r ≤ 1000 := by omega
        clear hj hst hro hrb q0 q1 HR
        go_wp2_with fail
        go_round
        case rel => exact ⟨p, r + d, rfl, hpar.1, by omega, by go_num, by omega, HRR.out⟩
        case measure => simp [intOf]; omega
end Go.Proofs.Ytlpmeljneogpiab
