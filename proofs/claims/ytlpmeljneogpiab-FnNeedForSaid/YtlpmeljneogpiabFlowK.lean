/- What passes the nodes, and shut gates, by the program. Condition: at most 1048576 nodes. -/
import Derived.Test.YtlpmeljneogpiabFlowJ
import Derived.Test.YtlpmeljneogpiabFlowQ
namespace Go.Proofs.Ytlpmeljneogpiab
open Go.RowKit
set_option linter.unusedSimpArgs false
set_option linter.unusedVariables false
set_option maxRecDepth 100000 in
set_option maxHeartbeats 8000000 in
/-- impl.PassedOf -/
theorem iPassed (a : Option Addr) (cap : Nat) (ns : List Nd) (fl : Int) (w : World) (h : IsNd w a ns) (hn : ns.length ≤ 1048576) (hcap : ns.length ≤ cap) :
    Calls Try.prog 15 #[.slice a ns.length cap, .int .i64 fl] w (OutI w (passedV ns fl)) := by
  have CF := icanFlow a cap ns fl w h hn hcap
  cases hb : flB ns fl with
  | false =>
    rw [hb] at CF
    rw [passed_no hb]
    clear hb h
    go_enter Try.func15, Try.ntmps15
    go_wp2_with fail
    refine CF.mono ?_
    rintro e w1 ⟨rfl, C⟩
    go_wp2_with fail
    go_ret
    exact outI_nil C
  | true =>
  rw [hb] at CF
  rw [passed_yes hb]
  obtain ⟨hv, f0, f1⟩ := flB_is hb
  obtain ⟨l1, l12, _⟩ := vn_is hv
  have hmk := run_make_row' (P := Try.prog) 27 3 (.int .i64 0) 8 Try.underlying27 infoInt rfl .i64 .i64 ns.length (by omega) (by omega)
  have HH := Lib.hid h
  have HV := Lib.hid hv
  have HB0 := Lib.hid hb
  rcases h with rfl | ⟨g0, o, rfl, hc⟩
  · simp at l1
  have HC := Lib.hid hc
  clear hc hb hv
  go_enter Try.func15, Try.ntmps15
  go_wp2_with fail
  refine CF.mono ?_
  rintro e w1 ⟨rfl, C⟩
  clear CF
  have hM := OwnI.made C ns.length hn
  have hB2 := C.alloc C.size (.cells (madeCells #[.int .i64 0] ns.length) 3)
  obtain ⟨g, hg⟩ : ∃ g, w1.heap.size = g := ⟨_, rfl⟩
  rw [hg] at hM
  have HM := Lib.hid hM
  have HB2 := Lib.hid hB2
  have hgw : w.heap.size ≤ g := by rw [← hg]; exact C.size
  clear hM hB2 C
  go_wp2_with fail
  clear hmk
  have HGZ : Hid (g < (w1.alloc (.cells (madeCells #[.int .i64 0] ns.length) 3)).heap.size) := by show g < _; rw [← hg]; simp
  generalize w1.alloc (.cells (madeCells #[.int .i64 0] ns.length) 3) = W1 at *
  have CC := iFlows (some ⟨g0, o, none⟩) cap ns fl W1 (nd_below HH.out HB2.out) hn hcap
  rw [flow_yes HB0.out] at CC
  refine CC.mono ?_
  rintro e w2 ⟨v17, rfl, hO, hB3⟩
  obtain ⟨cb, cc, rfl, _⟩ := hO.ints
  have hcl : (comeF ns fl).length = ns.length := comeTo_len ns fl _
  rw [hcl] at hO ⊢
  have hB := bel_tr HB2.out hB3
  have hM2 := HM.out.of_block hB3
  rw [show List.replicate ns.length (0 : Int) = mixZ (passF ns fl) 0 from by rw [mix_none (fun i hi => absurd hi (Nat.not_lt_zero _)), passF_len]] at hM2
  have hgz := HGZ.out
  have hs3 := hB3.size
  have HO := Lib.hid hO
  have HB := Lib.hid hB
  have HM2 := Lib.hid hM2
  clear hO hB hM2 HM hB3 CC hg HGZ HB2
  go_wp2_with fail
  obtain ⟨V, hV⟩ : ∃ V, V = w2 := ⟨_, rfl⟩
  subst hV
  go_loopw [19] (fun i wr => ∃ k : Nat, k ≤ ns.length ∧ i = .int .i64 k ∧ Hid (OwnI wr w.heap.size (.slice (some ⟨g, 0, none⟩) ns.length ns.length) (mixZ (passF ns fl) k) ∧ V.grownBy wr (some g))) (fun i _ => ns.length - (intOf i).toNat)
  case atStart => exact ⟨0, Nat.zero_le _, rfl, HM2.out, g_of (Below.refl _ _) _⟩
  case round =>
    clear HM2
    obtain ⟨k, hk, rfl, HR⟩ := hrel
    have hB := below_gv HB.out HR.out.2 (fun q hq => by have e := Option.some.inj hq; omega)
    by_cases hlt : k < ns.length
    · have hOa := (HO.out.apart HR.out.2 (fun q hq => by have e := Option.some.inj hq; omega)).at_
      rcases hOa with e | ⟨gc, oc, rfl, hcc⟩
      · rw [e] at hcl; simp at hcl; omega
      have hci := hcc k (by omega)
      obtain ⟨c0, c1, c2, c3, c4⟩ := nd_at HC.out hB hlt
      obtain ⟨q1, q2, q3, q4⟩ := vn_at HV.out hlt
      have hcb := come_bd HV.out ⟨f0, f1⟩ k
      have hpg := passF_get ns fl hlt
      have CP := fun W => ipassing (ns.getD k nd0).1 (ns.getD k nd0).2.1 (ns.getD k nd0).2.2.1 (ns.getD k nd0).2.2.2.1 (ns.getD k nd0).2.2.2.2 ((comeF ns fl).getD k 0) W hcb q2 q3
      change ∀ W, Calls _ _ _ W (fun e w' => e = .returned (.int .i64 (passV (ns.getD k nd0) ((comeF ns fl).getD k 0))) ∧ Below W.heap.size W w') at CP
      rw [← hpg] at CP
      generalize (comeF ns fl).getD k 0 = c at hci CP
      generalize ns.getD k nd0 = nd at c0 c1 c2 c3 c4 CP
      obtain ⟨x0, x1, x2, x3, x4⟩ := nd
      dsimp only at c0 c1 c2 c3 c4 CP
      have hms := mix_set (zs := passF ns fl) (k := k) (by rw [passF_len]; exact hlt)
      generalize (passF ns fl).getD k 0 = p at CP hms
      have k0 : (0 : Int) ≤ (k : Int) := by omega
      have k1 : (k : Int) < (ns.length : Int) := by omega
      have HMS := Lib.hid hms
      clear hcc hcb hpg q1 q2 q3 q4 hms hB
      go_wp2_with fail
      refine (CP _).mono ?_
      rintro e wq ⟨rfl, hb⟩
      have hR2 := HR.out.1.of_block hb
      have hG2 := g_trans HR.out.2 (g_of hb (some g))
      have hd := hR2.cell (j := k) (by rw [mix_len, passF_len]; exact hlt)
      have hf := hR2.frozen k
      have hst := hR2.set_ k p
      rw [HMS.out] at hst
      have HS : Hid (OwnI (wq.setCell ⟨g, k, none⟩ (.int .i64 p)) w.heap.size (.slice (some ⟨g, 0, none⟩) ns.length ns.length) (mixZ (passF ns fl) (k + 1)) ∧ V.grownBy (wq.setCell ⟨g, k, none⟩ (.int .i64 p)) (some g)) := ⟨hst, g_set2 hG2⟩
      generalize (mixZ (passF ns fl) k).getD k 0 = y at hd
      clear hR2 hG2 hst hb CP c0 c1 c2 c3 c4 hci
      go_wp2_with fail
      go_roundw
      case rel => exact ⟨k + 1, by omega, by go_num, HS.out⟩
      case measure => simp [intOf]; omega
    · have HE : Hid (OwnI wr w.heap.size (.slice (some ⟨g, 0, none⟩) ns.length ns.length) (passF ns fl) ∧ Below w.heap.size w wr) := by
        refine ⟨?_, hB⟩
        have := HR.out.1
        rw [mix_all (by rw [passF_len]; omega)] at this
        exact this
      clear HR hB
      go_wp2_with fail
      go_ret
      exact ⟨_, rfl, HE.out⟩
end Go.Proofs.Ytlpmeljneogpiab
