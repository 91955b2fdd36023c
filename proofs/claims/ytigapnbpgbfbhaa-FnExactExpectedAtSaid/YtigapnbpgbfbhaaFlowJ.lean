/- What comes to each node, by the program. Condition: at most 1048576 nodes. -/
import Derived.Test.YtigapnbpgbfbhaaUniI
import Derived.Deep.RegionHeld3
namespace Go.Proofs.Ytigapnbpgbfbhaa
open Go.RowKit
set_option linter.unusedSimpArgs false
set_option linter.unusedVariables false
set_option maxRecDepth 100000 in
set_option maxHeartbeats 8000000 in
/-- impl.FlowsOf -/
theorem iFlows (a : Option Addr) (cap : Nat) (ns : List Nd) (fl : Int) (w : World) (h : IsNd w a ns) (hn : ns.length ≤ 1048576) (hcap : ns.length ≤ cap) :
    Calls Try.prog 32 #[.slice a ns.length cap, .int .i64 fl] w (OutI w (flowV ns fl)) := by
  have CF := icanFlow a cap ns fl w h hn hcap
  cases hb : flB ns fl with
  | false =>
    rw [hb] at CF
    rw [flow_no hb]
    clear hb h
    go_enter Try.func32, Try.ntmps32
    go_wp2_with fail
    refine CF.mono ?_
    rintro e w1 ⟨rfl, C⟩
    go_wp2_with fail
    go_ret
    exact outI_nil C
  | true =>
  rw [hb] at CF
  rw [flow_yes hb]
  obtain ⟨hv, f0, f1⟩ := flB_is hb
  obtain ⟨l1, l12, _⟩ := vn_is hv
  have hmk := run_make_row' (P := Try.prog) 23 3 (.int .i64 0) 8 Try.underlying23 infoInt rfl .i64 .i64 ns.length (by omega) (by omega)
  have HH := Lib.hid h
  have HV := Lib.hid hv
  rcases h with rfl | ⟨g0, o, rfl, hc⟩
  · simp at l1
  have i0 : (0 : Int) < (ns.length : Int) := by omega
  clear hc hb hv
  go_enter Try.func32, Try.ntmps32
  go_wp2_with fail
  refine CF.mono ?_
  rintro e w1 ⟨rfl, C⟩
  clear CF
  have hM := OwnI.made C ns.length hn
  have hz := hM.cell (j := 0) (by rw [List.length_replicate]; omega)
  have hzf := hM.frozen 0
  have hO0 := hM.set_ 0 fl
  obtain ⟨g, hg⟩ : ∃ g, w1.heap.size = g := ⟨_, rfl⟩
  have hgw : w.heap.size ≤ g := by rw [← hg]; exact (C).size
  rw [hg] at hz hzf hO0
  rw [List.getD_eq_getElem?_getD, List.getElem?_replicate, if_pos (by omega)] at hz
  dsimp only [Option.getD_some] at hz
  have hB0 : Below w.heap.size w ((w1.alloc (.cells (madeCells #[.int .i64 0] ns.length) 3)).setCell ⟨g, 0, none⟩ (.int .i64 fl)) := ((C).alloc (C).size _).setCell (p := ⟨g, 0, none⟩) hgw _
  rw [World.setCell_alloc_at _ _ _ _ _ hg.symm] at hO0 hB0
  have HO0 := Lib.hid hO0
  have HB0 := Lib.hid hB0
  clear hM hO0 hB0
  clear C
  go_wp2_with fail
  clear hmk hz hzf
  clear hg
  go_loopw [21] (fun i wr => ∃ k : Nat, k ≤ ns.length ∧ i = .int .i64 k ∧ OwnI wr w.heap.size (.slice (some ⟨g, 0, none⟩) ns.length ns.length) (comeTo ns fl k) ∧ Below w.heap.size w wr) (fun i _ => ns.length - (intOf i).toNat)
  case atStart => exact ⟨0, Nat.zero_le _, rfl, HO0.out, HB0.out⟩
  case round =>
    clear HO0 HB0
    obtain ⟨k, hk, rfl, hO, hB⟩ := hrel
    by_cases hlt : k < ns.length
    · have hgb := hO.blk
      have HBD : Hid (∀ j, 0 ≤ (comeTo ns fl k).getD j 0 ∧ (comeTo ns fl k).getD j 0 ≤ 500) := fun j => comeTo_bd HV.out ⟨f0, f1⟩ k hk j
      have hgc := hO.cell (j := k) (by rw [comeTo_len]; exact hlt)
      have hcb := HBD.out k
      have HNX := Lib.hid (come_next HV.out fl hlt)
      obtain ⟨c, hc⟩ : ∃ c, (comeTo ns fl k).getD k 0 = c := ⟨_, rfl⟩
      rw [hc] at hgc hcb HNX
      clear hc
      have CU := iUnits (some ⟨g0, o, none⟩) cap ns k c wr (nd_below HH.out hB) hn hcap HV.out hlt hcb
      have HUB : Hid (∀ j, 0 ≤ (unitsF ns k c).getD j 0 ∧ (unitsF ns k c).getD j 0 ≤ c) := unitsF_bd HV.out hlt hcb
      have hul : (unitsF ns k c).length = ns.length := unitsF_len ns k c
      have HO := Lib.hid hO
      have HB := Lib.hid hB
      have k0 : (0 : Int) ≤ (k : Int) := by omega
      have k1 : (k : Int) < (ns.length : Int) := by omega
      have hcl : (comeTo ns fl k).length = ns.length := comeTo_len ns fl k
      generalize unitsF ns k c = us at CU HNX HUB hul
      generalize comeTo ns fl k = cs at HO HBD HNX hcl
      have HUL := Lib.hid hul
      have HCL := Lib.hid hcl
      clear hO hB hcl hul
      go_wp2_with fail
      refine CU.mono ?_
      rintro e w2 ⟨v, rfl, hU, C⟩
      obtain ⟨ub, uc, rfl, _⟩ := hU.ints
      have hO2 := HO.out.of_block C
      have hB2 := bel_tr HB.out C
      have s2 := C.size
      have HO2 := Lib.hid hO2
      have HB2 := Lib.hid hB2
      have HU := Lib.hid hU
      clear hO2 hB2 hU C CU hgc HO HB
      go_wp2_with fail
      go_loopw [32] (fun i wi => ∃ m : Nat, m ≤ us.length ∧ i = .int .i64 m ∧ Hid (OwnI wi w.heap.size (.slice (some ⟨g, 0, none⟩) ns.length ns.length) (accTo cs (fun j => cs.getD j 0 + us.getD j 0) m) ∧ w2.grownBy wi (some g))) (fun i _ => us.length - (intOf i).toNat)
      case atStart => exact ⟨0, Nat.zero_le _, rfl, by rw [accTo_zero]; exact HO2.out, g_of (Below.refl _ _) _⟩
      case round =>
        obtain ⟨m, hm, rfl, HM⟩ := hrel
        by_cases hlm : m < us.length
        · have hua := (HU.out.apart HM.out.2 (fun q hq => by have e := Option.some.inj hq; omega)).at_
          rcases hua with rfl | ⟨gu, ou, rfl, huc⟩
          · simp at hlm
          have c1 := huc m hlm
          have hml : m < cs.length := by have := HUL.out; have := HCL.out; omega
          have c3 := HM.out.1.cell (j := m) (by rw [accTo_len]; exact hml)
          rw [accTo_own _ hml] at c3
          have c4 := HM.out.1.frozen m
          have bu := HUB.out m
          have bc := HBD.out m

          have HS : Hid (∀ z, cs.getD m 0 + us.getD m 0 = z → OwnI (wr.setCell ⟨g, m, none⟩ (.int .i64 z)) w.heap.size (.slice (some ⟨g, 0, none⟩) ns.length ns.length) (accTo cs (fun j => cs.getD j 0 + us.getD j 0) (m + 1)) ∧ w2.grownBy (wr.setCell ⟨g, m, none⟩ (.int .i64 z)) (some g)) := fun z hz => by
            have hst := HM.out.1.set_ m (cs.getD m 0 + us.getD m 0)
            rw [accTo_succ (fun j => cs.getD j 0 + us.getD j 0) hml] at hst
            rw [hz] at hst
            exact ⟨hst, g_set2 HM.out.2⟩
          have b1 : (m : Int) < (ns.length : Int) := by have := HUL.out; omega
          have b2 : (m : Int) < (us.length : Int) := by omega
          have b4 : (0 : Int) ≤ (m : Int) := by omega
          generalize us.getD m 0 = x at c1 HS bu
          generalize cs.getD m 0 = y at c3 HS bc
          have wz : IntKind.i64.wrap (y + x) = y + x := by rw [IntKind.wrap_i64]; omega
          clear huc HM hml
          go_wp2_with fail
          go_roundw
          case rel => exact ⟨m + 1, by omega, by go_num, HS.out _ rfl⟩
          case measure => simp [intOf]; omega
        · have HE : Hid (OwnI wr w.heap.size (.slice (some ⟨g, 0, none⟩) ns.length ns.length) (comeTo ns fl (k + 1)) ∧ Below w.heap.size w wr) := by
            refine ⟨?_, below_gv HB2.out HM.out.2 (fun q hq => by have e := Option.some.inj hq; omega)⟩
            have := HM.out.1
            have e1 := HUL.out
            rw [HNX.out, ← accTo_end (cs := cs) _ HCL.out]
            rw [show m = ns.length from by omega] at this
            exact this
          clear HM
          go_wp2_with fail
          go_roundw
          case rel => exact ⟨k + 1, by omega, by go_num, HE.out⟩
          case measure => simp [intOf]; omega
    · have HO := Lib.hid hO
      have HB := Lib.hid hB
      clear hO hB
      go_wp2_with fail
      go_ret
      exact ⟨_, rfl, by rw [show k = ns.length from by omega] at HO; exact HO.out, HB.out⟩
end Go.Proofs.Ytigapnbpgbfbhaa
