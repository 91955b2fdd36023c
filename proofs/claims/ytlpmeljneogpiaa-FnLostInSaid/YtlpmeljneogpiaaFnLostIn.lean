/- For every input the law answers true, and its argument reads afterwards as before: all water is delivered or lost. No condition. -/
import Derived.Test.YtlpmeljneogpiaaRows
import Derived.Test.YtlpmeljneogpiaaDrawNb
import Derived.Test.YtlpmeljneogpiaaNodQ
import Derived.Test.YtlpmeljneogpiaaLawIn
import Derived.Test.YtlpmeljneogpiaaEqI
import Derived.Test.YtlpmeljneogpiaaGrA
import Derived.Test.YtlpmeljneogpiaaNodR
import Derived.Test.YtlpmeljneogpiaaFlowL
import Derived.Test.YtlpmeljneogpiaaFlowW
import Derived.Test.YtlpmeljneogpiaaNodL
import Derived.WalkKit
import Derived.Deep.RegionHeld3
import Derived.Deep.QuietTactic
import Derived.BigQuiet
import Derived.ProofKit
import Derived.OpenShut
import Derived.ShutString
import Derived.ChangeOld
import Derived.Below
import Derived.Lib.SmallJoins
namespace Go.Proofs.Ytlpmeljneogpiaa.fnLostIn
open Go.ChangeShapes Go.WideShapes Go.ChangeAt Go.RowKit Go.Joins
open Go.ChangeMaps (open_string shut_string)
set_option linter.unusedVariables false
set_option linter.unusedSimpArgs false

theorem own : ownKnob Try.prog.godebug = none := by kernel_rfl
theorem laidOut : laidOutB Try.prog = true := by kernel_rfl

set_option maxRecDepth 100000 in
set_option maxHeartbeats 8000000 in
theorem walk (a0 : Option Addr) (len0 cap0 : Nat) (z0 : List Int) (w : World) (w0 : IsRow .u8 w a0 len0 cap0 z0) :
    Calls Try.prog 10 #[.slice a0 len0 cap0] w fun e w' => e = .returned (.bool true) ∧ Below w.heap.size w w' := by
  by_cases big : (1048576 : Int) < (len0 : Int)
  · go_enter Try.func10, Try.ntmps10
    go_wp2
    go_ret
    exact ⟨rfl, Below.refl _ _⟩
  go_enter Try.func10, Try.ntmps10
  go_wp2_with fail
  refine (drawLostIn a0 len0 cap0 z0 _ w0).mono ?_
  rintro e u1 ⟨b, cp, xs, fl, rfl, l1, l10, hlc, I, i0, i1, B⟩
  clear w0 big
  have n1 : xs.length ≤ 1048576 := by omega
  have OI := Lib.hid (fun (W : World) (h : IsNd W b xs) (i : Int) => iLost b cp xs i W h n1 hlc)
  have OS := Lib.hid (fun (W : World) (h : IsNd W b xs) (i : Int) => sLost b cp xs i W h n1)
  have QI := Lib.hid (fun (W : World) (h : IsNd W b xs) (i : Int) => iPassed b cp xs i W h n1 hlc)
  have LI := Lib.hid (fun (W : World) (h : IsNd W b xs)  => iLeaves b cp xs W h n1 hlc)
  have OA := Lib.hid (fun W h => OI.out W h fl)
  have OB := Lib.hid (fun W h => OS.out W h fl)
  by_cases hv : flB xs fl = true
  rotate_left
  · have hv2 : flB xs fl = false := by simpa using hv
    rw [lost_no hv2] at OA OB
    clear hv hv2 OI OS QI LI
    go_wp2_with fail
    refine (OA.out _ I).mono ?_
    rintro e u2 ⟨rfl, C⟩
    replace B := bel_tr B C
    replace I := nd_below I C
    clear C
    go_wp2_with fail
    refine (OB.out _ I).mono ?_
    rintro e u3 ⟨rfl, C⟩
    replace B := bel_tr B C
    replace I := nd_below I C
    clear C
    go_wp2_with fail
    refine (OB.out _ I).mono ?_
    rintro e u4 ⟨rfl, C⟩
    replace B := bel_tr B C
    replace I := nd_below I C
    clear C
    go_wp2_with fail
    go_ret
    exact ⟨rfl, B⟩
  · obtain ⟨h1, f0, f1⟩ := flB_is hv
    have hlv : leavesV xs = leavesTo xs xs.length := by unfold leavesV; rw [if_pos h1]
    have hq : passedV xs fl = passF xs fl := passed_yes hv
    have hll := leavesTo_len xs xs.length
    have HLB := Lib.hid (lost_bd h1 ⟨f0, f1⟩ xs.length (Nat.le_refl _))
    have HAL := Lib.hid (lost_all h1 ⟨f0, f1⟩)
    have HLM := Lib.hid (fun z (hz : z ∈ leavesTo xs xs.length) => (by obtain ⟨j, a, b, _⟩ := (leavesTo_mem xs z xs.length).1 hz; exact ⟨j, a, b⟩ : ∃ j : Nat, z = (j : Int) ∧ j < xs.length))
    have HSB := Lib.hid (fun ls => atSum_bd (passF_all h1 ⟨f0, f1⟩) ls)
    have QA := Lib.hid (fun W h => QI.out W h fl)
    have LA := Lib.hid (fun W h => LI.out W h)
    rw [lost_yes hv] at OA OB
    rw [hq] at QA
    rw [hlv] at LA
    have hpl := passF_len xs fl
    clear hv h1 hlv hq OI OS QI LI
    generalize leavesTo xs xs.length = ls at *
    generalize passF xs fl = ps at *
    generalize lostTo xs fl xs.length = t0 at *
    have hl0 := HLB.out.1
    have hl1 := HLB.out.2
    have e0 : decide (t0 < 0) = false := decide_eq_false (by omega)
    go_wp2_with fail
    refine (OA.out _ I).mono ?_
    rintro e u2 ⟨rfl, C⟩
    replace B := bel_tr B C
    replace I := nd_below I C
    clear C
    go_wp2_with fail
    refine (OB.out _ I).mono ?_
    rintro e u3 ⟨rfl, C⟩
    replace B := bel_tr B C
    replace I := nd_below I C
    clear C
    go_wp2_with fail
    refine (QA.out _ I).mono ?_
    rintro e u4 ⟨vQ, rfl, Q, C⟩
    obtain ⟨bQ, cQ, rfl, _⟩ := Q.ints
    replace B := bel_tr B C
    replace I := nd_below I C
    clear C
    rw [hpl] at Q ⊢
    go_wp2_with fail
    refine (LA.out _ I).mono ?_
    rintro e u5 ⟨vM, rfl, M, C⟩
    obtain ⟨bM, cM, rfl, _⟩ := M.ints
    replace B := bel_tr B C
    replace I := nd_below I C
    replace Q := Q.of_block C
    clear C
    go_wp2_with fail
    go_loopw [8, 9] (fun n i wr => ∃ k : Nat, k ≤ ls.length ∧ i = .int .i64 k ∧ n = .int .i64 (t0 + atSum ps (ls.take k)) ∧ Hid (OwnI wr _ (.slice bQ xs.length cQ) ps ∧ OwnI wr _ (.slice bM ls.length cM) ls ∧ Below w.heap.size w wr)) (fun _ i _ => ls.length - (intOf i).toNat)
    case atStart => exact ⟨0, Nat.zero_le _, rfl, by show _ = Value.int .i64 (t0 + 0); rw [Int.add_zero], Q, M, B⟩
    case round =>
      clear I Q M B
      obtain ⟨k, hk, rfl, rfl, HR⟩ := hrel
      obtain ⟨s0, s1⟩ := HSB.out (ls.take k)
      rw [List.length_take, Nat.min_eq_left hk] at s1
      by_cases hlt : k < ls.length
      · obtain ⟨gm, rfl, _⟩ := HR.out.2.1.form_ (by omega)
        obtain ⟨gq, rfl, _⟩ := HR.out.1.form_ (by omega)
        have c1 := HR.out.2.1.cell hlt
        obtain ⟨j, hj, hjl⟩ := HLM.out _ (getD_mem hlt)
        have c2 := HR.out.1.cell (j := j) (by omega)
        have ht := atSum_take ps ls k hlt
        have hb := HSB.out [(j : Int)]
        change 0 ≤ ps.getD ((j : Int)).toNat 0 + 0 ∧ ps.getD ((j : Int)).toNat 0 + 0 ≤ 500 * ((1 : Nat) : Int) at hb
        rw [hj] at c1 ht
        rw [show ((j : Int)).toNat = j from by omega] at ht hb
        generalize ps.getD j 0 = y at c2 ht hb
        generalize atSum ps (ls.take k) = t at s0 s1 ht
        have b0 : (0 : Int) ≤ (j : Int) := by omega
        have b1 : (j : Int) < (xs.length : Int) := by omega
        have b2 : (k : Int) < (ls.length : Int) := by omega
        have b3 : (0 : Int) ≤ (k : Int) := by omega
        have HT := Lib.hid ht
        clear ht hj
        go_wp2_with fail
        go_roundw
        case rel => exact ⟨k + 1, by omega, by go_num, by rw [HT.out, ← Int.add_assoc], HR.out⟩
        case measure => simp [intOf]; omega
      · have he : t0 + atSum ps (ls.take k) = fl := by rw [List.take_of_length_le (by omega)]; exact HAL.out
        rw [he]
        have HB := Lib.hid HR.out.2.2
        clear HR he s0 s1
        go_wp2_with fail
        go_ret
        exact ⟨rfl, HB.out⟩

set_option maxRecDepth 100000 in
theorem lifted (os : Os) (started : os.Started) (H : Type) (enc : TypeId × Value → H) :
    ReturnsInHanded {} Try.checked os 10 .any (Rows.fnLostInSpec.pre6 enc Try.prog Try.f10 Rows.fnLostInRow.domain false) (Rows.fnLostInSpec.post enc Try.prog Try.f10 false true false false) := by
  refine returnsInHanded_of_change (C := Try.checked) own started (by kernel_rfl) Try.func10
    (ChangeSpec.witness6 (enc := enc) (C := Try.checked) false ⟨#[], #[.slice none 0 0], []⟩ 8 (by kernel_rfl) (by kernel_rfl) (by kernel_rfl) (by kernel_rfl)) ?_
  intro W base args ds gs before hval0 hW hcnd _
  have hval : ∀ (j : Nat) t v, Try.f10.params[j]? = some t → args[j]? = some v → Value.okWide Try.prog W .any base t v := hval0
  have hW' := hW
  obtain ⟨p, q, hA0, hV, rfl, hfz, hnd⟩ := hW
  have hA : DataW.TrodAll enc Try.prog W 0 (fun _ => true) true Try.f10.params.toList args.toList ds p := hA0
  rw [Try.params10] at hA hval
  obtain ⟨v0, vs0, e0, es0, p0, q0, hargs, rfl, rfl, h0, r0⟩ := trodAll_cons hA
  obtain ⟨rfl, rfl, rfl⟩ := trodAll_nil r0
  obtain rfl : args = #[v0] := by cases args; simp_all
  obtain ⟨rfl, rfl⟩ := trodVars_none hV
  have k0 := h0
  have lt0 : ∀ x ∈ p0, x.block < W.heap.size := by obtain ⟨m, hm⟩ := k0; exact DataW.trod_lt m _ _ _ hm
  obtain ⟨a0, len0, cap0, rfl⟩ := okWide_slice Try.underlying38 (hval 0 38 v0 rfl rfl)
  obtain ⟨z0, w0⟩ : ∃ zs, IsRow .u8 W a0 len0 cap0 zs := by
    obtain ⟨fuel, hf⟩ := h0
    rcases open_ints Try.underlying38 Try.underlying5 (by kernel_rfl) hf with ⟨hcs, _⟩ | ⟨x, l, c, zs, hcs, _, hl, hm, hz, _, hcell, hwz⟩
    · simp [Value.cells] at hcs
      obtain ⟨rfl, rfl, rfl⟩ := hcs
      exact ⟨[], .inl ⟨rfl, rfl, rfl, rfl⟩⟩
    · simp [Value.cells] at hcs
      obtain ⟨rfl, rfl, rfl⟩ := hcs
      exact ⟨zs, .inr ⟨_, rfl, hl, hm, by simpa using hz, hcell, hwz⟩⟩
  clear hA0 hval0
  refine (walk a0 len0 cap0 z0 W w0).mono fun e W' ⟨he, bel⟩ => ?_
  subst he
  exact ⟨_, rfl, _, _, _, [], _, [], hW', trodAll_mk1 (shut_bool Try.underlying4 _), (trodAll_cons_mk (Below.trod laidOut (by kernel_rfl) (of_decide_eq_true (by kernel_rfl)) k0 bel lt0) trodAll_mk0), rfl, bel.frame _, fun h => by cases h⟩

theorem over : Rows.fnLostInRow.holds Try.pinned (OpenSpec.ofChange Rows.fnLostInSpec) :=
  OpenClaim.holds_of_wide 10 Try.f10 rfl rfl rfl rfl rfl rfl rfl ⟨rfl, rfl, rfl, rfl, rfl⟩ rfl rfl rfl rfl rfl (by kernel_rfl) Try.func10 (by kernel_rfl)
    (of_decide_eq_true (by kernel_rfl)) (by unfold Func.isWrapper; first | (rw [if_pos (by decide +kernel)]; kernel_rfl) | (rw [if_neg (by decide +kernel)]; exact ⟨rfl, rfl⟩))
    (fun os started H enc _ => lifted os started H enc)

end Go.Proofs.Ytlpmeljneogpiaa.fnLostIn
namespace Go.Proofs.Ytlpmeljneogpiaa
/-- the statement -/
theorem fnLostIn_holds : Rows.FnLostInSaid := fnLostIn.over
end Go.Proofs.Ytlpmeljneogpiaa
