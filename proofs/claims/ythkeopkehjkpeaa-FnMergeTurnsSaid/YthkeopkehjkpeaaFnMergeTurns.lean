/- For every input the law answers true, and its argument reads afterwards as before: merged turns are the same hours. No condition. -/
import Derived.Test.YthkeopkehjkpeaaRows
import Derived.Test.YthkeopkehjkpeaaDrawTm
import Derived.Test.YthkeopkehjkpeaaTurnL
import Derived.Test.YthkeopkehjkpeaaMergL
import Derived.Test.YthkeopkehjkpeaaEqT
import Derived.WalkKit
import Derived.Deep.QuietTactic
import Derived.ProofKit
import Derived.OpenShut
import Derived.ShutString
import Derived.ChangeOld
import Derived.Below
import Derived.Lib.SmallJoins
namespace Go.Proofs.Ythkeopkehjkpeaa.fnMergeTurns
open Go.ChangeShapes Go.WideShapes Go.ChangeAt Go.RowKit Go.Joins
open Go.ChangeMaps (open_string shut_string)
set_option linter.unusedVariables false

theorem own : ownKnob Try.prog.godebug = none := by kernel_rfl
theorem laidOut : laidOutB Try.prog = true := by kernel_rfl

set_option maxRecDepth 100000 in
set_option maxHeartbeats 6000000 in
theorem walk (a0 : Option Addr) (len0 cap0 : Nat) (z0 : List Int) (w : World) (w0 : IsRow .u8 w a0 len0 cap0 z0) :
    Calls Try.prog 13 #[.slice a0 len0 cap0] w fun e w' => e = .returned (.bool true) ∧ Below w.heap.size w w' := by
  by_cases big : (1048576 : Int) < (len0 : Int)
  · go_enter Try.func13, Try.ntmps13
    go_wp2
    go_ret
    exact ⟨rfl, Below.refl _ _⟩
  go_enter Try.func13, Try.ntmps13
  go_wp2_with fail
  refine (drawMergeTurns a0 len0 cap0 z0 _ w0).mono ?_
  rintro e u1 ⟨b, cp, xs, rfl, hl6, hlc, hi, hz, B⟩
  clear w0 big
  have n1 : xs.length ≤ 1048576 := by omega
  have HI := Lib.hid hi
  have HZ := Lib.hid hz
  have D := Below.refl u1.heap.size u1
  clear hi hz
  have CI := iMerge b cp xs u1 HI.out n1 hlc
  have CS : ∀ W, Below u1.heap.size u1 W → Calls Try.prog 45 #[.slice b xs.length cp] W (OutTn W (vtB xs) (mrgT xs xs.length)) := fun W hW => sMerge b cp xs W (tn_below HI.out hW) n1 hlc
  cases hv : vtB xs with
  | false =>
    rw [hv] at CI CS
    go_wp2_with fail
    refine CI.mono ?_
    rintro e u ⟨he, _, C⟩
    obtain rfl := he rfl
    replace B := bel_tr B C
    replace D := bel_tr D C
    clear C he
    go_wp2_with fail
    refine (CS _ D).mono ?_
    rintro e u ⟨he, _, C⟩
    obtain rfl := he rfl
    replace B := bel_tr B C
    replace D := bel_tr D C
    clear C he
    go_wp2_with fail
    refine (eqTn none none 0 0 [] _ (.inl rfl) (.inl rfl) (by decide)).mono ?_
    rintro e u ⟨rfl, C⟩
    replace B := bel_tr B C
    replace D := bel_tr D C
    clear C
    go_wp2_with fail
    refine (CS _ D).mono ?_
    rintro e u ⟨he, _, C⟩
    obtain rfl := he rfl
    replace B := bel_tr B C
    clear C he
    go_wp2_with fail
    refine (eqTn none none 0 0 [] _ (.inl rfl) (.inl rfl) (by decide)).mono ?_
    rintro e u ⟨rfl, C⟩
    replace B := bel_tr B C
    clear C
    go_wp2_with fail
    go_ret
    exact ⟨rfl, B⟩
  | true =>
    rw [hv] at CI CS
    obtain ⟨hvo, hwho, hadj⟩ := mrg_law hv
    have hag := mrg_again hadj
    obtain ⟨l1, l24, _⟩ := vt_is hvo
    generalize mrgT xs xs.length = L at CI CS hvo hwho hadj hag l1 l24
    have HW := Lib.hid hwho
    have HADJ := Lib.hid hadj
    have HAG := Lib.hid hag
    have HVO := Lib.hid hvo
    clear hwho hadj hag hvo hv
    go_wp2_with fail
    refine CI.mono ?_
    rintro e UM ⟨_, he, C⟩
    obtain ⟨g, co, rfl, hg, hF, hco⟩ := he rfl
    have hO := hF.tn
    have HI2 := Lib.hid (tn_below (tn_below HI.out D) C)
    replace B := bel_tr B C
    replace D := bel_tr D C
    have E := Below.refl UM.heap.size UM
    have HO := Lib.hid hO
    have n2 : L.length ≤ 1048576 := by omega
    clear C he hF hg CI
    go_wp2_with fail
    refine (CS _ D).mono ?_
    rintro e u ⟨_, he, C⟩
    obtain ⟨g2, co2, rfl, _, hF2, _⟩ := he rfl
    replace B := bel_tr B C
    replace D := bel_tr D C
    replace E := bel_tr E C
    have hO2 := hF2.tn
    clear C he hF2 CS
    go_wp2_with fail
    refine (eqTn _ _ co co2 L _ (tn_below HO.out E) hO2 n2).mono ?_
    rintro e u ⟨rfl, C⟩
    replace B := bel_tr B C
    replace E := bel_tr E C
    clear C hO2 D
    have l0 : ((L.length : Int) == 0) = false := by simpa using (show (L.length : Int) ≠ 0 by omega)
    have CWO : ∀ n W, -1000000 ≤ n → n ≤ 1000000 → Below UM.heap.size UM W → Calls Try.prog 24 #[.slice (some ⟨g, 0, none⟩) L.length co, .int .i64 n] W fun e w' => e = .returned (.int .i64 (whoV L n)) ∧ Below W.heap.size W w' := fun n W h0 h1 hW =>
      iWhoAt _ co L n W (tn_below HO.out hW) n2 hco (wf_small (by omega))
    have CWI : ∀ n W, -1000000 ≤ n → n ≤ 1000000 → Below UM.heap.size UM W → Calls Try.prog 24 #[.slice b xs.length cp, .int .i64 n] W fun e w' => e = .returned (.int .i64 (whoV xs n)) ∧ Below W.heap.size W w' := fun n W h0 h1 hW =>
      iWhoAt b cp xs n W (tn_below HI2.out hW) n1 hlc (wf_small (by omega))
    go_wp2_with fail
    go_loopw [5] (fun x wr => ∃ q : Int, x = .int .i64 q ∧ 0 ≤ q ∧ q ≤ 100 ∧ Below w.heap.size w wr ∧ Below UM.heap.size UM wr) (fun x _ => (100 - intOf x).toNat)
    case atStart => exact ⟨0, rfl, by omega, by omega, B, E⟩
    case round =>
      clear B E
      obtain ⟨q, rfl, q0, q1, B, E⟩ := hrel
      by_cases hq : q < 100
      · have C1 := fun W hW => CWO q W (by omega) (by omega) hW
        have C2 := fun W hW => CWI q W (by omega) (by omega) hW
        rw [HW.out q q0 (by omega)] at C1
        generalize whoV xs q = x1 at C1 C2
        have wrq : IntKind.i64.wrap (q + 1) = q + 1 := wrap_small (by omega)
        clear CWO CWI
        go_wp2_with fail
        refine (C1 _ E).mono ?_
        rintro e u ⟨rfl, C⟩
        replace B := bel_tr B C
        replace E := bel_tr E C
        clear C
        go_wp2_with fail
        refine (C2 _ E).mono ?_
        rintro e u ⟨rfl, C⟩
        replace B := bel_tr B C
        replace E := bel_tr E C
        clear C
        go_wp2_with fail
        go_roundw
        case rel => exact ⟨q + 1, rfl, by omega, by omega, B, E⟩
        case measure => simp [intOf]; omega
      · have e7 : decide (q < 100) = false := decide_eq_false hq
        clear CWO CWI hq
        go_wp2_with fail
        clear e7
        go_loopw [6] (fun x wr => ∃ k : Nat, k < L.length ∧ x = .int .i64 ((k : Int) + 1) ∧ Below w.heap.size w wr ∧ Below UM.heap.size UM wr) (fun x _ => L.length - (intOf x).toNat)
        case atStart => exact ⟨0, by omega, rfl, B, E⟩
        case round =>
          clear B E
          obtain ⟨k, hk, rfl, B, E⟩ := hrel
          by_cases hlt : k + 1 < L.length
          · have hne := HADJ.out k hlt
            have hcl : IsTn UM (some ⟨g, 0, none⟩) L := HO.out
            rcases hcl with rfl | ⟨g', o', hgo, hc⟩
            · simp at l1
            injection hgo with hgo
            injection hgo with e1 e2 e3
            subst e1 e2
            obtain ⟨c0, _⟩ := tn_at hc E (show k < L.length by omega)
            obtain ⟨d0, _⟩ := tn_at hc E hlt
            rw [Nat.zero_add] at c0 d0
            generalize (L.getD k tn0).1 = x at c0 hne
            generalize (L.getD (k + 1) tn0).1 = y at d0 hne
            have e7 : (y == x) = false := by simpa using fun c => hne c.symm
            have wk : IntKind.i64.wrap ((k : Int) + 1 - 1) = (k : Int) := by rw [wrap_small (by omega)]; omega
            have wk2 : IntKind.i64.wrap ((k : Int) + 1 + 1) = ((k + 1 : Nat) : Int) + 1 := by rw [wrap_small (by omega)]; omega
            have i0 : (0 : Int) ≤ (k : Int) := by omega
            have i1 : (k : Int) < (L.length : Int) := by omega
            have i2 : (k : Int) + 1 < (L.length : Int) := by omega
            have i3 : (0 : Int) ≤ (k : Int) + 1 := by omega
            have t1 : ((k : Int) + 1).toNat = k + 1 := by omega
            have HB := Lib.hid B
            have HE := Lib.hid E
            clear hc hne B E
            go_wp2_with fail
            go_quiet (fail)
            go_wp2_with fail
            go_roundw
            case rel => exact ⟨k + 1, by omega, by go_num, below_drewN HB.out _, below_drewN HE.out _⟩
            case measure => simp [intOf]; omega
          · have hk2 : k + 1 = L.length := by omega
            have e7 : decide ((k : Int) + 1 < (L.length : Int)) = false := decide_eq_false (by omega)
            have CM := fun W (hW : Below UM.heap.size UM W) => iMerge (some ⟨g, 0, none⟩) co L W (tn_below HO.out hW) n2 hco
            rw [HVO.out, HAG.out] at CM
            clear hlt hk2 hk
            go_wp2_with fail
            refine (CM _ E).mono ?_
            rintro e u ⟨_, he, C⟩
            obtain ⟨g3, co3, rfl, _, hF3, _⟩ := he rfl
            replace B := bel_tr B C
            replace E := bel_tr E C
            have hO3 := hF3.tn
            clear C he hF3 CM
            go_wp2_with fail
            refine (eqTn _ _ co3 co L _ hO3 (tn_below HO.out E) n2).mono ?_
            rintro e u ⟨rfl, C⟩
            replace B := bel_tr B C
            clear C hO3
            go_wp2_with fail
            go_ret
            exact ⟨rfl, B⟩

set_option maxRecDepth 100000 in
theorem lifted (os : Os) (started : os.Started) (H : Type) (enc : TypeId × Value → H) :
    ReturnsInHanded {} Try.checked os 13 .any (Rows.fnMergeTurnsSpec.pre6 enc Try.prog Try.f13 Rows.fnMergeTurnsRow.domain false) (Rows.fnMergeTurnsSpec.post enc Try.prog Try.f13 false true false false) := by
  refine returnsInHanded_of_change (C := Try.checked) own started (by kernel_rfl) Try.func13
    (ChangeSpec.witness6 (enc := enc) (C := Try.checked) false ⟨#[], #[.slice none 0 0], []⟩ 8 (by kernel_rfl) (by kernel_rfl) (by kernel_rfl) (by kernel_rfl)) ?_
  intro W base args ds gs before hval0 hW hcnd _
  have hval : ∀ (j : Nat) t v, Try.f13.params[j]? = some t → args[j]? = some v → Value.okWide Try.prog W .any base t v := hval0
  have hW' := hW
  obtain ⟨p, q, hA0, hV, rfl, hfz, hnd⟩ := hW
  have hA : DataW.TrodAll enc Try.prog W 0 (fun _ => true) true Try.f13.params.toList args.toList ds p := hA0
  rw [Try.params13] at hA hval
  obtain ⟨v0, vs0, e0, es0, p0, q0, hargs, rfl, rfl, h0, r0⟩ := trodAll_cons hA
  obtain ⟨rfl, rfl, rfl⟩ := trodAll_nil r0
  obtain rfl : args = #[v0] := by cases args; simp_all
  obtain ⟨rfl, rfl⟩ := trodVars_none hV
  have k0 := h0
  have lt0 : ∀ x ∈ p0, x.block < W.heap.size := by obtain ⟨m, hm⟩ := k0; exact DataW.trod_lt m _ _ _ hm
  obtain ⟨a0, len0, cap0, rfl⟩ := okWide_slice Try.underlying22 (hval 0 22 v0 rfl rfl)
  obtain ⟨z0, w0⟩ : ∃ zs, IsRow .u8 W a0 len0 cap0 zs := by
    obtain ⟨fuel, hf⟩ := h0
    rcases open_ints Try.underlying22 Try.underlying5 (by kernel_rfl) hf with ⟨hcs, _⟩ | ⟨x, l, c, zs, hcs, _, hl, hm, hz, _, hcell, hwz⟩
    · simp [Value.cells] at hcs
      obtain ⟨rfl, rfl, rfl⟩ := hcs
      exact ⟨[], .inl ⟨rfl, rfl, rfl, rfl⟩⟩
    · simp [Value.cells] at hcs
      obtain ⟨rfl, rfl, rfl⟩ := hcs
      exact ⟨zs, .inr ⟨_, rfl, hl, hm, by simpa using hz, hcell, hwz⟩⟩
  clear hA0 hval0
  refine (walk a0 len0 cap0 z0 W w0).mono fun e W' ⟨he, bel⟩ => ?_
  subst he
  exact ⟨_, rfl, _, _, _, [], _, [], hW', trodAll_mk1 (shut_bool Try.underlying4 _), (trodAll_cons_mk (Below.trod laidOut (by kernel_rfl) (of_decide_eq_true (by kernel_rfl)) k0 bel lt0) trodAll_mk0), rfl, bel.frame _, fun h => by cases h⟩

theorem over : Rows.fnMergeTurnsRow.holds Try.pinned (OpenSpec.ofChange Rows.fnMergeTurnsSpec) :=
  OpenClaim.holds_of_wide 13 Try.f13 rfl rfl rfl rfl rfl rfl rfl ⟨rfl, rfl, rfl, rfl, rfl⟩ rfl rfl rfl rfl rfl (by kernel_rfl) Try.func13 (by kernel_rfl)
    (of_decide_eq_true (by kernel_rfl)) (by unfold Func.isWrapper; first | (rw [if_pos (by decide +kernel)]; kernel_rfl) | (rw [if_neg (by decide +kernel)]; exact ⟨rfl, rfl⟩))
    (fun os started H enc _ => lifted os started H enc)

end Go.Proofs.Ythkeopkehjkpeaa.fnMergeTurns
namespace Go.Proofs.Ythkeopkehjkpeaa
/-- the statement -/
theorem fnMergeTurns_holds : Rows.FnMergeTurnsSaid := fnMergeTurns.over
end Go.Proofs.Ythkeopkehjkpeaa
