/- For every input the law answers true, and its argument reads afterwards as before: ledgers are read back. No condition. -/
import Derived.Test.YtdlbjmhjaljlfaaRows
import Derived.Test.YtdlbjmhjaljlfaaDrawLf
import Derived.Test.YtdlbjmhjaljlfaaLgpR
import Derived.Test.YtdlbjmhjaljlfaaLgtI
import Derived.Test.YtdlbjmhjaljlfaaLgtS
import Derived.Test.YtdlbjmhjaljlfaaEqH
import Derived.WalkKit
import Derived.ProofKit
import Derived.OpenShut
import Derived.ShutString
import Derived.ChangeOld
import Derived.Below
import Derived.Lib.SmallJoins
namespace Go.Proofs.Ytdlbjmhjaljlfaa.fnFormatLedger
open Go.ChangeShapes Go.WideShapes Go.ChangeAt Go.RowKit Go.Joins
open Go.ChangeMaps (open_string shut_string)
set_option linter.unusedVariables false
set_option linter.unusedSimpArgs false

theorem own : ownKnob Try.prog.godebug = none := by kernel_rfl
theorem laidOut : laidOutB Try.prog = true := by kernel_rfl

set_option maxRecDepth 100000 in
set_option maxHeartbeats 6000000 in
theorem walk (a0 : Option Addr) (len0 cap0 : Nat) (z0 : List Int) (w : World) (w0 : IsRow .u8 w a0 len0 cap0 z0) :
    Calls Try.prog 6 #[.slice a0 len0 cap0] w fun e w' => e = .returned (.bool true) ∧ Below w.heap.size w w' := by
  by_cases big : (1048576 : Int) < (len0 : Int)
  · go_enter Try.func6, Try.ntmps6
    go_wp2
    go_ret
    exact ⟨rfl, Below.refl _ _⟩
  go_enter Try.func6, Try.ntmps6
  go_wp2_with fail
  refine (drawFormatLedger a0 len0 cap0 z0 _ w0).mono ?_
  rintro e u1 ⟨b, cp, hs, rfl, hl6, hlc, hi, B⟩
  clear w0 big
  have hwu := B.size
  have n1 : hs.length ≤ 1048576 := by omega
  have HI := Lib.hid hi
  have D := Below.refl u1.heap.size u1
  clear hi
  have CI : ∀ W, Below u1.heap.size u1 W → Calls Try.prog 25 #[.slice b hs.length cp] W fun e w' => e = .returned (.string (flT hs)) ∧ Below W.heap.size W w' := fun W hW => iFmtL b cp hs W (hs_below HI.out hW) n1
  have CS : ∀ W, Below u1.heap.size u1 W → Calls Try.prog 26 #[.slice b hs.length cp] W fun e w' => e = .returned (.string (flT hs)) ∧ Below W.heap.size W w' := fun W hW => sFmtL b cp hs W (hs_below HI.out hW) n1
  cases hv : vlR hs with
  | false =>
    rw [fl_no hv] at CI CS
    have HCI := Lib.hid CI
    have HCS := Lib.hid CS
    clear CI CS hv
    go_wp2_with fail
    refine (HCI.out _ D).mono ?_
    rintro e u ⟨rfl, C⟩
    replace B := bel_tr B C
    replace D := bel_tr D C
    clear C
    go_wp2_with fail
    refine (HCS.out _ D).mono ?_
    rintro e u ⟨rfl, C⟩
    replace B := bel_tr B C
    replace D := bel_tr D C
    clear C
    go_wp2_with fail
    refine (HCS.out _ D).mono ?_
    rintro e u ⟨rfl, C⟩
    replace B := bel_tr B C
    replace D := bel_tr D C
    clear C
    go_wp2_with fail
    go_ret
    exact ⟨rfl, B⟩
  | true =>
    obtain ⟨p1, p2⟩ := par_text hv
    have pz := text_size hv
    have he : (txt (textB hs)).toList.isEmpty = false := isE_no (by
      have := text_ne hv
      intro c
      exact this (List.length_eq_zero_iff.1 (by rw [txt_size] at c; exact c)))
    have hln : ((lnA (txt (textB hs))).length : Int) = (hs.length : Int) := by
      have := congrArg List.length p2
      unfold plL at this
      rw [List.length_map] at this
      omega
    rw [fl_yes hv] at CI CS
    have hraw := (vlR_is hv).1
    generalize txt (textB hs) = T at *
    have CP : ∀ W, Calls Try.prog 27 #[.string T] W fun e w' => ∃ v, e = .returned (.tuple #[v, .bool true]) ∧ OwnH w' W.heap.size v hs ∧ Below W.heap.size W w' := fun W => (iParL T W (by omega)).mono fun e w' h => by
      obtain ⟨v, h1, _, h3, h4⟩ := h
      rw [p1] at h1 h3
      refine ⟨v, h1, ?_, h4⟩
      have := h3 rfl
      rw [p2, hraw] at this
      exact this
    have CN : ∀ W, Calls Try.prog 28 #[.string T] W fun e w' => e = .returned (.int .i64 (hs.length : Int)) ∧ W = w' := fun W => by
      have := lnewl T W (by omega)
      rw [hln] at this
      exact this
    have hTT : (T.toList == T.toList) = true := by simp
    have HCI := Lib.hid CI
    have HCS := Lib.hid CS
    have HCP := Lib.hid CP
    have HCN := Lib.hid CN
    clear CI CS CP CN hv p1 p2 pz hln hraw
    go_wp2_with fail
    refine (HCI.out _ D).mono ?_
    rintro e u ⟨rfl, C⟩
    replace B := bel_tr B C
    replace D := bel_tr D C
    clear C
    go_wp2_with fail
    refine (HCS.out _ D).mono ?_
    rintro e u ⟨rfl, C⟩
    replace B := bel_tr B C
    replace D := bel_tr D C
    clear C
    go_wp2_with fail
    refine (HCP.out _).mono ?_
    rintro e u ⟨v, rfl, O, C⟩
    obtain ⟨b2, c2, rfl, I2⟩ := own_hs O
    replace B := bel_tr B C
    replace D := bel_tr D C
    clear C
    go_wp2_with fail
    refine (eqHd b2 b c2 cp hs _ I2 (hs_below HI.out D) n1).mono ?_
    rintro e u ⟨rfl, C⟩
    replace B := bel_tr B C
    replace D := bel_tr D C
    clear C
    go_wp2_with fail
    refine (HCN.out _).mono ?_
    rintro e w' ⟨rfl, rfl⟩
    go_wp2_with fail
    go_ret
    exact ⟨rfl, B⟩

set_option maxRecDepth 100000 in
theorem lifted (os : Os) (started : os.Started) (H : Type) (enc : TypeId × Value → H) :
    ReturnsInHanded {} Try.checked os 6 .any (Rows.fnFormatLedgerSpec.pre6 enc Try.prog Try.f6 Rows.fnFormatLedgerRow.domain false) (Rows.fnFormatLedgerSpec.post enc Try.prog Try.f6 false true false false) := by
  refine returnsInHanded_of_change (C := Try.checked) own started (by kernel_rfl) Try.func6
    (ChangeSpec.witness6 (enc := enc) (C := Try.checked) false ⟨#[], #[.slice none 0 0], []⟩ 8 (by kernel_rfl) (by kernel_rfl) (by kernel_rfl) (by kernel_rfl)) ?_
  intro W base args ds gs before hval0 hW hcnd _
  have hval : ∀ (j : Nat) t v, Try.f6.params[j]? = some t → args[j]? = some v → Value.okWide Try.prog W .any base t v := hval0
  have hW' := hW
  obtain ⟨p, q, hA0, hV, rfl, hfz, hnd⟩ := hW
  have hA : DataW.TrodAll enc Try.prog W 0 (fun _ => true) true Try.f6.params.toList args.toList ds p := hA0
  rw [Try.params6] at hA hval
  obtain ⟨v0, vs0, e0, es0, p0, q0, hargs, rfl, rfl, h0, r0⟩ := trodAll_cons hA
  obtain ⟨rfl, rfl, rfl⟩ := trodAll_nil r0
  obtain rfl : args = #[v0] := by cases args; simp_all
  obtain ⟨rfl, rfl⟩ := trodVars_none hV
  have k0 := h0
  have lt0 : ∀ x ∈ p0, x.block < W.heap.size := by obtain ⟨m, hm⟩ := k0; exact DataW.trod_lt m _ _ _ hm
  obtain ⟨a0, len0, cap0, rfl⟩ := okWide_slice Try.underlying22 (hval 0 22 v0 rfl rfl)
  obtain ⟨z0, w0⟩ : ∃ zs, IsRow .u8 W a0 len0 cap0 zs := by
    obtain ⟨fuel, hf⟩ := h0
    rcases open_ints Try.underlying22 Try.underlying5 (by kernel_rfl) hf with ⟨hcs, _⟩ | ⟨x, l, c, zs, hcs, _, hl, hm, hz, _, hcell, hwz⟩
    · simp [Value.cells] at hcs
      obtain ⟨rfl, rfl, rfl⟩ := hcs
      exact ⟨[], .inl ⟨rfl, rfl, rfl, rfl⟩⟩
    · simp [Value.cells] at hcs
      obtain ⟨rfl, rfl, rfl⟩ := hcs
      exact ⟨zs, .inr ⟨_, rfl, hl, hm, by simpa using hz, hcell, hwz⟩⟩
  clear hA0 hval0
  refine (walk a0 len0 cap0 z0 W w0).mono fun e W' ⟨he, bel⟩ => ?_
  subst he
  exact ⟨_, rfl, _, _, _, [], _, [], hW', trodAll_mk1 (shut_bool Try.underlying4 _), (trodAll_cons_mk (Below.trod laidOut (by kernel_rfl) (of_decide_eq_true (by kernel_rfl)) k0 bel lt0) trodAll_mk0), rfl, bel.frame _, fun h => by cases h⟩

theorem over : Rows.fnFormatLedgerRow.holds Try.pinned (OpenSpec.ofChange Rows.fnFormatLedgerSpec) :=
  OpenClaim.holds_of_wide 6 Try.f6 rfl rfl rfl rfl rfl rfl rfl ⟨rfl, rfl, rfl, rfl, rfl⟩ rfl rfl rfl rfl rfl (by kernel_rfl) Try.func6 (by kernel_rfl)
    (of_decide_eq_true (by kernel_rfl)) (by unfold Func.isWrapper; first | (rw [if_pos (by decide +kernel)]; kernel_rfl) | (rw [if_neg (by decide +kernel)]; exact ⟨rfl, rfl⟩))
    (fun os started H enc _ => lifted os started H enc)

end Go.Proofs.Ytdlbjmhjaljlfaa.fnFormatLedger
namespace Go.Proofs.Ytdlbjmhjaljlfaa
/-- the statement -/
theorem fnFormatLedger_holds : Rows.FnFormatLedgerSaid := fnFormatLedger.over
end Go.Proofs.Ytdlbjmhjaljlfaa
