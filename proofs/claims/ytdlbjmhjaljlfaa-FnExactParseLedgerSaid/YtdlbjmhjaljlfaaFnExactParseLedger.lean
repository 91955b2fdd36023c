/- For every input the law answers true, and its argument read afterwards as before: impl.ParseLedger answers as its model. No condition. -/
import Derived.Test.YtdlbjmhjaljlfaaRows
import Derived.Test.YtdlbjmhjaljlfaaLawH
import Derived.Test.YtdlbjmhjaljlfaaLgpS
import Derived.Test.YtdlbjmhjaljlfaaOpenH
import Derived.WalkKit
import Derived.ProofKit
import Derived.OpenShut
import Derived.ShutString
import Derived.ChangeOld
import Derived.Below
import Derived.Lib.SmallJoins
namespace Go.Proofs.Ytdlbjmhjaljlfaa.fnExactParseLedger
open Go.ChangeShapes Go.WideShapes Go.ChangeAt Go.RowKit Go.Joins
open Go.ChangeMaps (open_string shut_string)
set_option linter.unusedVariables false
set_option linter.unusedSimpArgs false

theorem own : ownKnob Try.prog.godebug = none := by kernel_rfl
theorem laidOut : laidOutB Try.prog = true := by kernel_rfl
theorem par_small {s : ByteArray} (h : plB s = true) : 0 < (rawL (ledOf (plL s))).length ∧ (rawL (ledOf (plL s))).length ≤ 1048576 := by
  unfold plB at h
  rw [Bool.and_eq_true] at h
  rw [(vlR_is h.2).1]
  have := vl_len h.2
  refine ⟨?_, by omega⟩
  rcases Nat.eq_zero_or_pos (plL s).length with e | e
  · have e2 := List.eq_nil_of_length_eq_zero e
    have := h.2
    rw [e2] at this
    exact absurd this (by decide)
  · exact e

set_option maxRecDepth 100000 in
set_option maxHeartbeats 4000000 in
theorem walk (s0 : ByteArray) (w : World) (w0 : s0.size ≤ maxLen) :
    Calls Try.prog 12 #[.string s0] w fun e w' => e = .returned (.bool true) ∧ Below w.heap.size w w' := by
  by_cases big : (1048576 : Int) < (s0.size : Int)
  · go_enter Try.func12, Try.ntmps12
    go_wp2
    go_ret
    exact ⟨rfl, Below.refl _ _⟩
  have n1 : s0.size ≤ 1048576 := by omega
  have B0 := Below.refl w.heap.size w
  obtain ⟨b, hb⟩ : ∃ b, plB s0 = b := ⟨_, rfl⟩
  obtain ⟨LL, hLL⟩ : ∃ LL, ledOf (plL s0) = LL := ⟨_, rfl⟩
  obtain ⟨R, hR⟩ : ∃ R, rawL LL = R := ⟨_, rfl⟩
  have CS : ∀ W : World, Calls Try.prog 30 #[.string s0] W (MoveV W b LL) := fun W => by
    rw [← hb, ← hLL]; exact sParL s0 W n1
  have CI : ∀ W : World, Calls Try.prog 27 #[.string s0] W (MoveV W b LL) := fun W => by
    rw [← hb, ← hLL]; exact iParL s0 W (by omega)
  have HL : Hid (b = true → 0 < R.length ∧ R.length ≤ 1048576) := fun c => by
    rw [← hR, ← hLL]; exact par_small (hb.trans c)
  have HR := Lib.hid hR
  have HCS := Lib.hid CS
  have HCI := Lib.hid CI
  clear hb hR hLL CS CI
  cases b with
  | false =>
    clear HL
    go_enter Try.func12, Try.ntmps12
    go_wp2_with fail
    refine (HCS.out _).mono ?_
    rintro e u1 ⟨v, rfl, m1, m2, C1⟩
    obtain rfl := m1 rfl
    have B1 := bel_tr B0 C1
    clear m1 m2
    go_wp2_with fail
    refine (HCI.out _).mono ?_
    rintro e u2 ⟨v, rfl, m1, m2, C2⟩
    obtain rfl := m1 rfl
    have B2 := bel_tr B1 C2
    clear m1 m2
    go_wp2_with fail
    refine (leqH none none 0 0 [] _ (.inl rfl) (.inl rfl) (by simp)).mono ?_
    rintro e u3 ⟨rfl, C3⟩
    have B3 := bel_tr B2 C3
    go_wp2_with fail
    refine (lmarkH_nil _).mono ?_
    rintro e w' ⟨rfl, rfl⟩
    go_wp2_with fail
    refine (lheldH_nil _).mono ?_
    rintro e w' ⟨rfl, rfl⟩
    go_wp2_with fail
    refine (HCI.out _).mono ?_
    rintro e u4 ⟨v, rfl, m1, m2, C4⟩
    obtain rfl := m1 rfl
    have B4 := bel_tr B3 C4
    clear m1 m2
    go_wp2_with fail
    refine (leqH none none 0 0 [] _ (.inl rfl) (.inl rfl) (by simp)).mono ?_
    rintro e u5 ⟨rfl, C5⟩
    have B5 := bel_tr B4 C5
    go_wp2_with fail
    refine (lheldH_nil _).mono ?_
    rintro e w' ⟨rfl, rfl⟩
    go_wp2_with fail
    go_ret
    exact ⟨rfl, B5⟩
  | true =>
    obtain ⟨hR0, nR⟩ := HL.out rfl
    clear HL
    go_enter Try.func12, Try.ntmps12
    go_wp2_with fail
    refine (HCS.out _).mono ?_
    rintro e u1 ⟨v, rfl, m1, m2, C1⟩
    obtain ⟨b2, c2, hv2, I2, _⟩ := own_hs2 (m2 rfl)
    subst hv2
    rw [HR.out] at I2 ⊢
    have B1 := bel_tr B0 C1
    clear m1 m2
    go_wp2_with fail
    refine (HCI.out _).mono ?_
    rintro e u2 ⟨v, rfl, m1, m2, C2⟩
    have hO4 := m2 rfl
    rw [HR.out] at hO4
    rcases Flat.own (zs := flatH R) hO4 with ⟨_, hz⟩ | ⟨g4, c4, hv4, lg4, F4, hc4⟩
    · exact absurd hz (by omega)
    subst hv4
    have B2 := bel_tr B1 C2
    have D2 := C2
    have w4 : w.heap.size ≤ g4 := Nat.le_trans B1.size lg4
    have v4 : u1.heap.size ≤ g4 := lg4
    clear m1 m2 hO4
    go_wp2_with fail
    refine (leqH _ _ _ _ R _ F4.hs (hs_below I2 D2) nR).mono ?_
    rintro e u3 ⟨rfl, C3⟩
    have B3 := bel_tr B2 C3
    have D3 := bel_tr D2 C3
    go_wp2_with fail
    have hlR := flat_len R
    refine (lmarkH g4 _ R.length _ _ (F4.next C3) hlR nR).mono ?_
    rintro e u4 ⟨rfl, F10, G10⟩
    have B4 := below_g B3 G10 w4
    have D4 := below_g D3 G10 v4
    clear G10 C3
    go_wp2_with fail
    refine (lheldH g4 _ R.length _ F10 nR).mono ?_
    rintro e w' ⟨rfl, rfl⟩
    go_wp2_with fail
    refine (HCI.out _).mono ?_
    rintro e u5 ⟨v, rfl, m1, m2, C5⟩
    obtain ⟨b12, c12, hv12, I12, _⟩ := own_hs2 (m2 rfl)
    subst hv12
    rw [HR.out] at I12 ⊢
    have B5 := bel_tr B4 C5
    have D5 := bel_tr D4 C5
    clear m1 m2
    go_wp2_with fail
    refine (leqH _ _ _ _ R _ I12 (hs_below I2 D5) nR).mono ?_
    rintro e u6 ⟨rfl, C6⟩
    have B6 := bel_tr B5 C6
    go_wp2_with fail
    refine (lheldH g4 _ R.length _ ((F10.next C5).next C6) nR).mono ?_
    rintro e w' ⟨rfl, rfl⟩
    go_wp2_with fail
    go_ret
    exact ⟨rfl, B6⟩

set_option maxRecDepth 100000 in
theorem lifted (os : Os) (started : os.Started) (H : Type) (enc : TypeId × Value → H) :
    ReturnsInHanded {} Try.checked os 12 .any (Rows.fnExactParseLedgerSpec.pre6 enc Try.prog Try.f12 Rows.fnExactParseLedgerRow.domain false) (Rows.fnExactParseLedgerSpec.post enc Try.prog Try.f12 false true false false) := by
  refine returnsInHanded_of_change (C := Try.checked) own started (by kernel_rfl) Try.func12
    (ChangeSpec.witness6 (enc := enc) (C := Try.checked) false ⟨#[], #[.string ByteArray.empty], []⟩ 8 (by kernel_rfl) (by kernel_rfl) (by kernel_rfl) (by kernel_rfl)) ?_
  intro W base args ds gs before hval0 hW hcnd _
  have hval : ∀ (j : Nat) t v, Try.f12.params[j]? = some t → args[j]? = some v → Value.okWide Try.prog W .any base t v := hval0
  have hW' := hW
  obtain ⟨p, q, hA0, hV, rfl, hfz, hnd⟩ := hW
  have hA : DataW.TrodAll enc Try.prog W 0 (fun _ => true) true Try.f12.params.toList args.toList ds p := hA0
  rw [Try.params12] at hA hval
  obtain ⟨v0, vs0, e0, es0, p0, q0, hargs, rfl, rfl, h0, r0⟩ := trodAll_cons hA
  obtain ⟨rfl, rfl, rfl⟩ := trodAll_nil r0
  obtain rfl : args = #[v0] := by cases args; simp_all
  obtain ⟨rfl, rfl⟩ := trodVars_none hV
  have k0 := h0
  have lt0 : ∀ x ∈ p0, x.block < W.heap.size := by obtain ⟨m, hm⟩ := k0; exact DataW.trod_lt m _ _ _ hm
  obtain ⟨s0, rfl, _, _, w0⟩ := open_string Try.underlying9 (hval 0 9 v0 rfl rfl) h0
  clear hA0 hval0
  refine (walk s0 W w0).mono fun e W' ⟨he, bel⟩ => ?_
  subst he
  exact ⟨_, rfl, _, _, _, [], _, [], hW', trodAll_mk1 (shut_bool Try.underlying4 _), (trodAll_cons_mk (Below.trod laidOut (by kernel_rfl) (of_decide_eq_true (by kernel_rfl)) k0 bel lt0) trodAll_mk0), rfl, bel.frame _, fun h => by cases h⟩

theorem over : Rows.fnExactParseLedgerRow.holds Try.pinned (OpenSpec.ofChange Rows.fnExactParseLedgerSpec) :=
  OpenClaim.holds_of_wide 12 Try.f12 rfl rfl rfl rfl rfl rfl rfl ⟨rfl, rfl, rfl, rfl, rfl⟩ rfl rfl rfl rfl rfl (by kernel_rfl) Try.func12 (by kernel_rfl)
    (of_decide_eq_true (by kernel_rfl)) (by unfold Func.isWrapper; first | (rw [if_pos (by decide +kernel)]; kernel_rfl) | (rw [if_neg (by decide +kernel)]; exact ⟨rfl, rfl⟩))
    (fun os started H enc _ => lifted os started H enc)

end Go.Proofs.Ytdlbjmhjaljlfaa.fnExactParseLedger
namespace Go.Proofs.Ytdlbjmhjaljlfaa
/-- the statement -/
theorem fnExactParseLedger_holds : Rows.FnExactParseLedgerSaid := fnExactParseLedger.over
end Go.Proofs.Ytdlbjmhjaljlfaa
