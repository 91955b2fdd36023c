/- For every input the law answers true, and its argument reads afterwards as before: ledgers are written back. No condition. -/
import Derived.Test.YtdlbjmhjaljlfaaRows
import Derived.Test.YtdlbjmhjaljlfaaDrawLp
import Derived.Test.YtdlbjmhjaljlfaaLgpR
import Derived.Test.YtdlbjmhjaljlfaaLgtI
import Derived.Test.YtdlbjmhjaljlfaaEqH
import Derived.WalkKit
import Derived.ProofKit
import Derived.OpenShut
import Derived.ShutString
import Derived.ChangeOld
import Derived.Below
import Derived.Lib.SmallJoins
namespace Go.Proofs.Ytdlbjmhjaljlfaa.fnParseLedger
open Go.ChangeShapes Go.WideShapes Go.ChangeAt Go.RowKit Go.Joins
open Go.ChangeMaps (open_string shut_string)
set_option linter.unusedVariables false
set_option linter.unusedSimpArgs false

theorem own : ownKnob Try.prog.godebug = none := by kernel_rfl
theorem laidOut : laidOutB Try.prog = true := by kernel_rfl

set_option maxRecDepth 100000 in
set_option maxHeartbeats 6000000 in
theorem walk (a0 : Option Addr) (len0 cap0 : Nat) (z0 : List Int) (w : World) (w0 : IsRow .u8 w a0 len0 cap0 z0) :
    Calls Try.prog 7 #[.slice a0 len0 cap0] w fun e w' => e = .returned (.bool true) ∧ Below w.heap.size w w' := by
  by_cases big : (1048576 : Int) < (len0 : Int)
  · go_enter Try.func7, Try.ntmps7
    go_wp2
    go_ret
    exact ⟨rfl, Below.refl _ _⟩
  go_enter Try.func7, Try.ntmps7
  go_wp2_with fail
  refine (drawParseLedger a0 len0 cap0 z0 _ w0).mono ?_
  rintro e u1 ⟨s, rfl, hz, B⟩
  clear w0 big
  have CI : ∀ W, Calls Try.prog 27 #[.string s] W (ParL W s) := fun W => iParL s W (by omega)
  have CS : ∀ W, Calls Try.prog 30 #[.string s] W (ParL W s) := fun W => sParL s W (by omega)
  unfold ParL at CI CS
  cases hv : plB s with
  | false =>
    rw [hv] at CI CS
    have HCI : Hid (∀ W, Calls Try.prog 27 #[.string s] W fun e w' => e = .returned (.tuple #[.slice none 0 0, .bool false]) ∧ Below W.heap.size W w') := Lib.hid (fun W => (CI W).mono fun e w' h => by
      obtain ⟨v, h1, h2, _, h4⟩ := h
      rw [h2 rfl] at h1; exact ⟨h1, h4⟩)
    have HCS : Hid (∀ W, Calls Try.prog 30 #[.string s] W fun e w' => e = .returned (.tuple #[.slice none 0 0, .bool false]) ∧ Below W.heap.size W w') := Lib.hid (fun W => (CS W).mono fun e w' h => by
      obtain ⟨v, h1, h2, _, h4⟩ := h
      rw [h2 rfl] at h1; exact ⟨h1, h4⟩)
    have CE := fun W => eqHd none none 0 0 [] W (.inl rfl) (.inl rfl) (by simp)
    have HCE : Hid (∀ W, Calls Try.prog 21 #[.slice none 0 0, .slice none 0 0] W fun e w' => e = .returned (.bool true) ∧ Below W.heap.size W w') := Lib.hid CE
    clear CI CS CE hv
    go_wp2_with fail
    refine (HCI.out _).mono ?_
    rintro e u ⟨rfl, C⟩
    replace B := bel_tr B C
    clear C
    go_wp2_with fail
    refine (HCS.out _).mono ?_
    rintro e u ⟨rfl, C⟩
    replace B := bel_tr B C
    clear C
    go_wp2_with fail
    refine (HCE.out _).mono ?_
    rintro e u ⟨rfl, C⟩
    replace B := bel_tr B C
    clear C
    go_wp2_with fail
    refine (HCE.out _).mono ?_
    rintro e u ⟨rfl, C⟩
    replace B := bel_tr B C
    clear C
    go_wp2_with fail
    go_ret
    exact ⟨rfl, B⟩
  | true =>
    rw [hv] at CI CS
    obtain ⟨hr, ht⟩ := text_par hv
    have h12 := vl_len hr
    have hraw := (vlR_is hr).1
    generalize plL s = hs at *
    have mk : ∀ F : Nat, (∀ W, Calls Try.prog F #[.string s] W (MoveV W true (ledOf hs))) → ∀ W, Calls Try.prog F #[.string s] W fun e w' => ∃ (b : Option Addr) (c : Nat), e = .returned (.tuple #[.slice b hs.length c, .bool true]) ∧ IsHs w' b hs ∧ Below W.heap.size W w' := fun F h W => (h W).mono fun e w' h => by
      obtain ⟨v, h1, _, h3, h4⟩ := h
      have h3 := h3 rfl
      rw [hraw] at h3
      obtain ⟨b, c, rfl, I⟩ := own_hs h3
      exact ⟨b, c, h1, I, h4⟩
    have HCI := Lib.hid (mk _ CI)
    have HCS := Lib.hid (mk _ CS)
    have n1 : hs.length ≤ 1048576 := by omega
    have HF : Hid (∀ (b : Option Addr) (c : Nat) (W : World), IsHs W b hs → Calls Try.prog 25 #[.slice b hs.length c] W fun e w' => e = .returned (.string s) ∧ Below W.heap.size W w') := Lib.hid (fun b c W h => by have := iFmtL b c hs W h n1; rw [ht] at this; exact this)
    have HVL : Hid (∀ (b : Option Addr) (c : Nat) (W : World), IsHs W b hs → Calls Try.prog 22 #[.slice b hs.length c] W fun e w' => e = .returned (.bool true) ∧ Below W.heap.size W w') := Lib.hid (fun b c W h => by have := iVL b c hs W h n1; rw [hr] at this; exact this)
    have hss : (s.toList == s.toList) = true := by simp
    clear CI CS hv mk hr ht hraw h12
    go_wp2_with fail
    refine (HCI.out _).mono ?_
    rintro e u2 ⟨b1, c1, rfl, I1, C⟩
    replace B := bel_tr B C
    clear C
    go_wp2_with fail
    refine (HCS.out _).mono ?_
    rintro e u3 ⟨b2, c2, rfl, I2, C⟩
    replace B := bel_tr B C
    replace I1 := hs_below I1 C
    clear C
    go_wp2_with fail
    refine (eqHd b1 b2 c1 c2 hs _ I1 I2 n1).mono ?_
    rintro e u4 ⟨rfl, C⟩
    replace B := bel_tr B C
    replace I1 := hs_below I1 C
    clear C I2
    go_wp2_with fail
    refine (HF.out _ _ _ I1).mono ?_
    rintro e u5 ⟨rfl, C⟩
    replace B := bel_tr B C
    replace I1 := hs_below I1 C
    clear C
    go_wp2_with fail
    refine (HVL.out _ _ _ I1).mono ?_
    rintro e u6 ⟨rfl, C⟩
    replace B := bel_tr B C
    clear C
    go_wp2_with fail
    go_ret
    exact ⟨rfl, B⟩

set_option maxRecDepth 100000 in
theorem lifted (os : Os) (started : os.Started) (H : Type) (enc : TypeId × Value → H) :
    ReturnsInHanded {} Try.checked os 7 .any (Rows.fnParseLedgerSpec.pre6 enc Try.prog Try.f7 Rows.fnParseLedgerRow.domain false) (Rows.fnParseLedgerSpec.post enc Try.prog Try.f7 false true false false) := by
  refine returnsInHanded_of_change (C := Try.checked) own started (by kernel_rfl) Try.func7
    (ChangeSpec.witness6 (enc := enc) (C := Try.checked) false ⟨#[], #[.slice none 0 0], []⟩ 8 (by kernel_rfl) (by kernel_rfl) (by kernel_rfl) (by kernel_rfl)) ?_
  intro W base args ds gs before hval0 hW hcnd _
  have hval : ∀ (j : Nat) t v, Try.f7.params[j]? = some t → args[j]? = some v → Value.okWide Try.prog W .any base t v := hval0
  have hW' := hW
  obtain ⟨p, q, hA0, hV, rfl, hfz, hnd⟩ := hW
  have hA : DataW.TrodAll enc Try.prog W 0 (fun _ => true) true Try.f7.params.toList args.toList ds p := hA0
  rw [Try.params7] at hA hval
  obtain ⟨v0, vs0, e0, es0, p0, q0, hargs, rfl, rfl, h0, r0⟩ := trodAll_cons hA
  obtain ⟨rfl, rfl, rfl⟩ := trodAll_nil r0
  obtain rfl : args = #[v0] := by cases args; simp_all
  obtain ⟨rfl, rfl⟩ := trodVars_none hV
  have k0 := h0
  have lt0 : ∀ x ∈ p0, x.block < W.heap.size := by obtain ⟨m, hm⟩ := k0; exact DataW.trod_lt m _ _ _ hm
  obtain ⟨a0, len0, cap0, rfl⟩ := okWide_slice Try.underlying22 (hval 0 22 v0 rfl rfl)
  obtain ⟨z0, w0⟩ : ∃ zs, IsRow .u8 W a0 len0 cap0 zs := by
    obtain ⟨fuel, hf⟩ := h0
    rcases open_ints Try.underlying22 Try.underlying5 (by kernel_rfl) hf with ⟨hcs, _⟩ | ⟨x, l, c, zs, hcs, _, hl, hm, hz, _, hcell, hwz⟩
    · simp [Value.cells] at hcs
      obtain ⟨rfl, rfl, rfl⟩ := hcs
      exact ⟨[], .inl ⟨rfl, rfl, rfl, rfl⟩⟩
    · simp [Value.cells] at hcs
      obtain ⟨rfl, rfl, rfl⟩ := hcs
      exact ⟨zs, .inr ⟨_, rfl, hl, hm, by simpa using hz, hcell, hwz⟩⟩
  clear hA0 hval0
  refine (walk a0 len0 cap0 z0 W w0).mono fun e W' ⟨he, bel⟩ => ?_
  subst he
  exact ⟨_, rfl, _, _, _, [], _, [], hW', trodAll_mk1 (shut_bool Try.underlying4 _), (trodAll_cons_mk (Below.trod laidOut (by kernel_rfl) (of_decide_eq_true (by kernel_rfl)) k0 bel lt0) trodAll_mk0), rfl, bel.frame _, fun h => by cases h⟩

theorem over : Rows.fnParseLedgerRow.holds Try.pinned (OpenSpec.ofChange Rows.fnParseLedgerSpec) :=
  OpenClaim.holds_of_wide 7 Try.f7 rfl rfl rfl rfl rfl rfl rfl ⟨rfl, rfl, rfl, rfl, rfl⟩ rfl rfl rfl rfl rfl (by kernel_rfl) Try.func7 (by kernel_rfl)
    (of_decide_eq_true (by kernel_rfl)) (by unfold Func.isWrapper; first | (rw [if_pos (by decide +kernel)]; kernel_rfl) | (rw [if_neg (by decide +kernel)]; exact ⟨rfl, rfl⟩))
    (fun os started H enc _ => lifted os started H enc)

end Go.Proofs.Ytdlbjmhjaljlfaa.fnParseLedger
namespace Go.Proofs.Ytdlbjmhjaljlfaa
/-- the statement -/
theorem fnParseLedger_holds : Rows.FnParseLedgerSaid := fnParseLedger.over
end Go.Proofs.Ytdlbjmhjaljlfaa
