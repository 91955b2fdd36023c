/- For every input the law answers true, and its argument reads afterwards as before: one heir gets all. No condition. -/
import Derived.Test.YtppnhhnilnikfaaRows
import Derived.Test.YtppnhhnilnikfaaDrawHf
import Derived.Test.YtppnhhnilnikfaaLedP
import Derived.Test.YtppnhhnilnikfaaEqH
import Derived.Test.YtppnhhnilnikfaaKeep
import Derived.Test.YtppnhhnilnikfaaJoinS
import Derived.Test.YtppnhhnilnikfaaSellI
import Derived.WalkKit
import Derived.Deep.RegionHeld3
import Derived.Deep.QuietTactic
import Derived.ProofKit
import Derived.OpenShut
import Derived.ShutString
import Derived.ChangeOld
import Derived.Below
import Derived.Lib.SmallJoins
namespace Go.Proofs.Ytppnhhnilnikfaa.fnInheritShareOne
open Go.ChangeShapes Go.WideShapes Go.ChangeAt Go.RowKit Go.Joins
open Go.ChangeMaps (open_string shut_string)
set_option linter.unusedVariables false
set_option linter.unusedSimpArgs false

theorem own : ownKnob Try.prog.godebug = none := by kernel_rfl
theorem laidOut : laidOutB Try.prog = true := by kernel_rfl

set_option maxRecDepth 100000 in
set_option maxHeartbeats 6000000 in
theorem walk (a0 : Option Addr) (len0 cap0 : Nat) (z0 : List Int) (w : World) (w0 : IsRow .u8 w a0 len0 cap0 z0) :
    Calls Try.prog 7 #[.slice a0 len0 cap0] w fun e w' => e = .returned (.bool true) ∧ Below w.heap.size w w' := by
  by_cases big : (1048576 : Int) < (len0 : Int)
  · go_enter Try.func7, Try.ntmps7
    go_wp2
    go_ret
    exact ⟨rfl, Below.refl _ _⟩
  go_enter Try.func7, Try.ntmps7
  go_wp2_with fail
  refine (drawJoinShares a0 len0 cap0 z0 _ w0).mono ?_
  rintro e u1 ⟨b, cp, hs, q, t, rfl, hl6, hlc, hi, B⟩
  clear w0 big
  have hwu := B.size
  have n1 : hs.length ≤ 1048576 := by omega
  have HI := Lib.hid hi
  have D := Below.refl u1.heap.size u1
  clear hi
  have CI := iJoin b cp hs q t u1 HI.out n1 hlc
  have CS : ∀ W, Below u1.heap.size u1 W → Calls Try.prog 29 #[.slice b hs.length cp, .int .i64 q, .int .i64 t] W (MoveV W (joinB hs q t) (joinL' hs q t)) := fun W hW => sJoin b cp hs q t W (hs_below HI.out hW) n1
  cases hv : joinB hs q t with
  | false =>
    rw [hv] at CI CS
    have CE : ∀ W, Calls Try.prog 22 #[.slice none 0 0, .slice none 0 0] W fun e w' => e = .returned (.bool true) ∧ Below W.heap.size W w' := fun W => eqHd none none 0 0 [] W (.inl rfl) (.inl rfl) (by decide)
    clear hv
    go_wp2_with fail
    refine CI.mono ?_
    rintro e u ⟨v, rfl, hv0, _, C⟩
    obtain rfl := hv0 rfl
    replace B := bel_tr B C
    replace D := bel_tr D C
    clear C hv0 CI
    go_wp2_with fail
    refine (CS _ D).mono ?_
    rintro e u ⟨v, rfl, hv0, _, C⟩
    obtain rfl := hv0 rfl
    replace B := bel_tr B C
    replace D := bel_tr D C
    clear C hv0 CS
    go_wp2_with fail
    refine (CE _).mono ?_
    rintro e u ⟨rfl, C⟩
    replace B := bel_tr B C
    clear C
    go_wp2_with fail
    refine (CE _).mono ?_
    rintro e u ⟨rfl, C⟩
    replace B := bel_tr B C
    clear C
    go_wp2_with fail
    go_ret
    exact ⟨rfl, B⟩
  | true =>
    rw [hv] at CI CS
    obtain ⟨j1, j2, j3, j4⟩ := inh_one hv
    obtain ⟨n0, n2⟩ := join_small hv
    generalize joinL' hs q t = M0 at CI CS j2 j4 n0 n2
    have J1 := Lib.hid j1
    have J2 := Lib.hid j2
    have J3 := Lib.hid j3
    have J4 := Lib.hid j4
    clear hv j1 j2 j3 j4
    go_wp2_with fail
    refine CI.mono ?_
    rintro e UM ⟨v, rfl, _, hown, C⟩
    replace hown := hown rfl
    obtain ⟨g, co, rfl, _, _⟩ := World.ownsRow.form hown (by omega)
    obtain ⟨hO, hco⟩ := own_ishs hown rfl
    have HI2 := Lib.hid (hs_below (hs_below HI.out D) C)
    replace B := bel_tr B C
    replace D := bel_tr D C
    have E := Below.refl UM.heap.size UM
    have HO := Lib.hid hO
    clear C hown CI hO
    go_wp2_with fail
    refine (CS _ D).mono ?_
    rintro e u ⟨v, rfl, _, hown, C⟩
    replace hown := hown rfl
    obtain ⟨g2, co2, rfl, _, _⟩ := World.ownsRow.form hown (by omega)
    obtain ⟨hO2, _⟩ := own_ishs hown rfl
    replace B := bel_tr B C
    replace D := bel_tr D C
    replace E := bel_tr E C
    clear C hown CS
    go_wp2_with fail
    refine (eqHd _ _ co co2 _ _ (hs_below HO.out E) hO2 n2).mono ?_
    rintro e u ⟨rfl, C⟩
    replace B := bel_tr B C
    replace E := bel_tr E C
    clear C hO2 D
    have CA : ∀ W A, IsInts W A [t] → Below UM.heap.size UM W → Calls Try.prog 24 #[.slice b hs.length cp, .int .i64 q, .slice A 1 1] W (MoveV W true M0) := fun W A hA hW => by
      have := iInherit b cp hs q A 1 [t] W (hs_below HI2.out hW) n1 hlc hA (by simp) (by simp)
      rw [J1.out, J2.out] at this; exact this
    have CB : ∀ W, Below UM.heap.size UM W → Calls Try.prog 20 #[.slice b hs.length cp, .int .i64 q, .int .i64 t, .agg #[.int .i64 (shV hs q).1, .int .i64 (shV hs q).2]] W (MoveV W true M0) := fun W hW => by
      have := iSell b cp hs q t (shV hs q).1 (shV hs q).2 W (hs_below HI2.out hW) n1 hlc
      rw [J3.out, J4.out] at this; exact this
    have CF : ∀ W, Below UM.heap.size UM W → Calls Try.prog 15 #[.slice b hs.length cp, .int .i64 q] W (ShareO W hs q) := fun W hW => iShareOf b cp hs q W (hs_below HI2.out hW) n1
    unfold ShareO at CF
    generalize (shV hs q).1 = x at CB CF
    generalize (shV hs q).2 = y at CB CF
    go_wp2_with fail
    have A1 : IsInts (u.alloc (.cells #[.int .i64 t] 3)) (some ⟨u.heap.size, 0, none⟩) [t] := .inr ⟨_, _, rfl, fun i hi => by obtain rfl : i = 0 := (by simp at hi; omega); simp [go_sem]⟩
    have B1 := B.alloc B.size (.cells #[.int .i64 t] 3)
    have E1 := E.alloc E.size (.cells #[.int .i64 t] 3)
    generalize (some ⟨u.heap.size, 0, none⟩ : Option Addr) = A at A1 ⊢
    generalize u.alloc (.cells #[.int .i64 t] 3) = U at A1 B1 E1 ⊢
    clear B E
    refine (CA _ _ A1 E1).mono ?_
    rintro e UA ⟨v, rfl, _, hown, C⟩
    replace hown := hown rfl
    obtain ⟨ga, ca, rfl, _, _⟩ := World.ownsRow.form hown (by omega)
    have HA := Lib.hid (own_ishs hown rfl).1
    have B := bel_tr B1 C
    have E := bel_tr E1 C
    have F := Below.refl UA.heap.size UA
    clear C hown CA A1 B1 E1
    go_wp2_with fail
    refine (CF _ E).mono ?_
    rintro e u ⟨rfl, C⟩
    replace B := bel_tr B C
    replace E := bel_tr E C
    replace F := bel_tr F C
    clear C CF
    go_wp2_with fail
    refine (CB _ E).mono ?_
    rintro e UB ⟨v, rfl, _, hown, C⟩
    replace hown := hown rfl
    obtain ⟨gb, cb, rfl, _, _⟩ := World.ownsRow.form hown (by omega)
    have HBB := Lib.hid (own_ishs hown rfl).1
    replace B := bel_tr B C
    replace E := bel_tr E C
    replace F := bel_tr F C
    clear C hown CB
    go_wp2_with fail
    refine (eqHd _ _ ca co _ _ (hs_below HA.out F) (hs_below HO.out E) n2).mono ?_
    rintro e u ⟨rfl, C⟩
    replace B := bel_tr B C
    replace E := bel_tr E C
    have hb := hs_below HBB.out C
    clear C F
    go_wp2_with fail
    refine (eqHd _ _ cb co _ _ hb (hs_below HO.out E) n2).mono ?_
    rintro e u ⟨rfl, C⟩
    replace B := bel_tr B C
    clear C E hb
    go_wp2_with fail
    go_ret
    exact ⟨rfl, B⟩

set_option maxRecDepth 100000 in
theorem lifted (os : Os) (started : os.Started) (H : Type) (enc : TypeId × Value → H) :
    ReturnsInHanded {} Try.checked os 7 .any (Rows.fnInheritShareOneSpec.pre6 enc Try.prog Try.f7 Rows.fnInheritShareOneRow.domain false) (Rows.fnInheritShareOneSpec.post enc Try.prog Try.f7 false true false false) := by
  refine returnsInHanded_of_change (C := Try.checked) own started (by kernel_rfl) Try.func7
    (ChangeSpec.witness6 (enc := enc) (C := Try.checked) false ⟨#[], #[.slice none 0 0], []⟩ 8 (by kernel_rfl) (by kernel_rfl) (by kernel_rfl) (by kernel_rfl)) ?_
  intro W base args ds gs before hval0 hW hcnd _
  have hval : ∀ (j : Nat) t v, Try.f7.params[j]? = some t → args[j]? = some v → Value.okWide Try.prog W .any base t v := hval0
  have hW' := hW
  obtain ⟨p, q, hA0, hV, rfl, hfz, hnd⟩ := hW
  have hA : DataW.TrodAll enc Try.prog W 0 (fun _ => true) true Try.f7.params.toList args.toList ds p := hA0
  rw [Try.params7] at hA hval
  obtain ⟨v0, vs0, e0, es0, p0, q0, hargs, rfl, rfl, h0, r0⟩ := trodAll_cons hA
  obtain ⟨rfl, rfl, rfl⟩ := trodAll_nil r0
  obtain rfl : args = #[v0] := by cases args; simp_all
  obtain ⟨rfl, rfl⟩ := trodVars_none hV
  have k0 := h0
  have lt0 : ∀ x ∈ p0, x.block < W.heap.size := by obtain ⟨m, hm⟩ := k0; exact DataW.trod_lt m _ _ _ hm
  obtain ⟨a0, len0, cap0, rfl⟩ := okWide_slice Try.underlying22 (hval 0 22 v0 rfl rfl)
  obtain ⟨z0, w0⟩ : ∃ zs, IsRow .u8 W a0 len0 cap0 zs := by
    obtain ⟨fuel, hf⟩ := h0
    rcases open_ints Try.underlying22 Try.underlying5 (by kernel_rfl) hf with ⟨hcs, _⟩ | ⟨x, l, c, zs, hcs, _, hl, hm, hz, _, hcell, hwz⟩
    · simp [Value.cells] at hcs
      obtain ⟨rfl, rfl, rfl⟩ := hcs
      exact ⟨[], .inl ⟨rfl, rfl, rfl, rfl⟩⟩
    · simp [Value.cells] at hcs
      obtain ⟨rfl, rfl, rfl⟩ := hcs
      exact ⟨zs, .inr ⟨_, rfl, hl, hm, by simpa using hz, hcell, hwz⟩⟩
  clear hA0 hval0
  refine (walk a0 len0 cap0 z0 W w0).mono fun e W' ⟨he, bel⟩ => ?_
  subst he
  exact ⟨_, rfl, _, _, _, [], _, [], hW', trodAll_mk1 (shut_bool Try.underlying4 _), (trodAll_cons_mk (Below.trod laidOut (by kernel_rfl) (of_decide_eq_true (by kernel_rfl)) k0 bel lt0) trodAll_mk0), rfl, bel.frame _, fun h => by cases h⟩

theorem over : Rows.fnInheritShareOneRow.holds Try.pinned (OpenSpec.ofChange Rows.fnInheritShareOneSpec) :=
  OpenClaim.holds_of_wide 7 Try.f7 rfl rfl rfl rfl rfl rfl rfl ⟨rfl, rfl, rfl, rfl, rfl⟩ rfl rfl rfl rfl rfl (by kernel_rfl) Try.func7 (by kernel_rfl)
    (of_decide_eq_true (by kernel_rfl)) (by unfold Func.isWrapper; first | (rw [if_pos (by decide +kernel)]; kernel_rfl) | (rw [if_neg (by decide +kernel)]; exact ⟨rfl, rfl⟩))
    (fun os started H enc _ => lifted os started H enc)

end Go.Proofs.Ytppnhhnilnikfaa.fnInheritShareOne
namespace Go.Proofs.Ytppnhhnilnikfaa
/-- the statement -/
theorem fnInheritShareOne_holds : Rows.FnInheritShareOneSaid := fnInheritShareOne.over
end Go.Proofs.Ytppnhhnilnikfaa
