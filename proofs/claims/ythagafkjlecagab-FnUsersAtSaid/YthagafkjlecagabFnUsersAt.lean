/- For every input the law answers true, and its argument reads afterwards as before: who uses the water. No condition. -/
import Derived.Test.YthagafkjlecagabRows
import Derived.Test.YthagafkjlecagabDrawLt
import Derived.Test.YthagafkjlecagabUsI
import Derived.Test.YthagafkjlecagabUsS
import Derived.Test.YthagafkjlecagabUsW
import Derived.Test.YthagafkjlecagabLsM
import Derived.Test.YthagafkjlecagabEqH
import Derived.Test.YthagafkjlecagabGrA
import Derived.WalkKit
import Derived.ProofKit
import Derived.OpenShut
import Derived.ShutString
import Derived.ChangeOld
import Derived.Below
import Derived.Lib.SmallJoins
namespace Go.Proofs.Ythagafkjlecagab.fnUsersAt
open Go.ChangeShapes Go.WideShapes Go.ChangeAt Go.RowKit Go.Joins
open Go.ChangeMaps (open_string shut_string)
set_option linter.unusedVariables false
set_option linter.unusedSimpArgs false

theorem own : ownKnob Try.prog.godebug = none := by kernel_rfl
theorem laidOut : laidOutB Try.prog = true := by kernel_rfl

set_option maxRecDepth 100000 in
set_option maxHeartbeats 6000000 in
theorem walk (a0 : Option Addr) (len0 cap0 : Nat) (z0 : List Int) (w : World) (w0 : IsRow .u8 w a0 len0 cap0 z0) :
    Calls Try.prog 5 #[.slice a0 len0 cap0] w fun e w' => e = .returned (.bool true) ∧ Below w.heap.size w w' := by
  by_cases big : (1048576 : Int) < (len0 : Int)
  · go_enter Try.func5, Try.ntmps5
    go_wp2
    go_ret
    exact ⟨rfl, Below.refl _ _⟩
  go_enter Try.func5, Try.ntmps5
  go_wp2_with fail
  refine (drawUs a0 len0 cap0 z0 _ w0).mono ?_
  rintro e u1 ⟨b, A, cp, cz, hs, ls, t, rfl, hl6, hlc, hl3, hi, hz, B⟩
  clear w0 big
  have n1 : hs.length ≤ 1048576 := by omega
  have HI := Lib.hid hi
  have HZ := Lib.hid hz
  have D := Below.refl u1.heap.size u1
  clear hi hz
  have CI : ∀ W, Below u1.heap.size u1 W → Calls Try.prog 14 #[.slice b hs.length cp, .slice A ls.length cz, .int .i64 t] W (MoveV W (usB hs ls t) (usL hs ls t)) := fun W hW => iUsers b cp hs A cz ls t W (hs_below HI.out hW) n1 (ls_below HZ.out hW) (by omega)
  have CS : ∀ W, Below u1.heap.size u1 W → Calls Try.prog 11 #[.slice b hs.length cp, .slice A ls.length cz, .int .i64 t] W (MoveV W (usB hs ls t) (usL hs ls t)) := fun W hW => sUsers b cp hs A cz ls t W (hs_below HI.out hW) n1 (ls_below HZ.out hW) (by omega)
  obtain ⟨R, hR⟩ : ∃ R, rawL (usL hs ls t) = R := ⟨_, rfl⟩
  have HR := Lib.hid hR
  cases hv : usB hs ls t with
  | false =>
    rw [hv] at CI CS
    clear hv hR
    go_wp2_with fail
    refine (CI _ D).mono ?_
    rintro e u2 ⟨v, rfl, m1, m2, C⟩
    replace B := bel_tr B C
    replace D := bel_tr D C
    clear C
    obtain rfl := m1 rfl
    clear m1 m2
    go_wp2_with fail
    refine (CS _ D).mono ?_
    rintro e u3 ⟨v, rfl, m1, m2, C⟩
    replace B := bel_tr B C
    replace D := bel_tr D C
    obtain rfl := m1 rfl
    clear m1 m2 C
    go_wp2_with fail
    refine (eqHd none none 0 0 [] _ (.inl rfl) (.inl rfl) (by decide)).mono ?_
    rintro e u ⟨rfl, C⟩
    replace B := bel_tr B C
    replace D := bel_tr D C
    clear C
    go_wp2_with fail
    refine (eqHd none none 0 0 [] _ (.inl rfl) (.inl rfl) (by decide)).mono ?_
    rintro e u ⟨rfl, C⟩
    replace B := bel_tr B C
    replace D := bel_tr D C
    clear C
    go_wp2_with fail
    go_ret
    exact ⟨rfl, B⟩
  | true =>
    have hR0 := us_small hv
    rw [hR] at hR0
    obtain ⟨_, nR⟩ := hR0
    have HS : Hid ((∀ k, k < ls.length → atB (ls.getD k lr0) t = false) → R = hs) := fun h => by rw [← hR]; exact us_same hv h
    have HV : Hid (vlR R = true) := by show _ = _; rw [← hR]; exact (us_vl hv).1
    rw [hv] at CI CS
    clear hv hR
    go_wp2_with fail
    refine (CI _ D).mono ?_
    rintro e u2 ⟨v, rfl, m1, m2, C⟩
    replace B := bel_tr B C
    replace D := bel_tr D C
    clear C
    have hO2 := m2 rfl
    rw [HR.out] at hO2
    obtain ⟨b2, c2, rfl, I2, _⟩ := own_hs2 hO2
    have E2 := Below.refl u2.heap.size u2
    clear m1 m2 hO2
    go_wp2_with fail
    refine (CS _ D).mono ?_
    rintro e u3 ⟨v, rfl, m1, m2, C⟩
    replace B := bel_tr B C
    replace D := bel_tr D C
    have hO3 := m2 rfl
    rw [HR.out] at hO3
    obtain ⟨b3, c3, rfl, I3, _⟩ := own_hs2 hO3
    replace I2 := hs_below I2 C
    clear m1 m2 hO3 C E2
    have E := Below.refl u3.heap.size u3
    go_wp2_with fail
    refine (eqHd b2 b3 _ _ R _ (hs_below I2 E) (hs_below I3 E) nR).mono ?_
    rintro e u ⟨rfl, C⟩
    replace B := bel_tr B C
    replace D := bel_tr D C
    replace E := bel_tr E C
    clear C
    go_wp2_with fail
    obtain ⟨w8, hw8⟩ : ∃ y, y = u := ⟨_, rfl⟩
    subst hw8
    have HZ2 := Lib.hid (ls_below HZ.out D)
    go_loop [10, 11] (fun r i => ∃ (k : Nat) (q : Bool), k ≤ ls.length ∧ i = .int .i64 (k : Int) ∧ r = .bool q ∧ (q = false → ∀ j, j < k → atB (ls.getD j lr0) t = false)) (fun _ i => ls.length - (intOf i).toNat)
    case atStart => exact ⟨0, false, Nat.zero_le _, rfl, rfl, fun _ j hj => absurd hj (Nat.not_lt_zero _)⟩
    case round =>
      obtain ⟨k, q, hk, rfl, rfl, hq⟩ := hrel
      have HQ := Lib.hid hq
      clear hq
      by_cases hlt : k < ls.length
      · rcases HZ2.out with hd0 | ⟨g, o, rfl, hg⟩
        · rw [hd0] at hlt; exact absurd hlt (Nat.not_lt_zero _)
        obtain ⟨_, _, _, _, c4, c5⟩ := hg k hlt
        have HN : Hid (∀ q', (q' = false → q = false ∧ atB (ls.getD k lr0) t = false) → (q' = false → ∀ j, j < k + 1 → atB (ls.getD j lr0) t = false)) := fun q' h e j hj => by
          obtain ⟨a, b⟩ := h e
          by_cases hjk : j = k
          · subst hjk; exact b
          · exact HQ.out a j (by omega)
        have k0 : (0 : Int) ≤ (k : Int) := by omega
        have k1 : (k : Int) < (ls.length : Int) := by omega
        clear hg
        unfold atB at HN
        generalize (ls.getD k lr0).fr = f4 at c4 HN
        generalize (ls.getD k lr0).en = e5 at c5 HN
        cases q with
        | true =>
          have HT := HN.out true (fun c => by cases c)
          clear HN
          go_wp2_with fail
          go_round
          case rel => exact ⟨k + 1, true, by omega, by go_num, rfl, fun c => by cases c⟩
          case measure => simp [intOf]; omega
        | false =>
          by_cases h4 : f4 ≤ t
          · by_cases h5 : t < e5
            · clear HN
              go_wp2_with fail
              go_round
              case rel => exact ⟨k + 1, true, by omega, by go_num, rfl, fun c => by cases c⟩
              case measure => simp [intOf]; omega
            · have HT := Lib.hid (HN.out false (fun _ => ⟨rfl, by rw [decide_eq_false h5, Bool.and_false]⟩))
              clear HN
              go_wp2_with fail
              go_round
              case rel => exact ⟨k + 1, false, by omega, by go_num, rfl, HT.out⟩
              case measure => simp [intOf]; omega
          · have HT := Lib.hid (HN.out false (fun _ => ⟨rfl, by rw [decide_eq_false h4]; rfl⟩))
            clear HN
            go_wp2_with fail
            go_round
            case rel => exact ⟨k + 1, false, by omega, by go_num, rfl, HT.out⟩
            case measure => simp [intOf]; omega
      · obtain rfl : k = ls.length := by omega
        go_wp2_with fail
        refine (iVL b2 c2 R _ (hs_below I2 E) nR).mono ?_
        rw [HV.out]
        rintro e u9 ⟨rfl, C⟩
        replace B := bel_tr B C
        replace D := bel_tr D C
        replace E := bel_tr E C
        clear C
        cases q with
        | true =>
          go_wp2_with fail
          go_ret
          exact ⟨rfl, B⟩
        | false =>
          have hsame := HS.out (HQ.out rfl)
          go_wp2_with fail
          refine (eqHd b2 b _ _ hs _ (by rw [← hsame]; exact hs_below I2 E) (hs_below HI.out D) n1).mono ?_
          rintro e u ⟨rfl, C⟩
          replace B := bel_tr B C
          clear C
          go_wp2_with fail
          go_ret
          exact ⟨rfl, B⟩

set_option maxRecDepth 100000 in
theorem lifted (os : Os) (started : os.Started) (H : Type) (enc : TypeId × Value → H) :
    ReturnsInHanded {} Try.checked os 5 .any (Rows.fnUsersAtSpec.pre6 enc Try.prog Try.f5 Rows.fnUsersAtRow.domain false) (Rows.fnUsersAtSpec.post enc Try.prog Try.f5 false true false false) := by
  refine returnsInHanded_of_change (C := Try.checked) own started (by kernel_rfl) Try.func5
    (ChangeSpec.witness6 (enc := enc) (C := Try.checked) false ⟨#[], #[.slice none 0 0], []⟩ 8 (by kernel_rfl) (by kernel_rfl) (by kernel_rfl) (by kernel_rfl)) ?_
  intro W base args ds gs before hval0 hW hcnd _
  have hval : ∀ (j : Nat) t v, Try.f5.params[j]? = some t → args[j]? = some v → Value.okWide Try.prog W .any base t v := hval0
  have hW' := hW
  obtain ⟨p, q, hA0, hV, rfl, hfz, hnd⟩ := hW
  have hA : DataW.TrodAll enc Try.prog W 0 (fun _ => true) true Try.f5.params.toList args.toList ds p := hA0
  rw [Try.params5] at hA hval
  obtain ⟨v0, vs0, e0, es0, p0, q0, hargs, rfl, rfl, h0, r0⟩ := trodAll_cons hA
  obtain ⟨rfl, rfl, rfl⟩ := trodAll_nil r0
  obtain rfl : args = #[v0] := by cases args; simp_all
  obtain ⟨rfl, rfl⟩ := trodVars_none hV
  have k0 := h0
  have lt0 : ∀ x ∈ p0, x.block < W.heap.size := by obtain ⟨m, hm⟩ := k0; exact DataW.trod_lt m _ _ _ hm
  obtain ⟨a0, len0, cap0, rfl⟩ := okWide_slice Try.underlying37 (hval 0 37 v0 rfl rfl)
  obtain ⟨z0, w0⟩ : ∃ zs, IsRow .u8 W a0 len0 cap0 zs := by
    obtain ⟨fuel, hf⟩ := h0
    rcases open_ints Try.underlying37 Try.underlying5 (by kernel_rfl) hf with ⟨hcs, _⟩ | ⟨x, l, c, zs, hcs, _, hl, hm, hz, _, hcell, hwz⟩
    · simp [Value.cells] at hcs
      obtain ⟨rfl, rfl, rfl⟩ := hcs
      exact ⟨[], .inl ⟨rfl, rfl, rfl, rfl⟩⟩
    · simp [Value.cells] at hcs
      obtain ⟨rfl, rfl, rfl⟩ := hcs
      exact ⟨zs, .inr ⟨_, rfl, hl, hm, by simpa using hz, hcell, hwz⟩⟩
  clear hA0 hval0
  refine (walk a0 len0 cap0 z0 W w0).mono fun e W' ⟨he, bel⟩ => ?_
  subst he
  exact ⟨_, rfl, _, _, _, [], _, [], hW', trodAll_mk1 (shut_bool Try.underlying4 _), (trodAll_cons_mk (Below.trod laidOut (by kernel_rfl) (of_decide_eq_true (by kernel_rfl)) k0 bel lt0) trodAll_mk0), rfl, bel.frame _, fun h => by cases h⟩

theorem over : Rows.fnUsersAtRow.holds Try.pinned (OpenSpec.ofChange Rows.fnUsersAtSpec) :=
  OpenClaim.holds_of_wide 5 Try.f5 rfl rfl rfl rfl rfl rfl rfl ⟨rfl, rfl, rfl, rfl, rfl⟩ rfl rfl rfl rfl rfl (by kernel_rfl) Try.func5 (by kernel_rfl)
    (of_decide_eq_true (by kernel_rfl)) (by unfold Func.isWrapper; first | (rw [if_pos (by decide +kernel)]; kernel_rfl) | (rw [if_neg (by decide +kernel)]; exact ⟨rfl, rfl⟩))
    (fun os started H enc _ => lifted os started H enc)

end Go.Proofs.Ythagafkjlecagab.fnUsersAt
namespace Go.Proofs.Ythagafkjlecagab
/-- the statement -/
theorem fnUsersAt_holds : Rows.FnUsersAtSaid := fnUsersAt.over
end Go.Proofs.Ythagafkjlecagab
