/- For every input the law answers true, and its argument reads afterwards as before: deeds follow each other. No condition. -/
import Derived.Test.YtaehemmjemhgpaaRows
import Derived.Test.YtaehemmjemhgpaaPBG8
import Derived.Test.YtaehemmjemhgpaaPBG7
import Derived.Test.YtaehemmjemhgpaaPBG1
import Derived.Test.YtaehemmjemhgpaaPBG0
import Derived.WalkKit
import Derived.ProofKit
import Derived.OpenShut
import Derived.ShutString
import Derived.ChangeOld
import Derived.Below
import Derived.Lib.SmallJoins
set_option maxRecDepth 100000
set_option maxHeartbeats 16000000
namespace Go.Proofs.Ytaehemmjemhgpaa.fnRunDeeds
open Go.ChangeShapes Go.WideShapes Go.ChangeAt Go.RowKit Go.Joins
open Go.ChangeMaps (open_string shut_string)
set_option linter.unusedVariables false
set_option linter.unusedSimpArgs false

theorem own : ownKnob Try.prog.godebug = none := by kernel_rfl
theorem laidOut : laidOutB Try.prog = true := by kernel_rfl
theorem dds_cut {w : World} {A : Option Addr} {ds : List Dd} {cz : Nat} (h : IsDds w A ds) (hc : ds.length ≤ cz) (k : Nat) (hk : k ≤ ds.length) : IsDds w (if cz = k then A else A.map (fun a => a.add (k * 6))) (ds.drop k) := by
  by_cases e : cz = k
  · left
    exact List.drop_eq_nil_of_le (by omega)
  · rw [if_neg e]
    rcases h with h0 | ⟨g, o, rfl, hc'⟩
    · left; rw [h0]; exact List.drop_nil
    · have := dds_drop (k := k) (show IsDds w (some ⟨g, o, none⟩) ds from .inr ⟨g, o, rfl, hc'⟩)
      show IsDds w (some ((⟨g, o, none⟩ : Addr).add (k * 6))) _
      rw [add_off]
      exact this

theorem walk (a0 : Option Addr) (len0 cap0 : Nat) (z0 : List Int) (w : World) (w0 : IsRow .u8 w a0 len0 cap0 z0) :
    Calls Try.prog 3 #[.slice a0 len0 cap0] w fun e w' => e = .returned (.bool true) ∧ Below w.heap.size w w' := by
  by_cases big : (1048576 : Int) < (len0 : Int)
  · go_enter Try.func3, Try.ntmps3
    go_wp2
    go_ret
    exact ⟨rfl, Below.refl _ _⟩
  go_enter Try.func3, Try.ntmps3
  go_wp2_with fail
  refine (drawRd a0 len0 cap0 z0 _ w0).mono ?_
  rintro e u1 ⟨b, A, cp, cz, hs, ds, rfl, hl6, hlc, hd5, hdc, hi, hz, B⟩
  clear w0 big
  have n1 : hs.length ≤ 1048576 := by omega
  have HI := Lib.hid hi
  have HZ := Lib.hid hz
  have D := Below.refl u1.heap.size u1
  clear hi hz
  have CI : ∀ W, Below u1.heap.size u1 W → Calls Try.prog 13 #[.slice b hs.length cp, .slice A ds.length cz] W (MoveV W (rdB hs ds) (rdL hs ds)) := fun W hW => iRunDeeds b cp hs A cz ds W (hs_below HI.out hW) n1 hlc (dds_below HZ.out hW) (by omega)
  have CS : ∀ W, Below u1.heap.size u1 W → Calls Try.prog 14 #[.slice b hs.length cp, .slice A ds.length cz] W (MoveV W (rdB hs ds) (rdL hs ds)) := fun W hW => sRunDeeds b cp hs A cz ds W (hs_below HI.out hW) n1 hlc (dds_below HZ.out hW) (by omega)
  obtain ⟨R, hR⟩ : ∃ R, rawL (rdL hs ds) = R := ⟨_, rfl⟩
  have HR := Lib.hid hR
  cases hv : rdB hs ds with
  | false =>
    rw [hv] at CI CS
    clear hv hR
    go_wp2_with fail
    refine (CI _ D).mono ?_
    rintro e u2 ⟨v, rfl, m1, m2, C⟩
    replace B := bel_tr B C
    replace D := bel_tr D C
    clear C
    obtain rfl := m1 rfl
    clear m1 m2
    go_wp2_with fail
    refine (CS _ D).mono ?_
    rintro e u3 ⟨v, rfl, m1, m2, C⟩
    replace B := bel_tr B C
    replace D := bel_tr D C
    obtain rfl := m1 rfl
    clear m1 m2 C
    go_wp2_with fail
    refine (eqHd none none 0 0 [] _ (.inl rfl) (.inl rfl) (by decide)).mono ?_
    rintro e u ⟨rfl, C⟩
    replace B := bel_tr B C
    replace D := bel_tr D C
    clear C
    go_wp2_with fail
    refine (eqHd none none 0 0 [] _ (.inl rfl) (.inl rfl) (by decide)).mono ?_
    rintro e u ⟨rfl, C⟩
    replace B := bel_tr B C
    replace D := bel_tr D C
    clear C
    go_wp2_with fail
    go_ret
    exact ⟨rfl, B⟩
  | true =>
    obtain ⟨k, hk⟩ : ∃ k, k = ds.length / 2 := ⟨_, rfl⟩
    have hkl : k ≤ ds.length := by omega
    obtain ⟨x1, x2, x3⟩ := rdd_cut k hv
    have nR : R.length ≤ 1048576 := by rw [← hR]; have := vlR_small (rdd_valid hv); omega
    have HV : Hid (vlR R = true) := by show _ = _; rw [← hR]; exact rdd_valid hv
    obtain ⟨M, hM⟩ : ∃ M, rawL (rdL hs (ds.take k)) = M := ⟨_, rfl⟩
    have HM := Lib.hid hM
    rw [hM] at x2 x3
    have nM : M.length ≤ 1048576 := by rw [← hM]; have := vlR_small (rdd_valid x1); omega
    have HR2 : Hid (rawL (rdL M (ds.drop k)) = R) := by show _ = _; rw [x3, hR]
    have C1 : Hid (∀ W, Below u1.heap.size u1 W → Calls Try.prog 13 #[.slice b hs.length cp, .slice A k cz] W (MoveV W true (rdL hs (ds.take k)))) := fun W hW => by
      have h := iRunDeeds b cp hs A cz (ds.take k) W (hs_below HI.out hW) n1 hlc (dds_take (dds_below HZ.out hW) k) (by rw [List.length_take]; omega)
      rw [x1, List.length_take, Nat.min_eq_left hkl] at h
      exact h
    have t1 : (ds.length : Int).tdiv 2 = (k : Int) := by rw [Int.tdiv_eq_ediv_of_nonneg (by omega), hk]; omega
    have t2 : IntKind.i64.wrap (k : Int) = (k : Int) := by rw [IntKind.wrap_i64]; omega
    have kc0 : (k : Int) ≤ (cz : Int) := by omega
    have kl0 : (k : Int) ≤ (ds.length : Int) := by omega
    have k00 : (0 : Int) ≤ (k : Int) := by omega
    have kcn : (k : Int).toNat = k := by omega
    have n20 := (rdB_is hv).2.1
    have hk2 := Lib.hid hk
    rw [hv] at CI CS
    clear hv hR x1 x3 hM hk
    have hck : Hid (cz = k → ds = [] ∧ cz = 0 ∧ k = 0) := fun e => by
      have h1 := hk2.out
      have : ds.length = 0 := by omega
      exact ⟨List.eq_nil_of_length_eq_zero this, by omega, by omega⟩
    have C2 : Hid (∀ (b4 : Option Addr) (c4 : Nat) W, Below u1.heap.size u1 W → IsHs W b4 M → M.length ≤ c4 → Calls Try.prog 13 #[.slice b4 M.length c4, .slice (if cz = k then A else A.map (fun a => a.add (k * 6))) (ds.length - k) (cz - k)] W (MoveV W true (rdL M (ds.drop k)))) := fun b4 c4 W hW h4 k4 => by
      have h := iRunDeeds b4 c4 M (if cz = k then A else A.map (fun a => a.add (k * 6))) (cz - k) (ds.drop k) W h4 nM k4 (dds_cut (dds_below HZ.out hW) hdc k hkl) (by rw [List.length_drop]; omega)
      rw [x2, List.length_drop] at h
      exact h
    by_cases hcz : cz = k
    · obtain ⟨rfl, rfl, rfl⟩ := hck.out hcz
      clear hcz hck
      go_wp2_with fail
      refine (CI _ D).mono ?_
      rintro e u2 ⟨v, rfl, m1, m2, C⟩
      replace B := bel_tr B C
      replace D := bel_tr D C
      clear C
      have hO2 := m2 rfl
      rw [HR.out] at hO2
      obtain ⟨b2, c2, rfl, I2, k2⟩ := own_hs2 hO2
      clear m1 m2 hO2
      go_wp2_with fail
      refine (CS _ D).mono ?_
      rintro e u3 ⟨v, rfl, m1, m2, C⟩
      replace B := bel_tr B C
      replace D := bel_tr D C
      have hO3 := m2 rfl
      rw [HR.out] at hO3
      obtain ⟨b3, c3, rfl, I3, k3⟩ := own_hs2 hO3
      replace I2 := hs_below I2 C
      clear m1 m2 hO3 C
      go_wp2_with fail
      refine (eqHd b2 b3 c2 c3 R _ I2 I3 nR).mono ?_
      rintro e u4 ⟨rfl, C⟩
      replace B := bel_tr B C
      replace D := bel_tr D C
      replace I2 := hs_below I2 C
      replace I3 := hs_below I3 C
      clear C
      clear I3 k3
      go_wp2_with fail
      refine (C1.out _ D).mono ?_
      rintro e u5 ⟨v, rfl, m1, m2, C⟩
      have hO4 := m2 rfl
      rw [HM.out] at hO4
      obtain ⟨b4, c4, rfl, I4, k4⟩ := own_hs2 hO4
      replace B := bel_tr B C
      replace D := bel_tr D C
      replace I2 := hs_below I2 C
      clear m1 m2 hO4 C
      go_wp2_with fail
      refine (C2.out b4 c4 _ D I4 k4).mono ?_
      rintro e u6 ⟨v, rfl, m1, m2, C⟩
      have hO5 := m2 rfl
      rw [HR2.out] at hO5
      obtain ⟨b5, c5, rfl, I5, k5⟩ := own_hs2 hO5
      replace B := bel_tr B C
      replace D := bel_tr D C
      replace I2 := hs_below I2 C
      clear m1 m2 hO5 C I4
      go_wp2_with fail
      refine (eqHd b5 b2 c5 c2 R _ I5 I2 nR).mono ?_
      rintro e u7 ⟨rfl, C⟩
      replace B := bel_tr B C
      replace I2 := hs_below I2 C
      clear C
      go_wp2_with fail
      refine (iVL b2 c2 R _ I2 nR).mono ?_
      rw [HV.out]
      rintro e u8 ⟨rfl, C⟩
      replace B := bel_tr B C
      clear C
      go_wp2_with fail
      go_ret
      exact ⟨rfl, B⟩
    · have C3 : Hid (∀ (b4 : Option Addr) (c4 : Nat) W, Below u1.heap.size u1 W → IsHs W b4 M → M.length ≤ c4 → Calls Try.prog 13 #[.slice b4 M.length c4, .slice (A.map (fun a => a.add (k * 6))) (ds.length - k) (cz - k)] W (MoveV W true (rdL M (ds.drop k)))) := by
        have h := C2.out
        rw [if_neg hcz] at h
        exact h
      clear C2 hck
      have C2 := C3
      clear C3
      go_wp2_with fail
      refine (CI _ D).mono ?_
      rintro e u2 ⟨v, rfl, m1, m2, C⟩
      replace B := bel_tr B C
      replace D := bel_tr D C
      clear C
      have hO2 := m2 rfl
      rw [HR.out] at hO2
      obtain ⟨b2, c2, rfl, I2, k2⟩ := own_hs2 hO2
      clear m1 m2 hO2
      go_wp2_with fail
      refine (CS _ D).mono ?_
      rintro e u3 ⟨v, rfl, m1, m2, C⟩
      replace B := bel_tr B C
      replace D := bel_tr D C
      have hO3 := m2 rfl
      rw [HR.out] at hO3
      obtain ⟨b3, c3, rfl, I3, k3⟩ := own_hs2 hO3
      replace I2 := hs_below I2 C
      clear m1 m2 hO3 C
      go_wp2_with fail
      refine (eqHd b2 b3 c2 c3 R _ I2 I3 nR).mono ?_
      rintro e u4 ⟨rfl, C⟩
      replace B := bel_tr B C
      replace D := bel_tr D C
      replace I2 := hs_below I2 C
      replace I3 := hs_below I3 C
      clear C
      clear I3 k3
      go_wp2_with fail
      refine (C1.out _ D).mono ?_
      rintro e u5 ⟨v, rfl, m1, m2, C⟩
      have hO4 := m2 rfl
      rw [HM.out] at hO4
      obtain ⟨b4, c4, rfl, I4, k4⟩ := own_hs2 hO4
      replace B := bel_tr B C
      replace D := bel_tr D C
      replace I2 := hs_below I2 C
      clear m1 m2 hO4 C
      go_wp2_with fail
      refine (C2.out b4 c4 _ D I4 k4).mono ?_
      rintro e u6 ⟨v, rfl, m1, m2, C⟩
      have hO5 := m2 rfl
      rw [HR2.out] at hO5
      obtain ⟨b5, c5, rfl, I5, k5⟩ := own_hs2 hO5
      replace B := bel_tr B C
      replace D := bel_tr D C
      replace I2 := hs_below I2 C
      clear m1 m2 hO5 C I4
      go_wp2_with fail
      refine (eqHd b5 b2 c5 c2 R _ I5 I2 nR).mono ?_
      rintro e u7 ⟨rfl, C⟩
      replace B := bel_tr B C
      replace I2 := hs_below I2 C
      clear C
      go_wp2_with fail
      refine (iVL b2 c2 R _ I2 nR).mono ?_
      rw [HV.out]
      rintro e u8 ⟨rfl, C⟩
      replace B := bel_tr B C
      clear C
      go_wp2_with fail
      go_ret
      exact ⟨rfl, B⟩

theorem lifted (os : Os) (started : os.Started) (H : Type) (enc : TypeId × Value → H) :
    ReturnsInHanded {} Try.checked os 3 .any (Rows.fnRunDeedsSpec.pre6 enc Try.prog Try.f3 Rows.fnRunDeedsRow.domain false) (Rows.fnRunDeedsSpec.post enc Try.prog Try.f3 false true false false) := by
  refine returnsInHanded_of_change (C := Try.checked) own started (by kernel_rfl) Try.func3
    (ChangeSpec.witness6 (enc := enc) (C := Try.checked) false ⟨#[], #[.slice none 0 0], []⟩ 8 (by kernel_rfl) (by kernel_rfl) (by kernel_rfl) (by kernel_rfl)) ?_
  intro W base args ds gs before hval0 hW hcnd _
  have hval : ∀ (j : Nat) t v, Try.f3.params[j]? = some t → args[j]? = some v → Value.okWide Try.prog W .any base t v := hval0
  have hW' := hW
  obtain ⟨p, q, hA0, hV, rfl, hfz, hnd⟩ := hW
  have hA : DataW.TrodAll enc Try.prog W 0 (fun _ => true) true Try.f3.params.toList args.toList ds p := hA0
  rw [Try.params3] at hA hval
  obtain ⟨v0, vs0, e0, es0, p0, q0, hargs, rfl, rfl, h0, r0⟩ := trodAll_cons hA
  obtain ⟨rfl, rfl, rfl⟩ := trodAll_nil r0
  obtain rfl : args = #[v0] := by cases args; simp_all
  obtain ⟨rfl, rfl⟩ := trodVars_none hV
  have k0 := h0
  have lt0 : ∀ x ∈ p0, x.block < W.heap.size := by obtain ⟨m, hm⟩ := k0; exact DataW.trod_lt m _ _ _ hm
  obtain ⟨a0, len0, cap0, rfl⟩ := okWide_slice Try.underlying22 (hval 0 22 v0 rfl rfl)
  obtain ⟨z0, w0⟩ : ∃ zs, IsRow .u8 W a0 len0 cap0 zs := by
    obtain ⟨fuel, hf⟩ := h0
    rcases open_ints Try.underlying22 Try.underlying5 (by kernel_rfl) hf with ⟨hcs, _⟩ | ⟨x, l, c, zs, hcs, _, hl, hm, hz, _, hcell, hwz⟩
    · simp [Value.cells] at hcs
      obtain ⟨rfl, rfl, rfl⟩ := hcs
      exact ⟨[], .inl ⟨rfl, rfl, rfl, rfl⟩⟩
    · simp [Value.cells] at hcs
      obtain ⟨rfl, rfl, rfl⟩ := hcs
      exact ⟨zs, .inr ⟨_, rfl, hl, hm, by simpa using hz, hcell, hwz⟩⟩
  clear hA0 hval0
  refine (walk a0 len0 cap0 z0 W w0).mono fun e W' ⟨he, bel⟩ => ?_
  subst he
  exact ⟨_, rfl, _, _, _, [], _, [], hW', trodAll_mk1 (shut_bool Try.underlying4 _), (trodAll_cons_mk (Below.trod laidOut (by kernel_rfl) (of_decide_eq_true (by kernel_rfl)) k0 bel lt0) trodAll_mk0), rfl, bel.frame _, fun h => by cases h⟩

theorem over : Rows.fnRunDeedsRow.holds Try.pinned (OpenSpec.ofChange Rows.fnRunDeedsSpec) :=
  OpenClaim.holds_of_wide 3 Try.f3 rfl rfl rfl rfl rfl rfl rfl ⟨rfl, rfl, rfl, rfl, rfl⟩ rfl rfl rfl rfl rfl (by kernel_rfl) Try.func3 (by kernel_rfl)
    (of_decide_eq_true (by kernel_rfl)) (by unfold Func.isWrapper; first | (rw [if_pos (by decide +kernel)]; kernel_rfl) | (rw [if_neg (by decide +kernel)]; exact ⟨rfl, rfl⟩))
    (fun os started H enc _ => lifted os started H enc)

end Go.Proofs.Ytaehemmjemhgpaa.fnRunDeeds
namespace Go.Proofs.Ytaehemmjemhgpaa
/-- the statement -/
theorem fnRunDeeds_holds : Rows.FnRunDeedsSaid := fnRunDeeds.over
end Go.Proofs.Ytaehemmjemhgpaa
