/- For every input the law answers true, and its argument reads afterwards as before: ranks are places. No condition. -/
import Derived.Test.YtpkjnhpgeajgoaaRows
import Derived.Test.YtpkjnhpgeajgoaaDrawWe
import Derived.WalkKit
import Derived.ProofKit
import Derived.OpenShut
import Derived.ShutString
import Derived.ChangeOld
import Derived.Below
import Derived.Lib.SmallJoins
namespace Go.Proofs.Ytpkjnhpgeajgoaa.fnRankOf
open Go.ChangeShapes Go.WideShapes Go.ChangeAt Go.RowKit Go.Joins
open Go.ChangeMaps (open_string shut_string)
set_option linter.unusedVariables false
set_option linter.unusedSimpArgs false

theorem own : ownKnob Try.prog.godebug = none := by kernel_rfl
theorem laidOut : laidOutB Try.prog = true := by kernel_rfl
theorem plcF_is (x : Int) : ∀ (r : List Int) (b : Nat), plcF r x b ≠ -1 → ∃ k, k < r.length ∧ plcF r x b = ((b + k : Nat) : Int) ∧ r.getD k 0 = x ∧ ∀ j, j < k → r.getD j 0 ≠ x := by
  intro r
  induction r with
  | nil => intro b h; exact absurd rfl h
  | cons h t ih =>
    intro b hp
    by_cases e : h = x
    · exact ⟨0, by simp, by show (if h = x then (b : Int) else _) = _; rw [if_pos e]; rfl, e, fun j hj => absurd hj (Nat.not_lt_zero _)⟩
    · have hs : plcF (h :: t) x b = plcF t x (b + 1) := by show (if h = x then (b : Int) else _) = _; rw [if_neg e]
      rw [hs] at hp
      obtain ⟨k, a, c, d, f⟩ := ih (b + 1) hp
      refine ⟨k + 1, by simp; exact a, by rw [hs, c]; congr 1; omega, d, fun j hj => ?_⟩
      cases j with
      | zero => exact e
      | succ j => exact f j (by omega)
theorem rk_is {rs : List (List Int)} {i t : Int} (h : ¬ rkV rs i t = -1) : ∃ k q : Nat, i = (k : Int) ∧ k < rs.length ∧ q < (rs.getD k []).length ∧ rkV rs i t = (q : Int) ∧ (rs.getD k []).getD q 0 = t ∧ (∀ j, j < q → (rs.getD k []).getD j 0 ≠ t) ∧ (rs.getD k []).length ≤ 8 := by
  have e : (wishB rs && inR rs i) = true := by
    cases c : (wishB rs && inR rs i) with
    | true => rfl
    | false => exact absurd (by unfold rkV; rw [c]; rfl) h
  have e2 := e
  unfold inR at e2
  simp only [Bool.and_eq_true, decide_eq_true_eq] at e2
  obtain ⟨k, rfl⟩ : ∃ k : Nat, i = (k : Int) := ⟨i.toNat, by omega⟩
  have hk : k < rs.length := by omega
  have hr := rk_yes (x := t) e2.1 hk
  rw [hr] at h
  obtain ⟨q, a, c, d, f⟩ := plcF_is t (rs.getD k []) 0 h
  refine ⟨k, q, rfl, hk, a, by rw [hr]; unfold plcV; rw [c, Nat.zero_add], d, f, ?_⟩
  have hw := e2.1
  unfold wishB at hw
  rw [Bool.and_eq_true, List.all_eq_true, decide_eq_true_eq] at hw
  have := ((ordB_iff _ _).1 (hw.2 _ (rows_mem hk))).1
  omega

set_option maxRecDepth 100000 in
set_option maxHeartbeats 6000000 in
theorem walk (a0 : Option Addr) (len0 cap0 : Nat) (z0 : List Int) (w : World) (w0 : IsRow .u8 w a0 len0 cap0 z0) :
    Calls Try.prog 7 #[.slice a0 len0 cap0] w fun e w' => e = .returned (.bool true) ∧ Below w.heap.size w w' := by
  by_cases big : (1048576 : Int) < (len0 : Int)
  · go_enter Try.func7, Try.ntmps7
    go_wp2
    go_ret
    exact ⟨rfl, Below.refl _ _⟩
  go_enter Try.func7, Try.ntmps7
  go_wp2_with fail
  refine (drawRankOf a0 len0 cap0 z0 _ w0).mono ?_
  rintro e u1 ⟨b, cp, rs, i, t, rfl, hl8, hlc, hi, B⟩
  clear w0 big
  have n1 : rs.length ≤ 1048576 := by omega
  have CI := iRank b cp rs i t u1 hi n1
  have CS : ∀ W, Below u1.heap.size u1 W → Calls Try.prog 19 #[.slice b rs.length cp, .int .i64 i, .int .i64 t] W fun e w' => e = .returned (.int .i64 (rkV rs i t)) ∧ Below W.heap.size W w' := fun W hW => sRank b cp rs i t W (rows_below hi hW) n1
  have D := Below.refl u1.heap.size u1
  by_cases hv : rkV rs i t = -1
  · rw [hv] at CI CS
    clear hv hi
    go_wp2_with fail
    refine CI.mono ?_
    rintro e w' ⟨rfl, rfl⟩
    clear CI
    go_wp2_with fail
    refine (CS _ D).mono ?_
    rintro e u ⟨rfl, C⟩
    replace B := bel_tr B C
    replace D := bel_tr D C
    clear C
    go_wp2_with fail
    refine (CS _ D).mono ?_
    rintro e u ⟨rfl, C⟩
    replace B := bel_tr B C
    clear C
    go_wp2_with fail
    go_ret
    exact ⟨rfl, B⟩
  · obtain ⟨k, q, rfl, hk, hq, hrk, hat, hno, h8⟩ := rk_is hv
    rw [hrk] at CI CS
    have HI := Lib.hid hi
    have HAT := Lib.hid hat
    have vf : decide ((q : Int) < 0) = false := decide_eq_false (by omega)
    clear hv hrk hi
    go_wp2_with fail
    refine CI.mono ?_
    rintro e w' ⟨rfl, rfl⟩
    clear CI
    go_wp2_with fail
    refine (CS _ D).mono ?_
    rintro e u ⟨rfl, C⟩
    replace B := bel_tr B C
    replace D := bel_tr D C
    clear C CS
    have hcl : IsRows u b rs := rows_below HI.out D
    rcases hcl with rfl | ⟨g, o, rfl, hc⟩
    · simp at hk
    obtain ⟨A, cr, c0, hcr, hin⟩ := hc k hk
    generalize rs.getD k [] = r at c0 hcr hin hq hno HAT h8
    rcases hin with rfl | ⟨ga, oa, rfl, hcc⟩
    · simp at hq
    have c1 := hcc q hq
    rw [HAT.out] at c1
    have c2 := hcc 0 (by omega)
    rw [Nat.add_zero] at c2
    have k0 : (0 : Int) ≤ (k : Int) := by omega
    have k1 : (k : Int) < (rs.length : Int) := by omega
    have q0 : (0 : Int) ≤ (q : Int) := by omega
    have q1 : (q : Int) < (r.length : Int) := by omega
    have r1 : (0 : Int) < (r.length : Int) := by omega
    have r2 : 0 < r.length := by omega
    by_cases qz : q = 0
    · subst qz
      rw [Nat.add_zero] at c1
      clear hcc hc hno c2
      go_wp2_with fail
      go_ret
      exact ⟨rfl, B⟩
    · have hz := hno 0 (by omega)
      generalize r.getD 0 0 = z at c2 hz
      have e1 : ((q : Int) == 0) = false := by simp; omega
      have e2 : (t == z) = false := by simpa using fun e => hz e.symm
      have e3 : (q == 0) = false := by simpa using qz
      clear hcc hc hno hz
      go_wp2_with fail
      go_ret
      exact ⟨rfl, B⟩

set_option maxRecDepth 100000 in
theorem lifted (os : Os) (started : os.Started) (H : Type) (enc : TypeId × Value → H) :
    ReturnsInHanded {} Try.checked os 7 .any (Rows.fnRankOfSpec.pre6 enc Try.prog Try.f7 Rows.fnRankOfRow.domain false) (Rows.fnRankOfSpec.post enc Try.prog Try.f7 false true false false) := by
  refine returnsInHanded_of_change (C := Try.checked) own started (by kernel_rfl) Try.func7
    (ChangeSpec.witness6 (enc := enc) (C := Try.checked) false ⟨#[], #[.slice none 0 0], []⟩ 8 (by kernel_rfl) (by kernel_rfl) (by kernel_rfl) (by kernel_rfl)) ?_
  intro W base args ds gs before hval0 hW hcnd _
  have hval : ∀ (j : Nat) t v, Try.f7.params[j]? = some t → args[j]? = some v → Value.okWide Try.prog W .any base t v := hval0
  have hW' := hW
  obtain ⟨p, q, hA0, hV, rfl, hfz, hnd⟩ := hW
  have hA : DataW.TrodAll enc Try.prog W 0 (fun _ => true) true Try.f7.params.toList args.toList ds p := hA0
  rw [Try.params7] at hA hval
  obtain ⟨v0, vs0, e0, es0, p0, q0, hargs, rfl, rfl, h0, r0⟩ := trodAll_cons hA
  obtain ⟨rfl, rfl, rfl⟩ := trodAll_nil r0
  obtain rfl : args = #[v0] := by cases args; simp_all
  obtain ⟨rfl, rfl⟩ := trodVars_none hV
  have k0 := h0
  have lt0 : ∀ x ∈ p0, x.block < W.heap.size := by obtain ⟨m, hm⟩ := k0; exact DataW.trod_lt m _ _ _ hm
  obtain ⟨a0, len0, cap0, rfl⟩ := okWide_slice Try.underlying22 (hval 0 22 v0 rfl rfl)
  obtain ⟨z0, w0⟩ : ∃ zs, IsRow .u8 W a0 len0 cap0 zs := by
    obtain ⟨fuel, hf⟩ := h0
    rcases open_ints Try.underlying22 Try.underlying5 (by kernel_rfl) hf with ⟨hcs, _⟩ | ⟨x, l, c, zs, hcs, _, hl, hm, hz, _, hcell, hwz⟩
    · simp [Value.cells] at hcs
      obtain ⟨rfl, rfl, rfl⟩ := hcs
      exact ⟨[], .inl ⟨rfl, rfl, rfl, rfl⟩⟩
    · simp [Value.cells] at hcs
      obtain ⟨rfl, rfl, rfl⟩ := hcs
      exact ⟨zs, .inr ⟨_, rfl, hl, hm, by simpa using hz, hcell, hwz⟩⟩
  clear hA0 hval0
  refine (walk a0 len0 cap0 z0 W w0).mono fun e W' ⟨he, bel⟩ => ?_
  subst he
  exact ⟨_, rfl, _, _, _, [], _, [], hW', trodAll_mk1 (shut_bool Try.underlying4 _), (trodAll_cons_mk (Below.trod laidOut (by kernel_rfl) (of_decide_eq_true (by kernel_rfl)) k0 bel lt0) trodAll_mk0), rfl, bel.frame _, fun h => by cases h⟩

theorem over : Rows.fnRankOfRow.holds Try.pinned (OpenSpec.ofChange Rows.fnRankOfSpec) :=
  OpenClaim.holds_of_wide 7 Try.f7 rfl rfl rfl rfl rfl rfl rfl ⟨rfl, rfl, rfl, rfl, rfl⟩ rfl rfl rfl rfl rfl (by kernel_rfl) Try.func7 (by kernel_rfl)
    (of_decide_eq_true (by kernel_rfl)) (by unfold Func.isWrapper; first | (rw [if_pos (by decide +kernel)]; kernel_rfl) | (rw [if_neg (by decide +kernel)]; exact ⟨rfl, rfl⟩))
    (fun os started H enc _ => lifted os started H enc)

end Go.Proofs.Ytpkjnhpgeajgoaa.fnRankOf
namespace Go.Proofs.Ytpkjnhpgeajgoaa
/-- the statement -/
theorem fnRankOf_holds : Rows.FnRankOfSaid := fnRankOf.over
end Go.Proofs.Ytpkjnhpgeajgoaa
