/- The model's answers on rotations. Condition: at most 1048576 turns. -/
import Derived.Test.YthkeopkehjkpeaaTurnS
namespace Go.Proofs.Ythkeopkehjkpeaa
open Go.RowKit
set_option linter.unusedSimpArgs false
set_option linter.unusedVariables false

set_option maxHeartbeats 1000000 in
/-- spec.turnAt -/
theorem sturnAt (a : Option Addr) (cap : Nat) (ts : List Tn) (t : Int) (w : World) (h : IsTn w a ts) (hv : vtB ts = true) (t0 : 0 ≤ t) (t1 : t ≤ 1000000) :
    Calls Try.prog 59 #[.slice a ts.length cap, .int .i64 t] w fun e w' => e = .returned (.int .i64 (idxT ts (t % sumT ts) : Nat)) ∧ w = w' := by
  obtain ⟨l1, l2, ho, s0, s1⟩ := vt_is hv
  have H := Lib.hid h
  have SP := speriod a cap ts w h (by omega) (vt_hz ho)
  rcases h with rfl | ⟨g, o, rfl, hc⟩
  · simp at l1
  have HC := Lib.hid hc
  have HO := Lib.hid ho
  have HP : Hid (∀ j, j < ts.length → 0 ≤ (ts.getD j tn0).2) := fun j hj => (vt_hz ho j hj).1
  have r0 := Int.emod_nonneg t (show sumT ts ≠ 0 by omega)
  have r1 := Int.emod_lt_of_pos t (show 0 < sumT ts by omega)
  have HR : Hid (t % sumT ts < sumT ts) := r1
  obtain ⟨r, hr⟩ : ∃ r, t % sumT ts = r := ⟨_, rfl⟩
  rw [hr] at HR r0 r1 ⊢
  obtain ⟨S, hS⟩ : ∃ S, sumT ts = S := ⟨_, rfl⟩
  rw [hS] at hr SP s0 s1 r1
  have HS := Lib.hid hS
  clear hc ho hv hS
  go_enter Try.func59, Try.ntmps59
  go_wp2_with fail
  refine SP.mono ?_
  rintro e w' ⟨rfl, rfl⟩
  go_wp2_with fail
  go_loop [1, 5] (fun x i => ∃ k : Nat, k < ts.length ∧ i = .int .i64 k ∧ x = .int .i64 (r - sumT (ts.take k)) ∧ Hid (sumT (ts.take k) ≤ r)) (fun _ i => ts.length - (intOf i).toNat)
  case atStart => exact ⟨0, by omega, rfl, by show Value.int .i64 (t % S) = Value.int .i64 (r - 0); rw [hr]; simp, r0⟩
  case round =>
    obtain ⟨k, hlt, rfl, rfl, hle⟩ := hrel
    obtain ⟨c0, c1⟩ := HC.out k hlt
    have hs := sumT_succ hlt
    have ok := (okT_iff ts k).1 (HO.out k hlt)
    have hsl := sumT_pos k ts (fun j hj => HP.out j (by omega))
    have hidx : r < sumT (ts.take (k + 1)) → idxT ts r = k := fun c => idx_at k ts r hlt HP.out hle.out c
    have hmore : sumT (ts.take (k + 1)) ≤ r → k + 1 < ts.length := fun c => by
      rcases Nat.lt_or_ge (k + 1) ts.length with h | h
      · exact h
      · have e : k + 1 = ts.length := by omega
        rw [e, sumT_all] at c
        have := HR.out
        omega
    rw [hs] at hidx hmore
    have hle2 := hle.out
    generalize ts.getD k tn0 = hh at c0 c1 hs hidx hmore ok
    obtain ⟨x, y⟩ := hh
    dsimp only at c0 c1 hs hidx hmore ok
    have y0 : 1 ≤ y := ok.2.2.1
    have y1 : y ≤ 336 := ok.2.2.2
    generalize sumT (ts.take k) = s at hs hidx hmore hle hle2 hsl
    have HSs := Lib.hid hs
    have HI := Lib.hid hidx
    have HM := Lib.hid hmore
    clear hs hidx hmore ok
    by_cases c : y ≤ r - s
    · have HM2 := HM.out (by omega)
      have e1 : decide (y ≤ r - s) = true := decide_eq_true c
      have hle3 : Hid (s + y ≤ r) := by show s + y ≤ r; omega
      clear hle hle2
      go_wp2
      go_round
      case rel => exact ⟨k + 1, HM2, by go_num, by rw [HSs.out]; congr 1; omega, by rw [HSs.out]; exact hle3.out⟩
      case measure => simp [intOf]; omega
    · have e1 : decide (y ≤ r - s) = false := decide_eq_false c
      have HI2 := Lib.hid (HI.out (by omega))
      clear hle hle2 c
      go_wp2
      go_ret
      exact ⟨ret_int (by rw [HI2.out]), rfl⟩

/-- the turn's owner, where the model reads it -/
theorem who_at {w : World} {g o : Nat} {ts : List Tn} (hc : ∀ i, i < ts.length → w.cell? ⟨g, o + i * 2, none⟩ = some (.int .i64 (ts.getD i tn0).1) ∧ w.cell? ⟨g, o + i * 2 + 1, none⟩ = some (.int .i64 (ts.getD i tn0).2)) (hv : vtB ts = true) (t : Int) :
    idxT ts (t % sumT ts) < ts.length ∧ w.cell? ⟨g, o + idxT ts (t % sumT ts) * 2, none⟩ = some (.int .i64 (whoM ts t)) := by
  obtain ⟨l1, l2, ho, s0, s1⟩ := vt_is hv
  have r0 := Int.emod_nonneg t (show sumT ts ≠ 0 by omega)
  have r1 := Int.emod_lt_of_pos t (show 0 < sumT ts by omega)
  have hl := idx_lt ts _ r1 r0
  exact ⟨hl, (hc _ hl).1⟩

theorem sValidTurns (a : Option Addr) (cap : Nat) (ts : List Tn) (w : World) (h : IsTn w a ts) (hn : ts.length ≤ 1048576) :
    Calls Try.prog 16 #[.slice a ts.length cap] w fun e w' => e = .returned (.bool (vtB ts)) ∧ Below w.heap.size w w' := by
  have SV := svt a cap ts w h hn
  clear h
  go_enter Try.func16, Try.ntmps16
  go_wp2_with fail
  refine SV.mono ?_
  rintro e w' ⟨rfl, rfl⟩
  go_wp2_with fail
  go_ret
  exact ⟨rfl, by go_grown⟩
theorem iValidTurns (a : Option Addr) (cap : Nat) (ts : List Tn) (w : World) (h : IsTn w a ts) (hn : ts.length ≤ 1048576) (hc : ts.length ≤ cap) :
    Calls Try.prog 15 #[.slice a ts.length cap] w fun e w' => e = .returned (.bool (vtB ts)) ∧ Below w.heap.size w w' := iVT a cap ts w h hn

set_option maxHeartbeats 1000000 in
theorem sPeriodOf (a : Option Addr) (cap : Nat) (ts : List Tn) (w : World) (h : IsTn w a ts) (hn : ts.length ≤ 1048576) :
    Calls Try.prog 19 #[.slice a ts.length cap] w fun e w' => e = .returned (.int .i64 (perV ts)) ∧ Below w.heap.size w w' := by
  have SV := svt a cap ts w h hn
  cases hv : vtB ts with
  | false =>
    have HP : Hid (perV ts = -1) := by show perV ts = -1; unfold perV; rw [hv]; rfl
    rw [hv] at SV
    clear hv h
    go_enter Try.func19, Try.ntmps19
    go_wp2_with fail
    refine SV.mono ?_
    rintro e w' ⟨rfl, rfl⟩
    go_wp2_with fail
    go_ret
    exact ⟨ret_int HP.out.symm, by go_grown⟩
  | true =>
    have HP : Hid (perV ts = sumT ts) := by show perV ts = sumT ts; unfold perV; rw [hv]; rfl
    have SP := speriod a cap ts w h hn (vt_hz (vt_is hv).2.2.1)
    rw [hv] at SV
    clear hv h
    go_enter Try.func19, Try.ntmps19
    go_wp2_with fail
    refine SV.mono ?_
    rintro e w' ⟨rfl, rfl⟩
    go_wp2_with fail
    refine SP.mono ?_
    rintro e w' ⟨rfl, rfl⟩
    go_wp2_with fail
    go_ret
    exact ⟨ret_int HP.out.symm, by go_grown⟩

set_option maxHeartbeats 1000000 in
theorem sEvenTime (a : Option Addr) (cap : Nat) (ts : List Tn) (w : World) (h : IsTn w a ts) (hn : ts.length ≤ 1048576) :
    Calls Try.prog 38 #[.slice a ts.length cap] w fun e w' => e = .returned (.int .i64 (evenV ts)) ∧ Below w.heap.size w w' := by
  have SV := svt a cap ts w h hn
  cases hv : vtB ts with
  | false =>
    have HP : Hid (evenV ts = -1) := by show evenV ts = -1; unfold evenV; rw [hv]; rfl
    rw [hv] at SV
    clear hv h
    go_enter Try.func38, Try.ntmps38
    go_wp2_with fail
    refine SV.mono ?_
    rintro e w' ⟨rfl, rfl⟩
    go_wp2_with fail
    go_ret
    exact ⟨ret_int HP.out.symm, by go_grown⟩
  | true =>
    have HP : Hid (evenV ts = sumT ts / (Int.gcd (sumT ts) 24 : Int) * 24) := by show evenV ts = _; unfold evenV; rw [hv]; rfl
    obtain ⟨_, _, ho, s0, s1⟩ := vt_is hv
    have SP := speriod a cap ts w h hn (vt_hz ho)
    rw [hv] at SV
    clear hv h ho
    generalize sumT ts = s at HP s0 s1 SP
    obtain ⟨d, hd⟩ : ∃ d : Int, (Int.gcd s 24 : Int) = d := ⟨_, rfl⟩
    have d1 : 1 ≤ d := by
      have := Int.gcd_pos_of_ne_zero_left (a := s) 24 (by omega)
      omega
    have q0 : 0 ≤ s / d := Int.ediv_nonneg (by omega) (by omega)
    have q1 : s / d ≤ s := Int.ediv_le_self _ (by omega)
    have IG := sgcd s 24 w (by omega) (by omega) (by omega) (by omega)
    rw [hd] at HP IG
    clear hd
    go_enter Try.func38, Try.ntmps38
    go_wp2_with fail
    refine SV.mono ?_
    rintro e w' ⟨rfl, rfl⟩
    go_wp2_with fail
    refine SP.mono ?_
    rintro e w' ⟨rfl, rfl⟩
    go_wp2_with fail
    refine IG.mono ?_
    rintro e w' ⟨rfl, rfl⟩
    go_wp2_with fail
    go_ret
    exact ⟨ret_int HP.out.symm, by go_grown⟩

set_option maxHeartbeats 1000000 in
theorem sStartOf (a : Option Addr) (cap : Nat) (ts : List Tn) (i : Int) (w : World) (h : IsTn w a ts) (hn : ts.length ≤ 1048576) (wi : (Lit.int .i64 i).wf = true) (hc : ts.length ≤ cap) :
    Calls Try.prog 27 #[.slice a ts.length cap, .int .i64 i] w fun e w' => e = .returned (.int .i64 (startV ts i)) ∧ Below w.heap.size w w' := by
  have SV := svt a cap ts w h hn
  cases hv : vtB ts with
  | false =>
    have HP : Hid (startV ts i = -1) := by show startV ts i = -1; unfold startV; rw [hv]; rfl
    rw [hv] at SV
    clear hv h
    go_enter Try.func27, Try.ntmps27
    go_wp2_with fail
    refine SV.mono ?_
    rintro e w' ⟨rfl, rfl⟩
    go_wp2_with fail
    go_ret
    exact ⟨ret_int HP.out.symm, by go_grown⟩
  | true =>
    obtain ⟨l1, l2, ho, s0, s1⟩ := vt_is hv
    rw [hv] at SV
    cases hb : (decide (0 ≤ i) && decide (i < (ts.length : Int))) with
    | false =>
      have HP : Hid (startV ts i = -1) := by show startV ts i = -1; unfold startV; rw [hv, hb]; rfl
      have ht : i < 0 ∨ (ts.length : Int) - 1 < i := by
        have : ¬ (0 ≤ i ∧ i < (ts.length : Int)) := fun c => by rw [decide_eq_true c.1, decide_eq_true c.2] at hb; cases hb
        omega
      clear hv h hb ho
      go_enter Try.func27, Try.ntmps27
      go_wp2_with fail
      refine SV.mono ?_
      rintro e w' ⟨rfl, rfl⟩
      go_wp2_with fail
      refine (inRange_no i 0 ((ts.length : Int) - 1) _ ht).mono ?_
      rintro e w' ⟨rfl, rfl⟩
      go_wp2_with fail
      go_ret
      exact ⟨ret_int HP.out.symm, by go_grown⟩
    | true =>
      have HP : Hid (startV ts i = sumT (ts.take i.toNat)) := by show startV ts i = _; unfold startV; rw [hv, hb]; rfl
      simp only [Bool.and_eq_true, decide_eq_true_eq] at hb
      obtain ⟨k, rfl⟩ : ∃ k : Nat, i = (k : Int) := ⟨i.toNat, by omega⟩
      have hk : k < ts.length := by omega
      rw [Int.toNat_natCast] at HP
      rcases h with rfl | ⟨g, o, rfl, hcl⟩
      · simp at hk
      have hkc : (k : Int) ≤ (cap : Int) := by omega
      have hk0 : (0 : Int) ≤ (k : Int) := by omega
      have hl : (ts.take k).length = k := by rw [List.length_take]; omega
      have SP : ∀ c, Calls Try.prog 51 #[.slice (some ⟨g, o, none⟩) k c] w fun e w' => e = .returned (.int .i64 (sumT (ts.take k))) ∧ w = w' := fun c => by
        have := speriod (some ⟨g, o, none⟩) c (ts.take k) w (tn_take hcl k) (by omega) (fun j hj => by
          rw [hl] at hj
          have e : (ts.take k).getD j tn0 = ts.getD j tn0 := by
            rw [List.getD_eq_getElem?_getD, List.getD_eq_getElem?_getD, List.getElem?_take_of_lt hj]
          rw [e]; exact vt_hz ho j (by omega))
        rw [hl] at this
        exact this
      clear hv hcl hb ho hl
      go_enter Try.func27, Try.ntmps27
      go_wp2_with fail
      refine SV.mono ?_
      rintro e w' ⟨rfl, rfl⟩
      go_wp2_with fail
      refine (inRange_yes (k : Int) 0 ((ts.length : Int) - 1) _ (by omega) (by omega)).mono ?_
      rintro e w' ⟨rfl, rfl⟩
      go_wp2_with fail
      refine (SP _).mono ?_
      rintro e w' ⟨rfl, rfl⟩
      go_wp2_with fail
      go_ret
      exact ⟨ret_int HP.out.symm, by go_grown⟩

set_option maxHeartbeats 1000000 in
theorem sWhoAt (a : Option Addr) (cap : Nat) (ts : List Tn) (t : Int) (w : World) (h : IsTn w a ts) (hn : ts.length ≤ 1048576) :
    Calls Try.prog 25 #[.slice a ts.length cap, .int .i64 t] w fun e w' => e = .returned (.int .i64 (whoV ts t)) ∧ Below w.heap.size w w' := by
  have SV := svt a cap ts w h hn
  cases hv : vtB ts with
  | false =>
    have HP : Hid (whoV ts t = -1) := by show whoV ts t = -1; unfold whoV; rw [hv]; rfl
    rw [hv] at SV
    clear hv h
    go_enter Try.func25, Try.ntmps25
    go_wp2_with fail
    refine SV.mono ?_
    rintro e w' ⟨rfl, rfl⟩
    go_wp2_with fail
    go_ret
    exact ⟨ret_int HP.out.symm, by go_grown⟩
  | true =>
    obtain ⟨l1, l2, ho, s0, s1⟩ := vt_is hv
    rw [hv] at SV
    cases hb : (decide (0 ≤ t) && decide (t ≤ 5000)) with
    | false =>
      have HP : Hid (whoV ts t = -1) := by show whoV ts t = -1; unfold whoV; rw [hv, hb]; rfl
      have ht : t < 0 ∨ 5000 < t := by
        have : ¬ (0 ≤ t ∧ t ≤ 5000) := fun c => by rw [decide_eq_true c.1, decide_eq_true c.2] at hb; cases hb
        omega
      clear hv h hb ho
      go_enter Try.func25, Try.ntmps25
      go_wp2_with fail
      refine SV.mono ?_
      rintro e w' ⟨rfl, rfl⟩
      go_wp2_with fail
      refine (inRange_no t 0 5000 _ ht).mono ?_
      rintro e w' ⟨rfl, rfl⟩
      go_wp2_with fail
      go_ret
      exact ⟨ret_int HP.out.symm, by go_grown⟩
    | true =>
      have HP : Hid (whoV ts t = whoM ts t) := by show whoV ts t = _; unfold whoV; rw [hv, hb]; rfl
      simp only [Bool.and_eq_true, decide_eq_true_eq] at hb
      obtain ⟨t0, t1⟩ := hb
      have ST := sturnAt a cap ts t w h hv t0 (by omega)
      rcases h with rfl | ⟨g, o, rfl, hcl⟩
      · simp at l1
      obtain ⟨hk, hcell⟩ := who_at hcl hv t
      generalize idxT ts (t % sumT ts) = k at ST hk hcell
      have i0 : (0 : Int) ≤ (k : Int) := by omega
      have i1 : (k : Int) < (ts.length : Int) := by omega
      clear hv hcl ho
      go_enter Try.func25, Try.ntmps25
      go_wp2_with fail
      refine SV.mono ?_
      rintro e w' ⟨rfl, rfl⟩
      go_wp2_with fail
      refine (inRange_yes t 0 5000 _ t0 t1).mono ?_
      rintro e w' ⟨rfl, rfl⟩
      go_wp2_with fail
      refine ST.mono ?_
      rintro e w' ⟨rfl, rfl⟩
      go_wp2_with fail
      go_ret
      exact ⟨ret_int HP.out.symm, by go_grown⟩
end Go.Proofs.Ythkeopkehjkpeaa
