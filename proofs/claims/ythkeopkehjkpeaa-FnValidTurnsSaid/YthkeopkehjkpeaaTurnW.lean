/- The program's answers on rotations. Condition: at most 1048576 turns. -/
import Derived.Test.YthkeopkehjkpeaaTurnV
namespace Go.Proofs.Ythkeopkehjkpeaa
open Go.RowKit
set_option linter.unusedSimpArgs false
set_option linter.unusedVariables false

theorem iownersN (a : Option Addr) (cap : Nat) (ts : List Tn) (w : World) (h : IsTn w a ts) (hv : vtB ts = true) (N : Nat) (hN : (sumT ts).toNat = N) :
    Calls Try.prog 57 #[.slice a ts.length cap] w fun e w' => ∃ g : Nat, e = .returned (.slice (some ⟨g, 0, none⟩) N N) ∧ Row w' g (ownT ts) ∧ Below w.heap.size w w' := by
  refine (iowners a cap ts w h hv).mono ?_
  rintro e w1 ⟨g, rfl, _, R, C⟩
  rw [hN]
  exact ⟨g, rfl, R, C⟩
theorem who_cell {w : World} {g N : Nat} {ts : List Tn} (R : Row w g (ownT ts)) (hN : (sumT ts).toNat = N) (h1 : 1 ≤ sumT ts) {a : Int} (ha : 0 ≤ a) : ∃ q : Nat, a % (N : Int) = (q : Int) ∧ q < N ∧ w.cell? ⟨g, q, none⟩ = some (.int .i64 (whoM ts a)) := by
  have e : (N : Int) = sumT ts := by omega
  have r0 := Int.emod_nonneg a (show (N : Int) ≠ 0 by omega)
  have r1 := Int.emod_lt_of_pos a (show 0 < (N : Int) by omega)
  obtain ⟨q, hq⟩ : ∃ q : Nat, a % (N : Int) = (q : Int) := ⟨_, (Int.toNat_of_nonneg r0).symm⟩
  have hqN : q < N := by omega
  refine ⟨q, hq, hqN, ?_⟩
  have := World.rowIs.cell R (i := q) (by rw [ownT_len, hN]; exact hqN)
  rw [ownT_get ts (by rw [hN]; exact hqN)] at this
  rw [this]
  unfold whoM
  rw [← e, hq]

set_option maxHeartbeats 1000000 in
theorem iPeriodOf (a : Option Addr) (cap : Nat) (ts : List Tn) (w : World) (h : IsTn w a ts) (hn : ts.length ≤ 1048576) (hc : ts.length ≤ cap) :
    Calls Try.prog 17 #[.slice a ts.length cap] w fun e w' => e = .returned (.int .i64 (perV ts)) ∧ Below w.heap.size w w' := by
  have IV := iVT a cap ts w h hn
  have H := Lib.hid h
  cases hv : vtB ts with
  | false =>
    have HP : Hid (perV ts = -1) := by show perV ts = -1; unfold perV; rw [hv]; rfl
    rw [hv] at IV
    clear hv h
    go_enter Try.func17, Try.ntmps17
    go_wp2_with fail
    refine IV.mono ?_
    rintro e w1 ⟨rfl, C⟩
    go_wp2_with fail
    go_ret
    exact ⟨ret_int HP.out.symm, C⟩
  | true =>
    have HP : Hid (perV ts = sumT ts) := by show perV ts = sumT ts; unfold perV; rw [hv]; rfl
    have HO := Lib.hid (vt_is hv).2.2.1
    rw [hv] at IV
    clear hv h
    go_enter Try.func17, Try.ntmps17
    go_wp2_with fail
    refine IV.mono ?_
    rintro e w1 ⟨rfl, C⟩
    have HC := Lib.hid C
    clear C
    go_wp2_with fail
    refine (ihours a cap ts _ (tn_below H.out HC.out) hn (vt_hz HO.out)).mono ?_
    rintro e w2 ⟨rfl, D⟩
    go_wp2_with fail
    go_ret
    exact ⟨ret_int HP.out.symm, bel_tr HC.out D⟩

set_option maxHeartbeats 1000000 in
theorem iEvenTime (a : Option Addr) (cap : Nat) (ts : List Tn) (w : World) (h : IsTn w a ts) (hn : ts.length ≤ 1048576) (hc : ts.length ≤ cap) :
    Calls Try.prog 37 #[.slice a ts.length cap] w fun e w' => e = .returned (.int .i64 (evenV ts)) ∧ Below w.heap.size w w' := by
  have IV := iVT a cap ts w h hn
  have H := Lib.hid h
  cases hv : vtB ts with
  | false =>
    have HP : Hid (evenV ts = -1) := by show evenV ts = -1; unfold evenV; rw [hv]; rfl
    rw [hv] at IV
    clear hv h
    go_enter Try.func37, Try.ntmps37
    go_wp2_with fail
    refine IV.mono ?_
    rintro e w1 ⟨rfl, C⟩
    go_wp2_with fail
    go_ret
    exact ⟨ret_int HP.out.symm, C⟩
  | true =>
    have HP : Hid (evenV ts = sumT ts / (Int.gcd (sumT ts) 24 : Int) * 24) := by show evenV ts = _; unfold evenV; rw [hv]; rfl
    obtain ⟨_, _, ho, s0, s1⟩ := vt_is hv
    have HO := Lib.hid ho
    have IHo := fun W hW => ihours a cap ts W hW hn (vt_hz ho)
    rw [hv] at IV
    clear hv h ho
    generalize sumT ts = s at HP s0 s1 IHo
    obtain ⟨d, hd⟩ : ∃ d : Int, (Int.gcd s 24 : Int) = d := ⟨_, rfl⟩
    have d1 : 1 ≤ d := by
      have := Int.gcd_pos_of_ne_zero_left (a := s) 24 (by omega)
      omega
    have q0 : 0 ≤ s / d := Int.ediv_nonneg (by omega) (by omega)
    have q1 : s / d ≤ s := Int.ediv_le_self _ (by omega)
    have IG := fun W => igcd s 24 W (by omega) (by omega) (by omega) (by omega)
    rw [hd] at HP IG
    clear hd
    go_enter Try.func37, Try.ntmps37
    go_wp2_with fail
    refine IV.mono ?_
    rintro e w1 ⟨rfl, C⟩
    have HC := Lib.hid C
    clear C
    go_wp2_with fail
    refine (IHo _ (tn_below H.out HC.out)).mono ?_
    rintro e w2 ⟨rfl, D⟩
    have HD := Lib.hid D
    clear D
    go_wp2_with fail
    refine (IG _).mono ?_
    rintro e w3 ⟨rfl, rfl⟩
    go_wp2_with fail
    go_ret
    exact ⟨ret_int HP.out.symm, bel_tr HC.out HD.out⟩

set_option maxHeartbeats 1000000 in
theorem iStartOf (a : Option Addr) (cap : Nat) (ts : List Tn) (i : Int) (w : World) (h : IsTn w a ts) (hn : ts.length ≤ 1048576) (hc : ts.length ≤ cap) (wi : (Lit.int .i64 i).wf = true) :
    Calls Try.prog 21 #[.slice a ts.length cap, .int .i64 i] w fun e w' => e = .returned (.int .i64 (startV ts i)) ∧ Below w.heap.size w w' := by
  have IV := iVT a cap ts w h hn
  have H := Lib.hid h
  cases hv : vtB ts with
  | false =>
    have HP : Hid (startV ts i = -1) := by show startV ts i = -1; unfold startV; rw [hv]; rfl
    rw [hv] at IV
    clear hv h
    go_enter Try.func21, Try.ntmps21
    go_wp2_with fail
    refine IV.mono ?_
    rintro e w1 ⟨rfl, C⟩
    go_wp2_with fail
    go_ret
    exact ⟨ret_int HP.out.symm, C⟩
  | true =>
    obtain ⟨l1, l2, ho, s0, s1⟩ := vt_is hv
    rw [hv] at IV
    have IT := fun W => iturn a ts.length cap i W hn
    cases hb : (decide (0 ≤ i) && decide (i < (ts.length : Int))) with
    | false =>
      have HP : Hid (startV ts i = -1) := by show startV ts i = -1; unfold startV; rw [hv, hb]; rfl
      rw [hb] at IT
      clear hv h hb ho
      go_enter Try.func21, Try.ntmps21
      go_wp2_with fail
      refine IV.mono ?_
      rintro e w1 ⟨rfl, C⟩
      go_wp2_with fail
      refine (IT _).mono ?_
      rintro e w' ⟨rfl, rfl⟩
      go_wp2_with fail
      go_ret
      exact ⟨ret_int HP.out.symm, C⟩
    | true =>
      have HP : Hid (startV ts i = sumT (ts.take i.toNat)) := by show startV ts i = _; unfold startV; rw [hv, hb]; rfl
      have hb2 := hb
      simp only [Bool.and_eq_true, decide_eq_true_eq] at hb2
      obtain ⟨k, rfl⟩ : ∃ k : Nat, i = (k : Int) := ⟨i.toNat, by omega⟩
      have hk : k < ts.length := by omega
      rw [hb] at IT
      rw [Int.toNat_natCast] at HP
      rcases h with rfl | ⟨g, o, rfl, hcl⟩
      · simp at hk
      have HC := Lib.hid hcl
      have HO := Lib.hid ho
      have kc : k ≤ cap := by omega
      have hkc : (k : Int) ≤ (cap : Int) := by omega
      have hk0 : (0 : Int) ≤ (k : Int) := by omega
      have hl : (ts.take k).length = k := by rw [List.length_take]; omega
      have HL := Lib.hid hl
      have IHo : ∀ W, IsTn W (some ⟨g, o, none⟩) (ts.take k) → ∀ c, Calls Try.prog 49 #[.slice (some ⟨g, o, none⟩) k c] W fun e w' => e = .returned (.int .i64 (sumT (ts.take k))) ∧ Below W.heap.size W w' := fun W hW c => by
        have := ihours (some ⟨g, o, none⟩) c (ts.take k) W hW (by omega) (fun j hj => by
          rw [hl] at hj
          have e : (ts.take k).getD j tn0 = ts.getD j tn0 := by
            rw [List.getD_eq_getElem?_getD, List.getD_eq_getElem?_getD, List.getElem?_take_of_lt hj]
          rw [e]; exact vt_hz HO.out j (by omega))
        rw [hl] at this
        exact this
      have HT : Hid (IsTn w (some ⟨g, o, none⟩) (ts.take k)) := tn_take hcl k
      clear hv hcl hb hb2 ho hl
      go_enter Try.func21, Try.ntmps21
      go_wp2_with fail
      refine IV.mono ?_
      rintro e w1 ⟨rfl, C⟩
      have HB := Lib.hid C
      clear C
      go_wp2_with fail
      refine (IT _).mono ?_
      rintro e w' ⟨rfl, rfl⟩
      go_wp2_with fail
      refine (IHo _ (tn_below HT.out HB.out) _).mono ?_
      rintro e w2 ⟨rfl, D⟩
      go_wp2_with fail
      go_ret
      exact ⟨ret_int HP.out.symm, bel_tr HB.out D⟩
end Go.Proofs.Ythkeopkehjkpeaa
