/- Least flows, by the program. Condition: at most 1048576 nodes. -/
import Derived.Test.YtlpmeljneogpiabFlowK
namespace Go.Proofs.Ytlpmeljneogpiab
open Go.RowKit
set_option linter.unusedSimpArgs false
set_option linter.unusedVariables false
set_option maxHeartbeats 8000000 in
/-- impl.NeedFor -/
theorem iNeed (a : Option Addr) (cap : Nat) (ns : List Nd) (at_ am : Int) (w : World) (h : IsNd w a ns) (hn : ns.length ≤ 1048576) (hcap : ns.length ≤ cap) :
    Calls Try.prog 13 #[.slice a ns.length cap, .int .i64 at_, .int .i64 am] w fun e w' => e = .returned (.int .i64 (needV ns at_ am)) ∧ Below w.heap.size w w' := by
  have VN := iVN a cap ns _ h hn hcap
  have CI := fun W => iisNode a ns.length cap at_ W hn
  skip
  skip
  cases hv : vnB ns with
  | false =>
    rw [need_no (am := am) (.inl hv)]
    rw [hv] at VN
    clear hv h
    go_enter Try.func13, Try.ntmps13
    go_wp2_with fail
    refine VN.mono ?_
    rintro e w1 ⟨rfl, C⟩
    go_wp2_with fail
    go_ret
    exact ⟨rfl, C⟩
  | true =>
  rw [hv] at VN
  cases hi : inN ns.length at_ with
  | false =>
    rw [need_no (am := am) (.inr hi)]
    rw [hi] at CI
    clear hv hi h
    go_enter Try.func13, Try.ntmps13
    go_wp2_with fail
    refine VN.mono ?_
    rintro e w1 ⟨rfl, C⟩
    go_wp2_with fail
    refine (CI _).mono ?_
    rintro e w' ⟨rfl, rfl⟩
    go_wp2_with fail
    go_ret
    exact ⟨rfl, C⟩
  | true =>
    rw [hi] at CI
    obtain ⟨k, rfl, hk⟩ := inN_yes hi
    rw [need_yes hv hk]
    have CP := fun (W : World) (hW : Below w.heap.size w W) (x : Int) (h0 : 0 ≤ x) (h1 : x ≤ 500) => (by have := iPassed a cap ns x W (nd_below h hW) hn hcap; rw [passed_yes (by unfold flB; rw [hv, decide_eq_true h0, decide_eq_true h1]; rfl)] at this; exact this : Calls Try.prog 15 #[.slice a ns.length cap, .int .i64 x] W (OutI W (passF ns x)))
    have HCP := Lib.hid CP
    have HV := Lib.hid hv
    have k0 : (0 : Int) ≤ (k : Int) := by omega
    have k1 : (k : Int) < (ns.length : Int) := by omega
    clear hi hv h CP
    go_enter Try.func13, Try.ntmps13
    go_wp2_with fail
    refine VN.mono ?_
    rintro e w1 ⟨rfl, C⟩
    go_wp2_with fail
    refine (CI _).mono ?_
    rintro e w' ⟨rfl, rfl⟩
    clear VN CI
    go_wp2_with fail
    refine (HCP.out w1 C 500 (by omega) (by omega)).mono ?_
    rintro e w2 ⟨v, rfl, hP, hB⟩
    obtain ⟨pb, pc, rfl, _⟩ := hP.ints
    have hpl := passF_len ns 500
    rcases hP.at_ with e | ⟨gp, op, rfl, hpp⟩
    · rw [e] at hpl; simp at hpl; omega
    have c1 := hpp k (by omega)
    rw [hpl] at *
    have HB := Lib.hid (bel_tr C hB)
    by_cases hlo : (passF ns 500).getD k 0 < am
    · have HN : Hid (needF ns k am 501 0 = -1) := need_none 501 0 (fun j h1 h2 => by
        have := passF_le HV.out (x := (j : Int)) (y := 500) (by omega) (by omega) (by omega) hk; omega)
      have e1 : decide ((passF ns 500).getD k 0 < am) = true := decide_eq_true hlo
      generalize (passF ns 500).getD k 0 = p at c1 e1 hlo
      clear hpp hP hB C hpl
      go_wp2_with fail
      go_ret
      exact ⟨ret_int HN.out.symm, HB.out⟩
    · have HEN : Hid (am ≤ (passF ns 500).getD k 0) := by show am ≤ _; omega
      have e1 : decide ((passF ns 500).getD k 0 < am) = false := decide_eq_false hlo
      generalize (passF ns 500).getD k 0 = p at c1 e1 hlo
      clear hpp hP hB C hpl
      go_wp2_with fail
      clear e1 c1 hlo
      go_loopw [7, 8] (fun l u wr => ∃ x y : Nat, l = .int .i64 x ∧ u = .int .i64 y ∧ x ≤ y ∧ y ≤ 500 ∧ Hid ((∀ j : Nat, j < x → (passF ns (j : Int)).getD k 0 < am) ∧ am ≤ (passF ns (y : Int)).getD k 0) ∧ Below w.heap.size w wr) (fun l u _ => (intOf u).toNat - (intOf l).toNat)
      case atStart => exact ⟨0, 500, rfl, rfl, by omega, by omega, ⟨fun j hj => absurd hj (Nat.not_lt_zero _), HEN.out⟩, HB.out⟩
      case round =>
        clear HB HEN
        obtain ⟨x, y, rfl, rfl, hxy, hy, HR, hB⟩ := hrel
        by_cases hlt : x < y
        · obtain ⟨m, hm⟩ : ∃ m : Nat, (x + y) / 2 = m := ⟨_, rfl⟩
          have m1 : x ≤ m := by omega
          have m2 : m < y := by omega
          have tq : Int.tdiv ((x : Int) + (y : Int)) 2 = (m : Int) := by rw [Int.tdiv_eq_ediv_of_nonneg (by omega)]; omega
          have wq : IntKind.i64.wrap ((x : Int) + (y : Int)) = (x : Int) + (y : Int) := by rw [IntKind.wrap_i64]; omega
          have wq2 : IntKind.i64.wrap (m : Int) = (m : Int) := by rw [IntKind.wrap_i64]; omega
          have wq3 : IntKind.i64.wrap ((m : Int) + 1) = (m : Int) + 1 := by rw [IntKind.wrap_i64]; omega
          have CP := HCP.out wr hB (m : Int) (by omega) (by omega)
          have hB' := Lib.hid hB
          have HM := Lib.hid hm
          have hlt' : decide ((x : Int) < (y : Int)) = true := decide_eq_true (by omega)
          have hlt2 : decide (x < y) = true := decide_eq_true hlt
          have div2 : ((x : Int) + (y : Int)) / 2 = (m : Int) := by omega
          clear hB hm
          go_wp2_with fail
          refine CP.mono ?_
          rintro e w3 ⟨v, rfl, hP, hB⟩
          obtain ⟨pb, pc, rfl, _⟩ := hP.ints
          have hpl := passF_len ns (m : Int)
          rcases hP.at_ with e | ⟨gq, oq, rfl, hpp⟩
          · rw [e] at hpl; simp at hpl; omega
          have c1 := hpp k (by omega)
          rw [hpl] at *
          have HB := Lib.hid (bel_tr hB'.out hB)
          have hmono := fun (j : Nat) (hj : j < m + 1) => passF_le HV.out (x := (j : Int)) (y := (m : Int)) (by omega) (by omega) (by omega) hk
          by_cases hl : (passF ns (m : Int)).getD k 0 < am
          · have HN : Hid ((∀ j : Nat, j < m + 1 → (passF ns (j : Int)).getD k 0 < am) ∧ am ≤ (passF ns (y : Int)).getD k 0) := ⟨fun j hj => by have := hmono j hj; omega, HR.out.2⟩
            have e1 : decide ((passF ns (m : Int)).getD k 0 < am) = true := decide_eq_true hl
            generalize (passF ns (m : Int)).getD k 0 = p at c1 e1 hl
            clear hpp hP hB hpl hmono CP HR tq
            go_wp2_with fail
            go_roundw
            case rel => exact ⟨m + 1, y, by go_num, rfl, by omega, hy, HN.out, HB.out⟩
            case measure => simp [intOf]; omega
          · have HN : Hid ((∀ j : Nat, j < x → (passF ns (j : Int)).getD k 0 < am) ∧ am ≤ (passF ns (m : Int)).getD k 0) := ⟨HR.out.1, by omega⟩
            have e1 : decide ((passF ns (m : Int)).getD k 0 < am) = false := decide_eq_false hl
            generalize hp : (passF ns (m : Int)).getD k 0 = p at c1 e1 hl
            clear hpp hP hB hpl hmono CP HR tq hp
            go_wp2_with fail
            go_roundw
            case rel => exact ⟨x, m, rfl, rfl, m1, by omega, HN.out, HB.out⟩
            case measure => simp [intOf]; omega
        · have HN : Hid (needF ns k am 501 0 = (x : Int)) := by
            have e : y = x := by omega
            refine need_at 501 0 x (Nat.zero_le _) (by omega) (fun j _ hj => HR.out.1 j hj) ?_
            rw [← e]; exact HR.out.2
          have HB := Lib.hid hB
          clear HR hB
          go_wp2_with fail
          go_ret
          exact ⟨ret_int HN.out.symm, HB.out⟩
end Go.Proofs.Ytlpmeljneogpiab
