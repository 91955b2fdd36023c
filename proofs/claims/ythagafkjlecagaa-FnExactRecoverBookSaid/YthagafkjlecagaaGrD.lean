/- Contracts and facts of functions of this program, in build order. Conditions: those stated in each. -/
import Derived.Test.YthagafkjlecagaaGrB
import Derived.Test.YthagafkjlecagaaGrA
import Derived.Test.YthagafkjlecagaaGrC
import Derived.WalkLawsBesides
import Derived.Laws.DeepStrings4
import Derived.Deep.QuietTactic
import Derived.BigQuiet
import Derived.Deep.RegionHeld3
import Derived.Deep.RegionWith
import Derived.RegionTactic
import Derived.Laws.OwnMore
import Derived.Maps.AppendAt
import Derived.Deep.Slices
import Derived.ChangeSame
import Derived.ChangeArms
import Derived.ProofKit
import Derived.Deep.Matrix
import Derived.ChangeSlices
import Derived.WideShapes
import Derived.Lib.SmallJoins
namespace Go.Proofs.Ythagafkjlecagaa
open Go.RowKit

theorem dec_len19 {m : Nat} (h : m ≤ 1000000000000000) : (decL m).length ≤ 16 := dec_len 15 m (by omega)
theorem ret_str {a b : ByteArray} (h : a = b) : Ending.returned (.string a) = .returned (.string b) := by rw [h]
theorem add_txt (a b : List UInt8) (w : World) (h : a.length + b.length ≤ 9223372036854775807) : (Op.stringOp .add (txt a) (txt b)).run Try.prog w = .ok (.string (txt (a ++ b))) w := by
  rw [run_string_add_sum w _ _ (by rw [txt_size, txt_size]; exact h), txt_app]
set_option maxHeartbeats 1000000 in
set_option maxRecDepth 10000 in
/-- impl.decimal -/
theorem idec (m : Nat) (w : World) (h : m ≤ 1000000000000000) :
    Calls Try.prog 68 #[.int .i64 (m : Int)] w fun e w' => e = .returned (.string (txt (decL m))) ∧ w = w' := by
  have hl := dec_len19 h
  have hx := digs_ext (m % 10) (by omega)
  go_enter Try.func68, Try.ntmps68
  go_wp2_with fail
  go_loop [0, 4] (fun n t => ∃ (k : Nat) (l : List UInt8), k ≤ m ∧ n = .int .i64 (k : Int) ∧ t = .string (txt l) ∧ Hid (DecI m k l)) (fun n _ => (intOf n).toNat)
  case atStart => exact ⟨m, [ofDig (m % 10)], Nat.le_refl _, rfl, congrArg Value.string hx, decI_start m⟩
  case round =>
    obtain ⟨k, l, hk, rfl, rfl, HI⟩ := hrel
    by_cases hlt : k < 10
    · have e : l = decL m := by
        rcases HI.out.2 with h | h
        · exact h.2
        · omega
      subst e
      go_wp2_with fail
      go_ret
      exact ⟨rfl, rfl⟩
    · have hx := digs_ext (k / 10 % 10) (by omega)
      have hll := HI.out.1
      have hadd := add_txt [ofDig (k / 10 % 10)] l w (by simp; omega)
      have HN := Lib.hid (decI_step HI.out (by omega))
      have HS : Hid (([ofDig (k / 10 % 10)] : List UInt8) ++ l = ofDig (k / 10 % 10) :: l) := Lib.hid rfl
      generalize [ofDig (k / 10 % 10)] = d at *
      go_wp2_with fail
      go_round
      case rel => exact ⟨k / 10, _, by omega, by go_num, rfl, by rw [HS.out]; exact HN.out⟩
      case measure => simp [intOf]; omega

set_option maxHeartbeats 1000000 in
set_option maxRecDepth 10000 in
/-- spec.number -/
theorem snum : ∀ (j m : Nat) (n : Int) (w : World), n = m → m ≤ j → m ≤ 1000000000000000 →
    Calls Try.prog 61 #[.int .i64 n] w fun e w' => e = .returned (.string (txt (decL m))) ∧ w = w' := by
  intro j
  induction j with
  | zero =>
    intro m n w hn hj hm
    have e : m = 0 := by omega
    subst e hn
    have hx : ({ data := #[48, 49, 50, 51, 52, 53, 54, 55, 56, 57] } : ByteArray).extract 0 1 = txt [ofDig 0] := digs_ext 0 (by omega)
    have HD := Lib.hid (decL_lt (n := 0) (by omega))
    go_enter Try.func61, Try.ntmps61
    go_wp2_with fail
    go_ret
    exact ⟨ret_str (by rw [HD.out]), rfl⟩
  | succ j ih =>
    intro m n w hn hj hm
    subst hn
    by_cases h : m < 10
    · have hx := digs_ext m h
      have HD := Lib.hid (decL_lt h)
      go_enter Try.func61, Try.ntmps61
      go_wp2_with fail
      go_ret
      exact ⟨ret_str (by rw [HD.out]), rfl⟩
    · have l1 := dec_len19 (m := m / 10) (by omega)
      have l2 := dec_len19 (m := m % 10) (by omega)
      have HD := Lib.hid (show decL m = decL (m / 10) ++ decL (m % 10) by rw [decL_ge h, decL_lt (n := m % 10) (by omega)])
      have hadd := fun w => add_txt (decL (m / 10)) (decL (m % 10)) w (by omega)
      go_enter Try.func61, Try.ntmps61
      go_wp2_with fail
      refine (ih (m / 10) _ _ (by omega) (by omega) (by omega)).mono ?_
      rintro e w' ⟨rfl, rfl⟩
      go_wp2_with fail
      refine (ih (m % 10) _ _ (by omega) (by omega) (by omega)).mono ?_
      rintro e w' ⟨rfl, rfl⟩
      go_wp2_with fail
      go_ret
      exact ⟨ret_str (by rw [HD.out]), rfl⟩

set_option maxHeartbeats 1000000 in
/-- impl.indexOfByte -/
theorem iidx (s : ByteArray) (c : Nat) (w : World) (h : s.size ≤ 4294967296) :
    Calls Try.prog 54 #[.string s, .int .u8 (c : Int)] w fun e w' => e = .returned (.int .i64 (idxI c s)) ∧ w = w' := by
  have hb := get_bt s
  go_enter Try.func54, Try.ntmps54
  go_wp2_with fail
  go_loop [5] (fun i => ∃ k : Nat, k ≤ s.size ∧ i = .int .i64 k ∧ Hid (∀ j, j < k → bt s j ≠ c)) (fun i => s.size - (intOf i).toNat)
  case atStart => exact ⟨0, Nat.zero_le _, rfl, fun j hj => by omega⟩
  case round =>
    obtain ⟨k, hk, rfl, HI⟩ := hrel
    by_cases hlt : k < s.size
    · by_cases hc : bt s k = c
      · have HX := Lib.hid (idx_is hlt hc HI.out)
        have ec : (bt s k == (c : Int)) = true := by rw [beq_iff_eq]; exact hc
        clear hc
        go_wp2_with fail
        go_ret
        exact ⟨ret_int HX.out.symm, rfl⟩
      · have HY : Hid (∀ j, j < k + 1 → bt s j ≠ c) := fun j hj => by
          by_cases e : j = k
          · subst e; exact hc
          · exact HI.out j (by omega)
        have ec : (bt s k == (c : Int)) = false := by rw [beq_eq_false_iff_ne]; exact hc
        clear hc
        go_wp2_with fail
        go_round
        case rel => exact ⟨k + 1, by omega, by go_num, HY⟩
        case measure => simp [intOf]; omega
    · have HX := Lib.hid (idx_none (c := c) (s := s) (fun j hj => HI.out j (by omega)))
      go_wp2_with fail
      go_ret
      exact ⟨ret_int HX.out.symm, rfl⟩

set_option maxHeartbeats 2000000 in
/-- impl.readNumber -/
theorem iread (s : ByteArray) (w : World) (h : s.size ≤ 4294967296) :
    Calls Try.prog 92 #[.string s] w fun e w' => e = .returned (.int .i64 (rdS 10000000 s)) ∧ w = w' := by
  have hb := get_bt s
  by_cases h7 : 7 < s.size
  · have HX := Lib.hid (rdS_long h7)
    go_enter Try.func92, Try.ntmps92
    go_wp2_with fail
    go_ret
    exact ⟨ret_int HX.out.symm, rfl⟩
  · by_cases h1 : s.size = 0
    · have HX := Lib.hid (rdS_empty 10000000 h1)
      go_enter Try.func92, Try.ntmps92
      go_wp2_with fail
      go_ret
      exact ⟨ret_int HX.out.symm, rfl⟩
    · by_cases hl : bt s 0 = 48 ∧ 1 < s.size
      · have HX := Lib.hid (rdS_lead 10000000 hl.2 hl.1)
        obtain ⟨hl1, hl2⟩ := hl
        go_enter Try.func92, Try.ntmps92
        go_wp2_with fail
        go_ret
        exact ⟨ret_int HX.out.symm, rfl⟩
      · by_cases e48 : bt s 0 = 48
        · have e1 : s.size = 1 := by omega
          have HL : Hid (s.size = 1 ∨ bt s 0 ≠ 48) := .inl e1
          go_enter Try.func92, Try.ntmps92
          go_wp2_with fail
          go_loop [3, 4] (fun n i => ∃ k : Nat, k ≤ s.size ∧ i = .int .i64 k ∧ n = .int .i64 (vt s k : Int) ∧ Hid (∀ j, j < k → 48 ≤ bt s j ∧ bt s j ≤ 57)) (fun _ i => s.size - (intOf i).toNat)
          case atStart => exact ⟨0, Nat.zero_le _, rfl, by rw [vt_zero]; rfl, fun j hj => by omega⟩
          case round =>
            obtain ⟨k, hk, rfl, rfl, HI⟩ := hrel
            have hv : vt s k < 10000000 := Nat.lt_of_lt_of_le (vt_bd hk HI.out) (Nat.pow_le_pow_right (n := 10) (by omega) (show k ≤ 7 by omega))
            by_cases hlt : k < s.size
            · have b1 := bt_bd s k
              by_cases h48 : bt s k < 48
              · have HX := Lib.hid (rdS_not (lim := 10000000) hlt (.inl h48))
                go_wp2_with fail
                go_ret
                exact ⟨ret_int HX.out.symm, rfl⟩
              · by_cases h57 : 57 < bt s k
                · have HX := Lib.hid (rdS_not (lim := 10000000) hlt (.inr h57))
                  go_wp2_with fail
                  go_ret
                  exact ⟨ret_int HX.out.symm, rfl⟩
                · have HY : Hid (∀ j, j < k + 1 → 48 ≤ bt s j ∧ bt s j ≤ 57) := fun j hj => by
                    by_cases e : j = k
                    · subst e; omega
                    · exact HI.out j (by omega)
                  have HV := Lib.hid (vt_succ hlt (by omega))
                  generalize vt s k = x at *
                  have t1 : IntKind.u8.wrap (bt s k - 48) = bt s k - 48 := by rw [IntKind.wrap_u8]; omega
                  go_wp2_with fail
                  go_round
                  case rel => exact ⟨k + 1, by omega, by go_num, by rw [HV.out], HY⟩
                  case measure => simp [intOf]; omega
            · have e : k = s.size := by omega
              have HX := Lib.hid (rdS_full (lim := 10000000) (by omega) (fun j hj => HI.out j (by omega)) HL.out (by rw [← e]; exact hv))
              rw [← e] at HX
              go_wp2_with fail
              go_ret
              exact ⟨ret_int (by rw [HX.out, e, e1]), rfl⟩
        · have HL : Hid (s.size = 1 ∨ bt s 0 ≠ 48) := .inr e48
          go_enter Try.func92, Try.ntmps92
          go_wp2_with fail
          go_loop [3, 4] (fun n i => ∃ k : Nat, k ≤ s.size ∧ i = .int .i64 k ∧ n = .int .i64 (vt s k : Int) ∧ Hid (∀ j, j < k → 48 ≤ bt s j ∧ bt s j ≤ 57)) (fun _ i => s.size - (intOf i).toNat)
          case atStart => exact ⟨0, Nat.zero_le _, rfl, by rw [vt_zero]; rfl, fun j hj => by omega⟩
          case round =>
            obtain ⟨k, hk, rfl, rfl, HI⟩ := hrel
            have hv : vt s k < 10000000 := Nat.lt_of_lt_of_le (vt_bd hk HI.out) (Nat.pow_le_pow_right (n := 10) (by omega) (show k ≤ 7 by omega))
            by_cases hlt : k < s.size
            · have b1 := bt_bd s k
              by_cases h48 : bt s k < 48
              · have HX := Lib.hid (rdS_not (lim := 10000000) hlt (.inl h48))
                go_wp2_with fail
                go_ret
                exact ⟨ret_int HX.out.symm, rfl⟩
              · by_cases h57 : 57 < bt s k
                · have HX := Lib.hid (rdS_not (lim := 10000000) hlt (.inr h57))
                  go_wp2_with fail
                  go_ret
                  exact ⟨ret_int HX.out.symm, rfl⟩
                · have HY : Hid (∀ j, j < k + 1 → 48 ≤ bt s j ∧ bt s j ≤ 57) := fun j hj => by
                    by_cases e : j = k
                    · subst e; omega
                    · exact HI.out j (by omega)
                  have HV := Lib.hid (vt_succ hlt (by omega))
                  generalize vt s k = x at *
                  have t1 : IntKind.u8.wrap (bt s k - 48) = bt s k - 48 := by rw [IntKind.wrap_u8]; omega
                  go_wp2_with fail
                  go_round
                  case rel => exact ⟨k + 1, by omega, by go_num, by rw [HV.out], HY⟩
                  case measure => simp [intOf]; omega
            · have e : k = s.size := by omega
              have HX := Lib.hid (rdS_full (lim := 10000000) (by omega) (fun j hj => HI.out j (by omega)) HL.out (by rw [← e]; exact hv))
              rw [← e] at HX
              go_wp2_with fail
              go_ret
              exact ⟨ret_int (by rw [HX.out, e]), rfl⟩
end Go.Proofs.Ythagafkjlecagaa
namespace Go.Proofs.Ythagafkjlecagaa
open Go.RowKit

theorem neq_bool {b : Bool} : (!b) = true ↔ b = false := by cases b <;> simp
set_option maxHeartbeats 2000000 in
/-- spec.readNumber -/
theorem sread (s : ByteArray) (w : World) (h : s.size ≤ 4294967296) :
    Calls Try.prog 108 #[.string s] w fun e w' => e = .returned (.int .i64 (rdS 1000000 s)) ∧ w = w' := by
  have hb := get_bt s
  go_enter Try.func108, Try.ntmps108
  go_wp2_with fail
  go_loop [3, 4] (fun n i => ∃ k : Nat, k ≤ s.size ∧ i = .int .i64 k ∧ n = .int .i64 (vt s k : Int) ∧ vt s k < 1000000 ∧ Hid (∀ j, j < k → 48 ≤ bt s j ∧ bt s j ≤ 57)) (fun _ i => s.size - (intOf i).toNat)
  case atStart => exact ⟨0, Nat.zero_le _, rfl, by rw [vt_zero]; rfl, by rw [vt_zero]; omega, fun j hj => by omega⟩
  case round =>
    obtain ⟨k, hk, rfl, rfl, hv, HI⟩ := hrel
    by_cases hlt : k < s.size
    · have b1 := bt_bd s k
      by_cases h48 : bt s k < 48
      · have HX := Lib.hid (rdS_not (lim := 1000000) hlt (.inl h48))
        go_wp2_with fail
        go_ret
        exact ⟨ret_int HX.out.symm, rfl⟩
      · by_cases h57 : 57 < bt s k
        · have HX := Lib.hid (rdS_not (lim := 1000000) hlt (.inr h57))
          go_wp2_with fail
          go_ret
          exact ⟨ret_int HX.out.symm, rfl⟩
        · have HY : Hid (∀ j, j < k + 1 → 48 ≤ bt s j ∧ bt s j ≤ 57) := fun j hj => by
            by_cases e : j = k
            · subst e; omega
            · exact HI.out j (by omega)
          have hvs := vt_succ hlt (by omega)
          have hbig := rdS_big (lim := 1000000) (s := s) (k := k + 1) (by omega)
          have t1 : IntKind.u8.wrap (bt s k - 48) = bt s k - 48 := by rw [IntKind.wrap_u8]; omega
          by_cases hm : vt s (k + 1) < 1000000
          · have HM := Lib.hid hm
            have hm2 : (vt s k : Int) * 10 + (bt s k - 48) < 1000000 := by omega
            have HV := Lib.hid hvs
            clear hvs hbig hm
            generalize vt s k = x at *
            go_wp2_with fail
            go_round
            case rel => exact ⟨k + 1, by omega, by go_num, by rw [HV.out]; congr 1; omega, HM.out, HY⟩
            case measure => simp [intOf]; omega
          · have HX := Lib.hid (hbig (by omega))
            have hm2 : ¬ (vt s k : Int) * 10 + (bt s k - 48) < 1000000 := by omega
            clear hvs hbig hm
            generalize vt s k = x at *
            go_wp2_with fail
            go_ret
            exact ⟨ret_int HX.out.symm, rfl⟩
    · have e : k = s.size := by omega
      by_cases h0 : s.size = 0
      · have HX := Lib.hid (rdS_empty 1000000 h0)
        have he : s.toList.isEmpty = true := by rw [ByteArray.toList_eq, List.isEmpty_iff]; exact List.length_eq_zero_iff.1 (by rw [bt_len]; exact h0)
        go_wp2_with fail
        go_ret
        exact ⟨ret_int HX.out.symm, rfl⟩
      · have he : s.toList.isEmpty = false := by
          rw [ByteArray.toList_eq, List.isEmpty_eq_false_iff]; exact ne_nil (by omega)
        have ht := rdS_text (lim := 1000000) (s := s) (by omega) (fun j hj => HI.out j (by omega)) (by rw [← e]; exact hv)
        rw [← e] at ht
        have hk0 : ¬ k = 0 := by omega
        generalize vt s k = x at *
        go_wp2_with fail
        refine (snum x x _ _ rfl (Nat.le_refl _) (by omega)).mono ?_
        rintro e w' ⟨rfl, rfl⟩
        cases hq : (s.toList == (txt (decL x)).toList) with
        | true =>
          rw [hq] at ht
          have HX := Lib.hid ht
          clear ht
          go_wp2_with fail
          go_ret
          exact ⟨ret_int HX.out.symm, rfl⟩
        | false =>
          rw [hq] at ht
          have HX := Lib.hid ht
          clear ht
          go_wp2_with fail
          go_ret
          exact ⟨ret_int HX.out.symm, rfl⟩
end Go.Proofs.Ythagafkjlecagaa
namespace Go.Proofs.Ythagafkjlecagaa
open Go.RowKit

theorem idecI (n : Int) (w : World) (h0 : 0 ≤ n) (h : n ≤ 1000000000000000) :
    Calls Try.prog 68 #[.int .i64 n] w fun e w' => e = .returned (.string (txt (decL n.toNat))) ∧ w = w' := by
  obtain ⟨m, rfl⟩ := Int.eq_ofNat_of_zero_le h0
  exact idec m w (by omega)
theorem snumI (n : Int) (w : World) (h0 : 0 ≤ n) (h : n ≤ 1000000000000000) :
    Calls Try.prog 61 #[.int .i64 n] w fun e w' => e = .returned (.string (txt (decL n.toNat))) ∧ w = w' :=
  snum n.toNat n.toNat n w (by omega) (Nat.le_refl _) (by omega)
theorem add_slash (a : List UInt8) (w : World) (h : a.length ≤ 1000) : (Op.stringOp .add (txt a) ({ data := #[47] } : ByteArray)).run Try.prog w = .ok (.string (txt (a ++ [47]))) w := add_txt a [47] w (by simp; omega)
/-- the text of a fraction, "" if it is not valid -/
def fmF (n d : Int) : ByteArray := if Wsh.vfB n d then frT n d else { data := #[] }
theorem fm_yes {n d : Int} (h : Wsh.vfB n d = true) : fmF n d = frT n d := by unfold fmF; rw [h]; rfl
theorem fm_no {n d : Int} (h : Wsh.vfB n d = false) : fmF n d = { data := #[] } := by unfold fmF; rw [h]; rfl
set_option maxHeartbeats 1000000 in
/-- impl.FormatFrac -/
theorem iFmt (n d : Int) (w : World) :
    Calls Try.prog 67 #[.agg #[.int .i64 n, .int .i64 d]] w fun e w' => e = .returned (.string (fmF n d)) ∧ Below w.heap.size w w' := by
  cases hv : Wsh.vfB n d with
  | false =>
    have HX := Lib.hid (fm_no hv)
    go_enter Try.func67, Try.ntmps67
    go_wp2_with fail
    refine (iValid n d _).mono ?_
    rintro e w1 ⟨rfl, hB⟩
    have hB1 : Below w.heap.size w w1 := bel_tr (by go_grown) hB
    rw [hv]
    go_wp2_with fail
    go_ret
    exact ⟨ret_str HX.out.symm, hB1⟩
  | true =>
    have HX := Lib.hid (fm_yes hv)
    obtain ⟨k1, k2, k3, k4, k5⟩ := (Wsh.vfB_iff _ _).1 hv
    clear k5
    have l1 := dec_len19 (m := n.toNat) (by omega)
    have l2 := dec_len19 (m := d.toNat) (by omega)
    have a1 := fun w => add_slash (decL n.toNat) w (by omega)
    have a2 := fun w => add_txt (decL n.toNat ++ [47]) (decL d.toNat) w (by simp; omega)
    go_enter Try.func67, Try.ntmps67
    go_wp2_with fail
    refine (iValid n d _).mono ?_
    rintro e w1 ⟨rfl, hB⟩
    obtain ⟨hc, hf⟩ := bcell hB
    have c0 := hc w.heap.size 0 (by simp)
    have c1 := hc w.heap.size 1 (by simp)
    simp [go_sem] at c0 c1
    have hB1 : Below w.heap.size w w1 := bel_tr (by go_grown) hB
    clear hc hf hB
    have KN := Lib.hid (fun j : Nat => Calls.quiet_of_same (w := w1) (n := j) ((idecI n _ (by omega) (by omega)).mono (fun _ _ h => ⟨h.1, h.2.symm⟩)))
    have KD := Lib.hid (fun j : Nat => Calls.quiet_of_same (w := w1) (n := j) ((idecI d _ (by omega) (by omega)).mono (fun _ _ h => ⟨h.1, h.2.symm⟩)))
    rw [hv]
    go_wp2_with fail
    go_quiet (first | (go_at_call_of 68 (Value.int .i64 n); exact KN.out _) | (go_at_call_of 68 (Value.int .i64 d); exact KD.out _))
    go_wp2
    go_ret
    exact ⟨ret_str (by rw [HX.out]; rfl), below_drewN hB1 _⟩
set_option maxHeartbeats 1000000 in
/-- spec.showFrac -/
theorem sshow (n d : Int) (w : World) (h : 0 ≤ n ∧ n ≤ 1000000000000000) (h2 : 0 ≤ d ∧ d ≤ 1000000000000000) :
    Calls Try.prog 84 #[.agg #[.int .i64 n, .int .i64 d]] w fun e w' => e = .returned (.string (frT n d)) ∧ Below w.heap.size w w' := by
  have l1 := dec_len19 (m := n.toNat) (by omega)
  have l2 := dec_len19 (m := d.toNat) (by omega)
  have a1 := fun w => add_slash (decL n.toNat) w (by omega)
  have a2 := fun w => add_txt (decL n.toNat ++ [47]) (decL d.toNat) w (by simp; omega)
  go_enter Try.func84, Try.ntmps84
  have KN := Lib.hid (fun j : Nat => Calls.quiet_of_same (w := (w.alloc (.cells #[.int .i64 n, .int .i64 d] 31))) (n := j) ((snumI n _ (by omega) (by omega)).mono (fun _ _ h => ⟨h.1, h.2.symm⟩)))
  have KD := Lib.hid (fun j : Nat => Calls.quiet_of_same (w := (w.alloc (.cells #[.int .i64 n, .int .i64 d] 31))) (n := j) ((snumI d _ (by omega) (by omega)).mono (fun _ _ h => ⟨h.1, h.2.symm⟩)))
  go_wp2_with fail
  go_quiet (first | (go_at_call_of 61 (Value.int .i64 n); exact KN.out _) | (go_at_call_of 61 (Value.int .i64 d); exact KD.out _))
  go_wp2
  go_ret
  exact ⟨ret_str rfl, below_drewN (by go_grown) _⟩
end Go.Proofs.Ythagafkjlecagaa
namespace Go.Proofs.Ythagafkjlecagaa
open Go.RowKit
set_option linter.unusedSimpArgs false
set_option linter.unusedVariables false

theorem iown3 (n : Int) (w : World) :
    Calls Try.prog 64 #[.int .i64 n] w fun e w' => e = .returned (.bool (ownB n)) ∧ w = w' := by
  cases a : ownB n with
  | true => exact iowner_yes n w (own_iff.1 a).1 (own_iff.1 a).2
  | false => exact iowner_no n w (by have : ¬ (1 ≤ n ∧ n ≤ 999) := fun c => by rw [own_iff.2 c] at a; cases a
                                     omega)
theorem isml3 (n : Int) (w : World) :
    Calls Try.prog 37 #[.int .i64 n, .int .i64 9999] w fun e w' => e = .returned (.bool (smlB n)) ∧ w = w' := by
  cases a : smlB n with
  | true => exact iwithin_yes n 9999 w (sml_iff.1 a).1 (sml_iff.1 a).2
  | false => exact iwithin_no n 9999 w (by have : ¬ (0 ≤ n ∧ n ≤ 9999) := fun c => by rw [sml_iff.2 c] at a; cases a
                                           omega)
/-- impl.spaced -/
theorem ispaced (n : Int) (w : World) (h0 : 0 ≤ n) (h : n ≤ 1000000) :
    Calls Try.prog 39 #[.int .i64 n] w fun e w' => e = .returned (.string (txt (spT n))) ∧ w = w' := by
  have l1 := nT_len h0 h
  have CD := idecI n w h0 (by omega)
  have HX : Hid (spT n = 32 :: decL n.toNat) := Lib.hid rfl
  unfold nT at l1
  generalize decL n.toNat = X at *
  have a1 : ∀ w, (Op.stringOp .add ({ data := #[32] } : ByteArray) (txt X)).run Try.prog w = .ok (.string (txt ([32] ++ X))) w := fun w => add_txt [32] X w (by simp <;> omega)
  go_enter Try.func39, Try.ntmps39
  go_wp2_with fail
  refine CD.mono ?_
  rintro e w' ⟨rfl, rfl⟩
  go_wp2_with fail
  go_ret
  exact ⟨ret_str (by rw [HX.out] <;> rfl), rfl⟩
set_option maxRecDepth 100000 in
set_option maxHeartbeats 4000000 in
/-- impl.formatHeirs -/
theorem ifmtH (A : Option Addr) (cz : Nat) (x : Dd) (w : World) (h : IsInts w A x.zs) (hn : x.zs.length ≤ 12) (ho : ownB x.o = true) :
    Calls Try.prog 65 #[.agg #[.int .i64 x.k, .int .i64 x.o, .int .i64 x.t, .int .i64 x.n, .int .i64 x.d, .slice A x.zs.length cz]] w fun e w' => e = .returned (.string (txt (hrV x.o x.zs))) ∧ Below w.heap.size w w' := by
  obtain ⟨dk, o, t, n, d, zs⟩ := x
  dsimp only at h hn ho ⊢
  have B := (Below.refl w.heap.size w).alloc (Nat.le_refl _) (.cells #[.int .i64 dk, .int .i64 o, .int .i64 t, .int .i64 n, .int .i64 d, .slice A zs.length cz] 33)
  have K := Blk.new w 33 #[.int .i64 dk, .int .i64 o, .int .i64 t, .int .i64 n, .int .i64 d, .slice A zs.length cz]
  have hI := ints_below h B
  have bo := own_bd ho
  clear h ho
  generalize hU : w.alloc (.cells #[.int .i64 dk, .int .i64 o, .int .i64 t, .int .i64 n, .int .i64 d, .slice A zs.length cz] 33) = U at B K hI
  obtain ⟨q0, q1, q2, q3, q4, q5⟩ := cells6 K
  have HU := Lib.hid hU
  have HI := Lib.hid hI
  have l0 := spT_len (n := o) bo.1 (by omega)
  have CO := ispaced o U bo.1 (by omega)
  have a0 : ∀ w, (Op.stringOp .add ({ data := #[105, 110, 104, 101, 114, 105, 116] } : ByteArray) (txt (spT o))).run Try.prog w = .ok (.string (txt (hrT o zs 0))) w := fun w => by rw [hr_zero]; exact add_txt kInh (spT o) w (by simp [kInh]; omega)
  have HL := Lib.hid (fun k hk => hr_len (o := o) (zs := zs) ⟨bo.1, by omega⟩ k hk)
  clear hU hI K bo l0
  go_enter Try.func65, Try.ntmps65
  go_wp2_with fail
  rw [HU.out]
  refine CO.mono ?_
  rintro e w' ⟨rfl, rfl⟩
  go_wp2_with fail
  clear CO a0
  go_loop [3, 13] (fun tx i => ∃ k : Nat, k ≤ zs.length ∧ i = .int .i64 k ∧ tx = .string (txt (hrT o zs k)) ∧ Hid (∀ j, j < k → ownB (zs.getD j 0) = true)) (fun _ i => zs.length - (intOf i).toNat)
  case atStart => exact ⟨0, Nat.zero_le _, rfl, rfl, fun j hj => absurd hj (Nat.not_lt_zero _)⟩
  case round =>
    obtain ⟨k, hk, rfl, rfl, HO⟩ := hrel
    by_cases hlt : k < zs.length
    · rcases HI.out with hz | ⟨g, off, rfl, hc⟩
      · rw [hz] at hlt; exact absurd hlt (Nat.not_lt_zero _)
      have c0 := hc k hlt
      clear hc
      have hk0 : (0 : Int) ≤ (k : Int) := by omega
      have hk1 : (k : Int) < (zs.length : Int) := by omega
      cases ez : ownB (zs.getD k 0) with
      | false =>
        have HX : Hid ((hrV o zs) = []) := Lib.hid (by unfold hrV; rw [all_not hlt ez]; rfl)
        have CW := iown3 (zs.getD k 0) U
        rw [ez] at CW
        clear ez
        generalize zs.getD k 0 = z at *
        go_wp2_with fail
        refine CW.mono ?_
        rintro e w' ⟨rfl, rfl⟩
        go_wp2_with fail
        go_ret
        exact ⟨ret_str (by rw [HX.out] <;> rfl), B⟩
      | true =>
        have bz := own_bd ez
        have HN := Lib.hid (hr_next (o := o) hlt)
        have HO2 : Hid (∀ j, j < k + 1 → ownB (zs.getD j 0) = true) := fun j hj => by
          by_cases e : j = k
          · subst e; exact ez
          · exact HO.out j (by omega)
        have l1 := HL.out k (fun j hj _ => by have := own_bd (HO.out j hj); omega)
        have l2 := spT_len (n := zs.getD k 0) bz.1 (by omega)
        have CW := iown3 (zs.getD k 0) U
        have CS := ispaced (zs.getD k 0) U bz.1 (by omega)
        rw [ez] at CW
        clear ez bz
        generalize zs.getD k 0 = z at *
        generalize hrT o zs k = T at *
        have a1 := fun w => add_txt T (spT z) w (by omega)
        clear l1 l2
        generalize spT z = Z at *
        go_wp2_with fail
        refine CW.mono ?_
        rintro e w' ⟨rfl, rfl⟩
        go_wp2_with fail
        refine CS.mono ?_
        rintro e w' ⟨rfl, rfl⟩
        go_wp2_with fail
        go_round
        case rel => exact ⟨k + 1, by omega, by go_num, by rw [HN.out], HO2⟩
        case measure => simp [intOf]; omega
    · obtain rfl : k = zs.length := by omega
      have HX : Hid ((hrV o zs) = hrT o zs zs.length) := Lib.hid (by unfold hrV; rw [all_up HO.out]; rfl)
      go_wp2_with fail
      go_ret
      exact ⟨ret_str (by rw [HX.out]), B⟩
set_option maxRecDepth 100000 in
set_option maxHeartbeats 4000000 in
/-- impl.formatDeed -/
theorem ifmtD (A : Option Addr) (cz : Nat) (x : Dd) (w : World) (h : IsInts w A x.zs) :
    Calls Try.prog 38 #[.agg #[.int .i64 x.k, .int .i64 x.o, .int .i64 x.t, .int .i64 x.n, .int .i64 x.d, .slice A x.zs.length cz]] w fun e w' => e = .returned (.string (txt (ddT x))) ∧ Below w.heap.size w w' := by
  obtain ⟨dk, o, t, n, d, zs⟩ := x
  dsimp only at h ⊢
  have B := (Below.refl w.heap.size w).alloc (Nat.le_refl _) (.cells #[.int .i64 dk, .int .i64 o, .int .i64 t, .int .i64 n, .int .i64 d, .slice A zs.length cz] 33)
  have K := Blk.new w 33 #[.int .i64 dk, .int .i64 o, .int .i64 t, .int .i64 n, .int .i64 d, .slice A zs.length cz]
  have hI := ints_below h B
  clear h
  generalize hU : w.alloc (.cells #[.int .i64 dk, .int .i64 o, .int .i64 t, .int .i64 n, .int .i64 d, .slice A zs.length cz] 33) = U at B K hI
  obtain ⟨q0, q1, q2, q3, q4, q5⟩ := cells6 K
  have HU := Lib.hid hU
  have HI := Lib.hid hI
  have hlt0 := K.lt
  clear hU hI K
  have HOUT := Lib.hid (dd_out (x := ⟨dk, o, t, n, d, zs⟩))
  dsimp only at HOUT
  cases e1 : ownB o with
  | false =>
    have HX : Hid (txt (ddT ⟨dk, o, t, n, d, zs⟩) = txt []) := Lib.hid (by rw [HOUT.out (by rw [e1]; simp)])
    clear HOUT
    have CW := iown3 o U
    rw [e1] at CW
    clear e1
    go_enter Try.func38, Try.ntmps38
    go_wp2_with fail
    rw [HU.out]
    refine CW.mono ?_
    rintro e w' ⟨rfl, rfl⟩
    go_wp2_with fail
    go_ret
    exact ⟨ret_str HX.out.symm, B⟩
  | true =>
    have bo := own_bd e1
    by_cases e2 : zs.length ≤ 12
    case neg =>
      have HX : Hid (txt (ddT ⟨dk, o, t, n, d, zs⟩) = txt []) := Lib.hid (by rw [HOUT.out (fun c => e2 c.2)])
      have z2 : ¬ (zs.length : Int) ≤ 12 := by omega
      have z3 : (12 : Int) < (zs.length : Int) := by omega
      clear HOUT
      have CW := iown3 o U
      rw [e1] at CW
      clear e1 e2
      go_enter Try.func38, Try.ntmps38
      go_wp2_with fail
      rw [HU.out]
      refine CW.mono ?_
      rintro e w' ⟨rfl, rfl⟩
      go_wp2_with fail
      go_ret
      exact ⟨ret_str HX.out.symm, B⟩
    clear HOUT
    have z2 : ¬ (12 : Int) < (zs.length : Int) := by omega
    have CW := iown3 o U
    rw [e1] at CW
    by_cases c1 : dk = 1
    · subst c1
      have CH := ifmtH A cz ⟨1, o, t, n, d, zs⟩ U HI.out e2 e1
      dsimp only at CH
      have HX : Hid (txt (ddT ⟨1, o, t, n, d, zs⟩) = txt (hrV o zs)) := Lib.hid (by
        cases z : zs.all ownB with
        | true => rw [dd_inh (x := ⟨1, o, t, n, d, zs⟩) ⟨e1, e2⟩ rfl z]; unfold hrV; rw [z]; rfl
        | false => rw [dd_inhN (x := ⟨1, o, t, n, d, zs⟩) rfl z]; unfold hrV; rw [z]; rfl)
      clear e1 e2
      go_enter Try.func38, Try.ntmps38
      go_wp2_with fail
      rw [HU.out]
      refine CW.mono ?_
      rintro e w' ⟨rfl, rfl⟩
      go_wp2_with fail
      refine CH.mono ?_
      rintro e w' ⟨rfl, C⟩
      have B2 := bel_tr B C
      go_wp2_with fail
      go_ret
      exact ⟨ret_str HX.out.symm, B2⟩
    have CT := iown3 t U
    cases e3 : ownB t with
    | false =>
      have HX : Hid (txt (ddT ⟨dk, o, t, n, d, zs⟩) = txt []) := Lib.hid (by rw [dd_oth (x := ⟨dk, o, t, n, d, zs⟩) c1 e3])
      rw [e3] at CT
      clear e1 e2 e3
      go_enter Try.func38, Try.ntmps38
      go_wp2_with fail
      rw [HU.out]
      refine CW.mono ?_
      rintro e w' ⟨rfl, rfl⟩
      go_wp2_with fail
      refine CT.mono ?_
      rintro e w' ⟨rfl, rfl⟩
      go_wp2_with fail
      go_ret
      exact ⟨ret_str HX.out.symm, B⟩
    | true =>
      have bt_ := own_bd e3
      rw [e3] at CT
      have lo := spT_len (n := o) bo.1 (by omega)
      have lt_ := spT_len (n := t) bt_.1 (by omega)
      have CSO := fun W => ispaced o W bo.1 (by omega)
      have CST := fun W => ispaced t W bt_.1 (by omega)
      by_cases c2 : dk = 2
      · subst c2
        have HX : Hid (txt (ddT ⟨2, o, t, n, d, zs⟩) = txt (kJoin ++ spT o ++ spT t)) := Lib.hid (by rw [dd_join (x := ⟨2, o, t, n, d, zs⟩) ⟨e1, e2⟩ rfl e3])
        have a1 : ∀ w, (Op.stringOp .add ({ data := #[106, 111, 105, 110] } : ByteArray) (txt (spT o))).run Try.prog w = .ok (.string (txt (kJoin ++ spT o))) w := fun w => add_txt kJoin (spT o) w (by simp [kJoin]; omega)
        have a2 := fun w => add_txt (kJoin ++ spT o) (spT t) w (by simp [kJoin]; omega)
        clear e1 e2 e3 lo lt_ bo bt_
        generalize spT o = X1 at *
        generalize spT t = X2 at *
        have KQ0 := Lib.hid (fun j : Nat => Calls.quiet_of_same (w := U) (n := j) ((CSO _).mono (fun _ _ h => ⟨h.1, h.2.symm⟩)))
        have KQ1 := Lib.hid (fun j : Nat => Calls.quiet_of_same (w := U) (n := j) ((CST _).mono (fun _ _ h => ⟨h.1, h.2.symm⟩)))
        clear CSO CST
        go_enter Try.func38, Try.ntmps38
        go_wp2_with fail
        rw [HU.out]
        refine CW.mono ?_
        rintro e w' ⟨rfl, rfl⟩
        go_wp2_with fail
        refine CT.mono ?_
        rintro e w' ⟨rfl, rfl⟩
        go_wp2_with fail
        go_quiet (first | (go_at_call_of 39 (Value.int .i64 o); exact KQ0.out _) | (go_at_call_of 39 (Value.int .i64 t); exact KQ1.out _) | fail)
        go_wp2_with fail
        go_ret
        exact ⟨ret_str HX.out.symm, below_drewN B _⟩
      by_cases c0 : dk = 0
      · subst c0
        cases e4 : Wsh.vfB n d with
        | false =>
          have HX : Hid (txt (ddT ⟨0, o, t, n, d, zs⟩) = txt []) := Lib.hid (by rw [dd_sellN (x := ⟨0, o, t, n, d, zs⟩) rfl e4])
          have CV := iValid n d U
          rw [e4] at CV
          clear e1 e2 e3 e4 lo lt_ bo bt_ CSO CST
          go_enter Try.func38, Try.ntmps38
          go_wp2_with fail
          rw [HU.out]
          refine CW.mono ?_
          rintro e w' ⟨rfl, rfl⟩
          go_wp2_with fail
          refine CT.mono ?_
          rintro e w' ⟨rfl, rfl⟩
          go_wp2_with fail
          refine CV.mono ?_
          rintro e w' ⟨rfl, C⟩
          have B2 := bel_tr B C
          go_wp2_with fail
          go_ret
          exact ⟨ret_str HX.out.symm, B2⟩
        | true =>
          have HX : Hid (txt (ddT ⟨0, o, t, n, d, zs⟩) = txt (kSell ++ spT o ++ spT t ++ [32] ++ (frT n d).data.toList)) := Lib.hid (by rw [dd_sell (x := ⟨0, o, t, n, d, zs⟩) ⟨e1, e2⟩ rfl e3 e4])
          have CV := iValid n d U
          rw [e4] at CV
          obtain ⟨y1, y2, y3, y4, _⟩ := (Wsh.vfB_iff _ _).1 e4
          have CF : ∀ W, Calls Try.prog 67 #[.agg #[.int .i64 n, .int .i64 d]] W fun e w' => e = .returned (.string (frT n d)) ∧ Below W.heap.size W w' := fun W => by have := iFmt n d W; rw [fm_yes e4] at this; exact this
          have lF : (frT n d).data.toList.length ≤ 40 := by
            rw [frT_list]
            have := dec_len 15 n.toNat (by omega)
            have := dec_len 15 d.toNat (by omega)
            simp; omega
          have eF : frT n d = txt (frT n d).data.toList := rfl
          rw [eF] at CF
          clear eF
          have a1 : ∀ w, (Op.stringOp .add ({ data := #[115, 101, 108, 108] } : ByteArray) (txt (spT o))).run Try.prog w = .ok (.string (txt (kSell ++ spT o))) w := fun w => add_txt kSell (spT o) w (by simp [kSell]; omega)
          have a2 := fun w => add_txt (kSell ++ spT o) (spT t) w (by simp [kSell]; omega)
          have a3 : ∀ w, (Op.stringOp .add (txt (kSell ++ spT o ++ spT t)) ({ data := #[32] } : ByteArray)).run Try.prog w = .ok (.string (txt (kSell ++ spT o ++ spT t ++ [32]))) w := fun w => add_txt (kSell ++ spT o ++ spT t) [32] w (by simp [kSell]; omega)
          generalize (frT n d).data.toList = F at *
          have a4 := fun w => add_txt (kSell ++ spT o ++ spT t ++ [32]) F w (by simp [kSell]; omega)
          clear e1 e2 e3 e4 lo lt_ bo bt_ y1 y2 y3 y4 lF
          generalize kSell ++ spT o ++ spT t ++ [32] ++ F = X4 at *
          generalize kSell ++ spT o ++ spT t ++ [32] = X3 at *
          generalize kSell ++ spT o ++ spT t = X2 at *
          generalize kSell ++ spT o = X1 at *
          generalize spT o = Y1 at *
          generalize spT t = Y2 at *
          go_enter Try.func38, Try.ntmps38
          go_wp2_with fail
          rw [HU.out]
          refine CW.mono ?_
          rintro e w' ⟨rfl, rfl⟩
          go_wp2_with fail
          refine CT.mono ?_
          rintro e w' ⟨rfl, rfl⟩
          go_wp2_with fail
          refine CV.mono ?_
          rintro e U2 ⟨rfl, C⟩
          have B2 := bel_tr B C
          have HSO := Lib.hid CSO
          have HST := Lib.hid CST
          have HSF := Lib.hid CF
          clear CSO CST CF
          replace q0 := ((C).cell (p := ⟨w.heap.size, 0, none⟩) hlt0).trans q0
          replace q1 := ((C).cell (p := ⟨w.heap.size, 1, none⟩) hlt0).trans q1
          replace q2 := ((C).cell (p := ⟨w.heap.size, 2, none⟩) hlt0).trans q2
          replace q3 := ((C).cell (p := ⟨w.heap.size, 3, none⟩) hlt0).trans q3
          replace q4 := ((C).cell (p := ⟨w.heap.size, 4, none⟩) hlt0).trans q4
          replace q5 := ((C).cell (p := ⟨w.heap.size, 5, none⟩) hlt0).trans q5
          have hlt1 : w.heap.size < U2.heap.size := Nat.lt_of_lt_of_le hlt0 C.size
          clear C HI CW CT CV
          go_wp2_with fail
          have HMK1 := Lib.hid (fun (W : World) (hW : Below U2.heap.size U2 W) => (⟨⟨(hW.cell (p := ⟨w.heap.size, 0, none⟩) (hlt1)).trans q0, (hW.cell (p := ⟨w.heap.size, 1, none⟩) (hlt1)).trans q1, (hW.cell (p := ⟨w.heap.size, 2, none⟩) (hlt1)).trans q2, (hW.cell (p := ⟨w.heap.size, 3, none⟩) (hlt1)).trans q3, (hW.cell (p := ⟨w.heap.size, 4, none⟩) (hlt1)).trans q4, (hW.cell (p := ⟨w.heap.size, 5, none⟩) (hlt1)).trans q5⟩, hW⟩ : (W.cell? ⟨w.heap.size, 0, none⟩ = some (.int .i64 0) ∧ W.cell? ⟨w.heap.size, 1, none⟩ = some (.int .i64 o) ∧ W.cell? ⟨w.heap.size, 2, none⟩ = some (.int .i64 t) ∧ W.cell? ⟨w.heap.size, 3, none⟩ = some (.int .i64 n) ∧ W.cell? ⟨w.heap.size, 4, none⟩ = some (.int .i64 d) ∧ W.cell? ⟨w.heap.size, 5, none⟩ = some (.slice A zs.length cz)) ∧ Below U2.heap.size U2 W))
          refine wp_region_held_drew (S := (fun w' => (w'.cell? ⟨w.heap.size, 0, none⟩ = some (.int .i64 0) ∧ w'.cell? ⟨w.heap.size, 1, none⟩ = some (.int .i64 o) ∧ w'.cell? ⟨w.heap.size, 2, none⟩ = some (.int .i64 t) ∧ w'.cell? ⟨w.heap.size, 3, none⟩ = some (.int .i64 n) ∧ w'.cell? ⟨w.heap.size, 4, none⟩ = some (.int .i64 d) ∧ w'.cell? ⟨w.heap.size, 5, none⟩ = some (.slice A zs.length cz)) ∧ Below U2.heap.size U2 w')) (by kernel_rfl) ?_ (fun hHeld => ?_)
          · exact ⟨⟨q0, q1, q2, q3, q4, q5⟩, (Below.refl _ _).drew⟩
          refine wpAnyH_take (i := 0) (oi := ?ooa2_) (v := ?vva2_) ?hia2_ (by kernel_rfl) ?h3a2_ ?h4a2_ ?h5a2_ ?h6a2_ (by assumption) ?h8a2_
          case hia2_ => (simp only [List.getElem?_toArray, List.getElem?_cons_succ, List.getElem?_cons_zero]; rfl)
          case h3a2_ => kernel_rfl
          case h4a2_ => kernel_rfl
          case h6a2_ => (refine Or.inl ⟨by rfl, ?_⟩; intro w hSw; (try dsimp only at hSw); (go_simp <;> with_reducible rfl))
          case h5a2_ => exact fun _ _ _ h => h
          try simp only [Act.put, List.setIfInBounds_toArray, List.set_cons_zero, List.set_cons_succ]
          refine wpAnyH_take (i := 1) (oi := ?ooa3_) (v := ?vva3_) ?hia3_ (by kernel_rfl) ?h3a3_ ?h4a3_ ?h5a3_ ?h6a3_ (by assumption) ?h8a3_
          case hia3_ => (simp only [List.getElem?_toArray, List.getElem?_cons_succ, List.getElem?_cons_zero]; rfl)
          case h3a3_ => kernel_rfl
          case h4a3_ => kernel_rfl
          case h6a3_ => (refine Or.inl ⟨by rfl, ?_⟩; intro w hSw; (try dsimp only at hSw); (go_simp <;> with_reducible rfl))
          case h5a3_ => exact fun _ _ _ h => h
          try simp only [Act.put, List.setIfInBounds_toArray, List.set_cons_zero, List.set_cons_succ]
          refine wpAnyH_take (i := 4) (oi := ?ooa4_) (v := ?vva4_) ?hia4_ (by kernel_rfl) ?h3a4_ ?h4a4_ ?h5a4_ ?h6a4_ (by assumption) ?h8a4_
          case hia4_ => (simp only [List.getElem?_toArray, List.getElem?_cons_succ, List.getElem?_cons_zero]; rfl)
          case h3a4_ => kernel_rfl
          case h4a4_ => kernel_rfl
          case h6a4_ => (refine Or.inl ⟨by rfl, ?_⟩; intro w hSw; (try dsimp only at hSw); (go_simp <;> with_reducible rfl))
          case h5a4_ => exact fun _ _ _ h => h
          try simp only [Act.put, List.setIfInBounds_toArray, List.set_cons_zero, List.set_cons_succ]
          refine wpAnyH_take (i := 5) (oi := ?ooa5_) (v := ?vva5_) ?hia5_ (by kernel_rfl) ?h3a5_ ?h4a5_ ?h5a5_ ?h6a5_ (by assumption) ?h8a5_
          case hia5_ => (simp only [List.getElem?_toArray, List.getElem?_cons_succ, List.getElem?_cons_zero]; rfl)
          case h3a5_ => kernel_rfl
          case h4a5_ => kernel_rfl
          case h6a5_ => (refine Or.inl ⟨by rfl, ?_⟩; intro w hSw; (try dsimp only at hSw); (go_simp <;> with_reducible rfl))
          case h5a5_ => exact fun _ _ _ h => h
          try simp only [Act.put, List.setIfInBounds_toArray, List.set_cons_zero, List.set_cons_succ]
          refine wpAnyH_take (i := 9) (oi := ?ooa6_) (v := ?vva6_) ?hia6_ (by kernel_rfl) ?h3a6_ ?h4a6_ ?h5a6_ ?h6a6_ (by assumption) ?h8a6_
          case hia6_ => (simp only [List.getElem?_toArray, List.getElem?_cons_succ, List.getElem?_cons_zero]; rfl)
          case h3a6_ => kernel_rfl
          case h4a6_ => kernel_rfl
          case h6a6_ => (refine Or.inl ⟨by rfl, ?_⟩; intro w hSw; (try dsimp only at hSw); (go_simp <;> with_reducible rfl))
          case h5a6_ => exact fun _ _ _ h => h
          try simp only [Act.put, List.setIfInBounds_toArray, List.set_cons_zero, List.set_cons_succ]
          refine wpAnyH_take (i := 10) (oi := ?ooa7_) (v := ?vva7_) ?hia7_ (by kernel_rfl) ?h3a7_ ?h4a7_ ?h5a7_ ?h6a7_ (by assumption) ?h8a7_
          case hia7_ => (simp only [List.getElem?_toArray, List.getElem?_cons_succ, List.getElem?_cons_zero]; rfl)
          case h3a7_ => kernel_rfl
          case h4a7_ => kernel_rfl
          case h6a7_ => (refine Or.inl ⟨by rfl, ?_⟩; intro w hSw; (try dsimp only at hSw); (go_simp <;> with_reducible rfl))
          case h5a7_ => exact fun _ _ _ h => h
          try simp only [Act.put, List.setIfInBounds_toArray, List.set_cons_zero, List.set_cons_succ]
          refine wpAnyH_ready (rs := [2]) (by kernel_rfl) (by simp) (AllReadyH.cons (o := ?ooa8_q0) ?hia8_q0 (fun K hK => ?hka8_q0) AllReadyH.nil)
          case hia8_q0 => (simp only [List.getElem?_toArray, List.getElem?_cons_succ, List.getElem?_cons_zero]; rfl)
          case hka8_q0 =>
            (rw [if_pos (by rfl)]; go_simp; refine (HSO.out _).mono ?_; rintro e w' ⟨rfl, rfl⟩; go_wp2_with fail; refine hK.out _ _ (hHeld) (fun hHeld => ?_); clear hK K)
            try simp only [Act.put, List.setIfInBounds_toArray, List.set_cons_zero, List.set_cons_succ]
            refine wpAnyH_take (i := 3) (oi := ?ooa9_) (v := ?vva9_) ?hia9_ (by kernel_rfl) ?h3a9_ ?h4a9_ ?h5a9_ ?h6a9_ (by assumption) ?h8a9_
            case hia9_ => (simp only [List.getElem?_toArray, List.getElem?_cons_succ, List.getElem?_cons_zero]; rfl)
            case h3a9_ => kernel_rfl
            case h4a9_ => kernel_rfl
            case h6a9_ => (refine Or.inl ⟨by rfl, ?_⟩; intro w hSw; (try dsimp only at hSw); (go_simp <;> with_reducible rfl))
            case h5a9_ => exact fun _ _ _ h => h
            try simp only [Act.put, List.setIfInBounds_toArray, List.set_cons_zero, List.set_cons_succ]
            refine wpAnyH_ready (rs := [6]) (by kernel_rfl) (by simp) (AllReadyH.cons (o := ?ooa10_q0) ?hia10_q0 (fun K hK => ?hka10_q0) AllReadyH.nil)
            case hia10_q0 => (simp only [List.getElem?_toArray, List.getElem?_cons_succ, List.getElem?_cons_zero]; rfl)
            case hka10_q0 =>
              (rw [if_pos (by rfl)]; go_simp; refine (HST.out _).mono ?_; rintro e w' ⟨rfl, rfl⟩; go_wp2_with fail; refine hK.out _ _ (hHeld) (fun hHeld => ?_); clear hK K)
              try simp only [Act.put, List.setIfInBounds_toArray, List.set_cons_zero, List.set_cons_succ]
              refine wpAnyH_take (i := 7) (oi := ?ooa11_) (v := ?vva11_) ?hia11_ (by kernel_rfl) ?h3a11_ ?h4a11_ ?h5a11_ ?h6a11_ (by assumption) ?h8a11_
              case hia11_ => (simp only [List.getElem?_toArray, List.getElem?_cons_succ, List.getElem?_cons_zero]; rfl)
              case h3a11_ => kernel_rfl
              case h4a11_ => kernel_rfl
              case h6a11_ => (refine Or.inl ⟨by rfl, ?_⟩; intro w hSw; (try dsimp only at hSw); (go_simp <;> with_reducible rfl))
              case h5a11_ => exact fun _ _ _ h => h
              try simp only [Act.put, List.setIfInBounds_toArray, List.set_cons_zero, List.set_cons_succ]
              refine wpAnyH_take (i := 8) (oi := ?ooa12_) (v := ?vva12_) ?hia12_ (by kernel_rfl) ?h3a12_ ?h4a12_ ?h5a12_ ?h6a12_ (by assumption) ?h8a12_
              case hia12_ => (simp only [List.getElem?_toArray, List.getElem?_cons_succ, List.getElem?_cons_zero]; rfl)
              case h3a12_ => kernel_rfl
              case h4a12_ => kernel_rfl
              case h6a12_ => (refine Or.inl ⟨by rfl, ?_⟩; intro w hSw; (try dsimp only at hSw); (go_simp <;> with_reducible rfl))
              case h5a12_ => exact fun _ _ _ h => h
              try simp only [Act.put, List.setIfInBounds_toArray, List.set_cons_zero, List.set_cons_succ]
              refine wpAnyH_ready (rs := [11]) (by kernel_rfl) (by simp) (AllReadyH.cons (o := ?ooa13_q0) ?hia13_q0 (fun K hK => ?hka13_q0) AllReadyH.nil)
              case hia13_q0 => (simp only [List.getElem?_toArray, List.getElem?_cons_succ, List.getElem?_cons_zero]; rfl)
              case hka13_q0 =>
                (rw [if_pos (by rfl)]; go_simp; refine (HSF.out _).mono ?_; rintro e w11_ ⟨rfl, C_⟩; go_wp2_with fail; refine hK.out _ _ (HMK1.out _ (bel_tr hHeld.2 C_)) (fun hHeld => ?_); clear hK K)
                try simp only [Act.put, List.setIfInBounds_toArray, List.set_cons_zero, List.set_cons_succ]
                refine wpAnyH_take (i := 12) (oi := ?ooa14_) (v := ?vva14_) ?hia14_ (by kernel_rfl) ?h3a14_ ?h4a14_ ?h5a14_ ?h6a14_ (by assumption) ?h8a14_
                case hia14_ => (simp only [List.getElem?_toArray, List.getElem?_cons_succ, List.getElem?_cons_zero]; rfl)
                case h3a14_ => kernel_rfl
                case h4a14_ => kernel_rfl
                case h6a14_ => (refine Or.inl ⟨by rfl, ?_⟩; intro w hSw; (try dsimp only at hSw); (go_simp <;> with_reducible rfl))
                case h5a14_ => exact fun _ _ _ h => h
                try simp only [Act.put, List.setIfInBounds_toArray, List.set_cons_zero, List.set_cons_succ]
                refine wpAnyH_take (i := 13) (oi := ?ooa15_) (v := ?vva15_) ?hia15_ (by kernel_rfl) ?h3a15_ ?h4a15_ ?h5a15_ ?h6a15_ (by assumption) ?h8a15_
                case hia15_ => (simp only [List.getElem?_toArray, List.getElem?_cons_succ, List.getElem?_cons_zero]; rfl)
                case h3a15_ => kernel_rfl
                case h4a15_ => kernel_rfl
                case h6a15_ => (refine Or.inl ⟨by rfl, ?_⟩; intro w hSw; (try dsimp only at hSw); (go_simp <;> with_reducible rfl))
                case h5a15_ => exact fun _ _ _ h => h
                try simp only [Act.put, List.setIfInBounds_toArray, List.set_cons_zero, List.set_cons_succ]
                refine wpAnyH_done (by kernel_rfl) ?_ _
                clear HMK1
                have B3 := bel_tr B2 hHeld.2
                clear hHeld
                go_wp2_with fail
                go_ret
                exact ⟨ret_str HX.out.symm, B3⟩
      · have HX : Hid (txt (ddT ⟨dk, o, t, n, d, zs⟩) = txt []) := Lib.hid (by rw [dd_none (x := ⟨dk, o, t, n, d, zs⟩) c0 c1 c2])
        clear e1 e2 e3 lo lt_ bo bt_ CSO CST
        go_enter Try.func38, Try.ntmps38
        go_wp2_with fail
        rw [HU.out]
        refine CW.mono ?_
        rintro e w' ⟨rfl, rfl⟩
        go_wp2_with fail
        refine CT.mono ?_
        rintro e w' ⟨rfl, rfl⟩
        go_wp2_with fail
        go_ret
        exact ⟨ret_str HX.out.symm, B⟩
end Go.Proofs.Ythagafkjlecagaa
namespace Go.Proofs.Ythagafkjlecagaa
open Go.RowKit
set_option linter.unusedSimpArgs false
set_option linter.unusedVariables false
set_option maxRecDepth 100000 in
set_option maxHeartbeats 4000000 in
/-- impl.FormatEvent -/
theorem iFmtE (A : Option Addr) (cz : Nat) (x : Ev) (w : World) (h : IsInts w A x.dd.zs) :
    Calls Try.prog 13 #[.agg #[.int .i64 x.k, .int .i64 x.dd.k, .int .i64 x.dd.o, .int .i64 x.dd.t, .int .i64 x.dd.n, .int .i64 x.dd.d, .slice A x.dd.zs.length cz, .int .i64 x.at_, .int .i64 x.nu]] w fun e w' => e = .returned (.string (fmE x)) ∧ Below w.heap.size w w' := by
  obtain ⟨k, ⟨dk, o, t, n, d, zs⟩, at_, nu⟩ := x
  dsimp only at h ⊢
  have B := (Below.refl w.heap.size w).alloc (Nat.le_refl _) (.cells #[.int .i64 k, .int .i64 dk, .int .i64 o, .int .i64 t, .int .i64 n, .int .i64 d, .slice A zs.length cz, .int .i64 at_, .int .i64 nu] 35)
  have K := Blk.new w 35 #[.int .i64 k, .int .i64 dk, .int .i64 o, .int .i64 t, .int .i64 n, .int .i64 d, .slice A zs.length cz, .int .i64 at_, .int .i64 nu]
  have hI := ints_below h B
  clear h
  generalize hU : w.alloc (.cells #[.int .i64 k, .int .i64 dk, .int .i64 o, .int .i64 t, .int .i64 n, .int .i64 d, .slice A zs.length cz, .int .i64 at_, .int .i64 nu] 35) = U at B K hI
  obtain ⟨q0, q1, q2, q3, q4, q5, q6, q7, q8⟩ := cells9 K
  have HU := Lib.hid hU
  have HI := Lib.hid hI
  have hlt0 := K.lt
  clear hU hI K
  have HOUT := Lib.hid (ev_out (e := ⟨k, ⟨dk, o, t, n, d, zs⟩, at_, nu⟩))
  dsimp only at HOUT
  have CA := isml3 at_ U
  have CN := isml3 nu U
  cases e1 : smlB at_ with
  | false =>
    have HX : Hid (fmE ⟨k, ⟨dk, o, t, n, d, zs⟩, at_, nu⟩ = txt []) := Lib.hid (HOUT.out (by rw [e1]; simp))
    rw [e1] at CA
    clear HOUT e1 CN
    go_enter Try.func13, Try.ntmps13
    go_wp2_with fail
    rw [HU.out]
    refine CA.mono ?_
    rintro e w' ⟨rfl, rfl⟩
    go_wp2_with fail
    go_ret
    exact ⟨ret_str HX.out.symm, B⟩
  | true =>
    rw [e1] at CA
    cases e2 : smlB nu with
    | false =>
      have HX : Hid (fmE ⟨k, ⟨dk, o, t, n, d, zs⟩, at_, nu⟩ = txt []) := Lib.hid (HOUT.out (by rw [e2]; simp))
      rw [e2] at CN
      clear HOUT e1 e2
      go_enter Try.func13, Try.ntmps13
      go_wp2_with fail
      rw [HU.out]
      refine CA.mono ?_
      rintro e w' ⟨rfl, rfl⟩
      go_wp2_with fail
      refine CN.mono ?_
      rintro e w' ⟨rfl, rfl⟩
      go_wp2_with fail
      go_ret
      exact ⟨ret_str HX.out.symm, B⟩
    | true =>
      rw [e2] at CN
      clear HOUT
      have ba := sml_bd e1
      have bn := sml_bd e2
      have la := spT_len (n := at_) ba.1 (by omega)
      have ln := spT_len (n := nu) bn.1 (by omega)
      have HSA := Lib.hid (fun W => ispaced at_ W ba.1 (by omega))
      have HSN := Lib.hid (fun W => ispaced nu W bn.1 (by omega))
      have HS := Lib.hid (And.intro e1 e2)
      clear e1 e2 ba bn
      by_cases c0 : k = 0
      · subst c0
        have HX : Hid (fmE ⟨0, ⟨dk, o, t, n, d, zs⟩, at_, nu⟩ = txt (ddT ⟨dk, o, t, n, d, zs⟩)) := Lib.hid (ev_deed (e := ⟨0, ⟨dk, o, t, n, d, zs⟩, at_, nu⟩) HS.out rfl)
        have CD := ifmtD A cz ⟨dk, o, t, n, d, zs⟩ U HI.out
        dsimp only at CD
        clear HSA HSN la ln
        go_enter Try.func13, Try.ntmps13
        go_wp2_with fail
        rw [HU.out]
        refine CA.mono ?_
        rintro e w' ⟨rfl, rfl⟩
        go_wp2_with fail
        refine CN.mono ?_
        rintro e w' ⟨rfl, rfl⟩
        go_wp2_with fail
        refine CD.mono ?_
        rintro e w' ⟨rfl, C⟩
        have B2 := bel_tr B C
        go_wp2_with fail
        go_ret
        exact ⟨ret_str HX.out.symm, B2⟩
      by_cases c1 : k = 1
      · subst c1
        have HX : Hid (fmE ⟨1, ⟨dk, o, t, n, d, zs⟩, at_, nu⟩ = txt (kTurns ++ spT nu)) := Lib.hid (by rw [ev_turns (e := ⟨1, ⟨dk, o, t, n, d, zs⟩, at_, nu⟩) HS.out rfl] <;> simp [spT, nT])
        have a1 : ∀ w, (Op.stringOp .add ({ data := #[116, 117, 114, 110, 115] } : ByteArray) (txt (spT nu))).run Try.prog w = .ok (.string (txt (kTurns ++ spT nu))) w := fun w => by have := add_txt kTurns (spT nu) w (by simp [kTurns]; omega); exact this
        have CQ := HSN.out U
        clear HSA HSN la ln HS
        generalize spT nu = Y at *
        go_enter Try.func13, Try.ntmps13
        go_wp2_with fail
        rw [HU.out]
        refine CA.mono ?_
        rintro e w' ⟨rfl, rfl⟩
        go_wp2_with fail
        refine CN.mono ?_
        rintro e w' ⟨rfl, rfl⟩
        go_wp2_with fail
        refine CQ.mono ?_
        rintro e w' ⟨rfl, rfl⟩
        go_wp2_with fail
        go_ret
        exact ⟨ret_str HX.out.symm, B⟩
      by_cases c2 : k = 2
      · subst c2
        have HX : Hid (fmE ⟨2, ⟨dk, o, t, n, d, zs⟩, at_, nu⟩ = txt (kSwap ++ spT at_ ++ spT nu)) := Lib.hid (by rw [ev_swap (e := ⟨2, ⟨dk, o, t, n, d, zs⟩, at_, nu⟩) HS.out rfl] <;> simp [spT, nT])
        have a1 : ∀ w, (Op.stringOp .add ({ data := #[115, 119, 97, 112] } : ByteArray) (txt (spT at_))).run Try.prog w = .ok (.string (txt (kSwap ++ spT at_))) w := fun w => by have := add_txt kSwap (spT at_) w (by simp [kSwap]; omega); exact this
        have a3 := fun w => add_txt (kSwap ++ spT at_) (spT nu) w (by simp [kSwap]; omega)
        clear la ln HS
        generalize kSwap ++ spT at_ ++ spT nu = X3 at *
        generalize kSwap ++ spT at_ = X1 at *
        have KQ0 := Lib.hid (fun j : Nat => Calls.quiet_of_same (w := U) (n := j) ((HSA.out _).mono (fun _ _ h => ⟨h.1, h.2.symm⟩)))
        have KQ1 := Lib.hid (fun j : Nat => Calls.quiet_of_same (w := U) (n := j) ((HSN.out _).mono (fun _ _ h => ⟨h.1, h.2.symm⟩)))
        clear HSA HSN
        generalize spT at_ = Y1 at *
        generalize spT nu = Y2 at *
        go_enter Try.func13, Try.ntmps13
        go_wp2_with fail
        rw [HU.out]
        refine CA.mono ?_
        rintro e w' ⟨rfl, rfl⟩
        go_wp2_with fail
        refine CN.mono ?_
        rintro e w' ⟨rfl, rfl⟩
        go_wp2_with fail
        go_quiet (first | (go_at_call_of 39 (Value.int .i64 at_); exact KQ0.out _) | (go_at_call_of 39 (Value.int .i64 nu); exact KQ1.out _) | fail)
        go_wp2_with fail
        go_ret
        exact ⟨ret_str HX.out.symm, below_drewN B _⟩
      by_cases c3 : k = 3
      · subst c3
        have HX : Hid (fmE ⟨3, ⟨dk, o, t, n, d, zs⟩, at_, nu⟩ = txt (kGate ++ spT at_ ++ spT nu)) := Lib.hid (by rw [ev_gate (e := ⟨3, ⟨dk, o, t, n, d, zs⟩, at_, nu⟩) HS.out rfl] <;> simp [spT, nT])
        have a1 : ∀ w, (Op.stringOp .add ({ data := #[103, 97, 116, 101] } : ByteArray) (txt (spT at_))).run Try.prog w = .ok (.string (txt (kGate ++ spT at_))) w := fun w => by have := add_txt kGate (spT at_) w (by simp [kGate]; omega); exact this
        have a3 := fun w => add_txt (kGate ++ spT at_) (spT nu) w (by simp [kGate]; omega)
        clear la ln HS
        generalize kGate ++ spT at_ ++ spT nu = X3 at *
        generalize kGate ++ spT at_ = X1 at *
        have KQ0 := Lib.hid (fun j : Nat => Calls.quiet_of_same (w := U) (n := j) ((HSA.out _).mono (fun _ _ h => ⟨h.1, h.2.symm⟩)))
        have KQ1 := Lib.hid (fun j : Nat => Calls.quiet_of_same (w := U) (n := j) ((HSN.out _).mono (fun _ _ h => ⟨h.1, h.2.symm⟩)))
        clear HSA HSN
        generalize spT at_ = Y1 at *
        generalize spT nu = Y2 at *
        go_enter Try.func13, Try.ntmps13
        go_wp2_with fail
        rw [HU.out]
        refine CA.mono ?_
        rintro e w' ⟨rfl, rfl⟩
        go_wp2_with fail
        refine CN.mono ?_
        rintro e w' ⟨rfl, rfl⟩
        go_wp2_with fail
        go_quiet (first | (go_at_call_of 39 (Value.int .i64 at_); exact KQ0.out _) | (go_at_call_of 39 (Value.int .i64 nu); exact KQ1.out _) | fail)
        go_wp2_with fail
        go_ret
        exact ⟨ret_str HX.out.symm, below_drewN B _⟩
      by_cases c4 : k = 4
      · subst c4
        have HX : Hid (fmE ⟨4, ⟨dk, o, t, n, d, zs⟩, at_, nu⟩ = txt (kDig ++ spT at_ ++ spT nu)) := Lib.hid (by rw [ev_dig (e := ⟨4, ⟨dk, o, t, n, d, zs⟩, at_, nu⟩) HS.out rfl] <;> simp [spT, nT])
        have a1 : ∀ w, (Op.stringOp .add ({ data := #[100, 105, 103] } : ByteArray) (txt (spT at_))).run Try.prog w = .ok (.string (txt (kDig ++ spT at_))) w := fun w => by have := add_txt kDig (spT at_) w (by simp [kDig]; omega); exact this
        have a3 := fun w => add_txt (kDig ++ spT at_) (spT nu) w (by simp [kDig]; omega)
        clear la ln HS
        generalize kDig ++ spT at_ ++ spT nu = X3 at *
        generalize kDig ++ spT at_ = X1 at *
        have KQ0 := Lib.hid (fun j : Nat => Calls.quiet_of_same (w := U) (n := j) ((HSA.out _).mono (fun _ _ h => ⟨h.1, h.2.symm⟩)))
        have KQ1 := Lib.hid (fun j : Nat => Calls.quiet_of_same (w := U) (n := j) ((HSN.out _).mono (fun _ _ h => ⟨h.1, h.2.symm⟩)))
        clear HSA HSN
        generalize spT at_ = Y1 at *
        generalize spT nu = Y2 at *
        go_enter Try.func13, Try.ntmps13
        go_wp2_with fail
        rw [HU.out]
        refine CA.mono ?_
        rintro e w' ⟨rfl, rfl⟩
        go_wp2_with fail
        refine CN.mono ?_
        rintro e w' ⟨rfl, rfl⟩
        go_wp2_with fail
        go_quiet (first | (go_at_call_of 39 (Value.int .i64 at_); exact KQ0.out _) | (go_at_call_of 39 (Value.int .i64 nu); exact KQ1.out _) | fail)
        go_wp2_with fail
        go_ret
        exact ⟨ret_str HX.out.symm, below_drewN B _⟩
      by_cases c5 : k = 5
      · subst c5
        have HX : Hid (fmE ⟨5, ⟨dk, o, t, n, d, zs⟩, at_, nu⟩ = txt (kHour ++ spT nu)) := Lib.hid (by rw [ev_hour (e := ⟨5, ⟨dk, o, t, n, d, zs⟩, at_, nu⟩) HS.out rfl] <;> simp [spT, nT])
        have a1 : ∀ w, (Op.stringOp .add ({ data := #[104, 111, 117, 114] } : ByteArray) (txt (spT nu))).run Try.prog w = .ok (.string (txt (kHour ++ spT nu))) w := fun w => by have := add_txt kHour (spT nu) w (by simp [kHour]; omega); exact this
        have CQ := HSN.out U
        clear HSA HSN la ln HS
        generalize spT nu = Y at *
        go_enter Try.func13, Try.ntmps13
        go_wp2_with fail
        rw [HU.out]
        refine CA.mono ?_
        rintro e w' ⟨rfl, rfl⟩
        go_wp2_with fail
        refine CN.mono ?_
        rintro e w' ⟨rfl, rfl⟩
        go_wp2_with fail
        refine CQ.mono ?_
        rintro e w' ⟨rfl, rfl⟩
        go_wp2_with fail
        go_ret
        exact ⟨ret_str HX.out.symm, B⟩
      have HX : Hid (fmE ⟨k, ⟨dk, o, t, n, d, zs⟩, at_, nu⟩ = txt []) := Lib.hid (ev_none (e := ⟨k, ⟨dk, o, t, n, d, zs⟩, at_, nu⟩) c0 c1 c2 c3 c4 c5)
      clear HSA HSN la ln HS
      go_enter Try.func13, Try.ntmps13
      go_wp2_with fail
      rw [HU.out]
      refine CA.mono ?_
      rintro e w' ⟨rfl, rfl⟩
      go_wp2_with fail
      refine CN.mono ?_
      rintro e w' ⟨rfl, rfl⟩
      go_wp2_with fail
      go_ret
      exact ⟨ret_str HX.out.symm, B⟩
end Go.Proofs.Ythagafkjlecagaa
namespace Go.Proofs.Ythagafkjlecagaa
open Go.RowKit
set_option linter.unusedSimpArgs false
set_option linter.unusedVariables false

theorem sown3 (n : Int) (w : World) :
    Calls Try.prog 59 #[.int .i64 n, .int .i64 1, .int .i64 999] w fun e w' => e = .returned (.bool (ownB n)) ∧ w = w' := by
  cases a : ownB n with
  | true => exact inRange_yes n 1 999 w (own_iff.1 a).1 (own_iff.1 a).2
  | false => exact inRange_no n 1 999 w (by have : ¬ (1 ≤ n ∧ n ≤ 999) := fun c => by rw [own_iff.2 c] at a; cases a
                                            omega)
theorem ssml3 (n : Int) (w : World) :
    Calls Try.prog 59 #[.int .i64 n, .int .i64 0, .int .i64 9999] w fun e w' => e = .returned (.bool (smlB n)) ∧ w = w' := by
  cases a : smlB n with
  | true => exact inRange_yes n 0 9999 w (sml_iff.1 a).1 (sml_iff.1 a).2
  | false => exact inRange_no n 0 9999 w (by have : ¬ (0 ≤ n ∧ n ≤ 9999) := fun c => by rw [sml_iff.2 c] at a; cases a
                                             omega)
set_option maxRecDepth 100000 in
set_option maxHeartbeats 4000000 in
/-- spec.showDeed -/
theorem sshowD (A : Option Addr) (cz : Nat) (x : Dd) (w : World) (h : IsInts w A x.zs) :
    Calls Try.prog 60 #[.agg #[.int .i64 x.k, .int .i64 x.o, .int .i64 x.t, .int .i64 x.n, .int .i64 x.d, .slice A x.zs.length cz]] w fun e w' => e = .returned (.string (txt (ddT x))) ∧ Below w.heap.size w w' := by
  obtain ⟨dk, o, t, n, d, zs⟩ := x
  dsimp only at h ⊢
  have B := (Below.refl w.heap.size w).alloc (Nat.le_refl _) (.cells #[.int .i64 dk, .int .i64 o, .int .i64 t, .int .i64 n, .int .i64 d, .slice A zs.length cz] 33)
  have K := Blk.new w 33 #[.int .i64 dk, .int .i64 o, .int .i64 t, .int .i64 n, .int .i64 d, .slice A zs.length cz]
  have hI := ints_below h B
  clear h
  generalize hU : w.alloc (.cells #[.int .i64 dk, .int .i64 o, .int .i64 t, .int .i64 n, .int .i64 d, .slice A zs.length cz] 33) = U at B K hI
  obtain ⟨q0, q1, q2, q3, q4, q5⟩ := cells6 K
  have HU := Lib.hid hU
  have HI := Lib.hid hI
  have hlt0 := K.lt
  clear hU hI K
  have HOUT := Lib.hid (dd_out (x := ⟨dk, o, t, n, d, zs⟩))
  dsimp only at HOUT
  have CW := sown3 o U
  cases e1 : ownB o with
  | false =>
    have HX : Hid (txt (ddT ⟨dk, o, t, n, d, zs⟩) = txt []) := Lib.hid (by rw [HOUT.out (by rw [e1]; simp)])
    rw [e1] at CW
    clear e1 HOUT
    go_enter Try.func60, Try.ntmps60
    go_wp2_with fail
    rw [HU.out]
    refine CW.mono ?_
    rintro e w' ⟨rfl, rfl⟩
    go_wp2_with fail
    go_ret
    exact ⟨ret_str HX.out.symm, B⟩
  | true =>
    rw [e1] at CW
    have bo := own_bd e1
    by_cases c1 : dk = 1
    · subst c1
      by_cases e2 : zs.length ≤ 12
      case neg =>
        have HX : Hid (txt (ddT ⟨1, o, t, n, d, zs⟩) = txt []) := Lib.hid (by rw [HOUT.out (fun c => e2 c.2)])
        have z3 : (12 : Int) < (zs.length : Int) := by omega
        clear HOUT e1 e2
        go_enter Try.func60, Try.ntmps60
        go_wp2_with fail
        rw [HU.out]
        refine CW.mono ?_
        rintro e w' ⟨rfl, rfl⟩
        go_wp2_with fail
        go_ret
        exact ⟨ret_str HX.out.symm, B⟩
      have z2 : ¬ (12 : Int) < (zs.length : Int) := by omega
      have HX : Hid (txt (ddT ⟨1, o, t, n, d, zs⟩) = txt (hrV o zs)) := Lib.hid (by
        cases z : zs.all ownB with
        | true => rw [dd_inh (x := ⟨1, o, t, n, d, zs⟩) ⟨e1, e2⟩ rfl z]; unfold hrV; rw [z]; rfl
        | false => rw [dd_inhN (x := ⟨1, o, t, n, d, zs⟩) rfl z]; unfold hrV; rw [z]; rfl)
      have l0 := nT_len (n := o) bo.1 (by omega)
      have CO := snumI o U bo.1 (by omega)
      have a0 : ∀ w, (Op.stringOp .add ({ data := #[105, 110, 104, 101, 114, 105, 116, 32] } : ByteArray) (txt (decL o.toNat))).run Try.prog w = .ok (.string (txt (hrT o zs 0))) w := fun w => by
        have e : hrT o zs 0 = (kInh ++ [32]) ++ decL o.toNat := by rw [hr_zero]; simp [spT, nT]
        rw [e]; exact add_txt (kInh ++ [32]) (decL o.toNat) w (by simp [kInh]; unfold nT at l0; omega)
      have HL := Lib.hid (fun k hk => hr_len (o := o) (zs := zs) ⟨bo.1, by omega⟩ k hk)
      clear HOUT e1 e2 l0 bo
      generalize decL o.toNat = X0 at *
      go_enter Try.func60, Try.ntmps60
      go_wp2_with fail
      rw [HU.out]
      refine CW.mono ?_
      rintro e w' ⟨rfl, rfl⟩
      go_wp2_with fail
      refine CO.mono ?_
      rintro e w' ⟨rfl, rfl⟩
      go_wp2_with fail
      clear CO a0
      go_loop [3, 4] (fun tx i => ∃ k : Nat, k ≤ zs.length ∧ i = .int .i64 k ∧ tx = .string (txt (hrT o zs k)) ∧ Hid (∀ j, j < k → ownB (zs.getD j 0) = true)) (fun _ i => zs.length - (intOf i).toNat)
      case atStart => exact ⟨0, Nat.zero_le _, rfl, rfl, fun j hj => absurd hj (Nat.not_lt_zero _)⟩
      case round =>
        obtain ⟨k, hk, rfl, rfl, HO⟩ := hrel
        by_cases hlt : k < zs.length
        · rcases HI.out with hz | ⟨g, off, rfl, hc⟩
          · rw [hz] at hlt; exact absurd hlt (Nat.not_lt_zero _)
          have c0 := hc k hlt
          clear hc
          have hk0 : (0 : Int) ≤ (k : Int) := by omega
          have hk1 : (k : Int) < (zs.length : Int) := by omega
          have CZ := sown3 (zs.getD k 0) U
          cases ez : ownB (zs.getD k 0) with
          | false =>
            have HY : Hid ((hrV o zs) = []) := Lib.hid (by unfold hrV; rw [all_not hlt ez]; rfl)
            rw [ez] at CZ
            clear ez
            generalize zs.getD k 0 = z at *
            go_wp2_with fail
            refine CZ.mono ?_
            rintro e w' ⟨rfl, rfl⟩
            go_wp2_with fail
            go_ret
            exact ⟨ret_str (by rw [HX.out, HY.out] <;> rfl), B⟩
          | true =>
            have bz := own_bd ez
            have HN := Lib.hid (hr_next (o := o) hlt)
            have HO2 : Hid (∀ j, j < k + 1 → ownB (zs.getD j 0) = true) := fun j hj => by
              by_cases e : j = k
              · subst e; exact ez
              · exact HO.out j (by omega)
            have l1 := HL.out k (fun j hj _ => by have := own_bd (HO.out j hj); omega)
            have l2 := nT_len (n := zs.getD k 0) bz.1 (by omega)
            have CS := snumI (zs.getD k 0) U bz.1 (by omega)
            rw [ez] at CZ
            clear ez bz
            generalize zs.getD k 0 = z at *
            generalize hrT o zs k = T at *
            unfold nT at l2
            have a1 : ∀ w, (Op.stringOp .add (txt T) ({ data := #[32] } : ByteArray)).run Try.prog w = .ok (.string (txt (T ++ [32]))) w := fun w => add_txt T [32] w (by simp; omega)
            have a2 := fun w => add_txt (T ++ [32]) (decL z.toNat) w (by simp; omega)
            have HE : Hid (T ++ [32] ++ decL z.toNat = T ++ spT z) := Lib.hid (by simp [spT, nT])
            clear l1 l2
            generalize T ++ [32] ++ decL z.toNat = T2 at *
            generalize T ++ [32] = T1 at *
            generalize decL z.toNat = Z at *
            go_wp2_with fail
            refine CZ.mono ?_
            rintro e w' ⟨rfl, rfl⟩
            go_wp2_with fail
            refine CS.mono ?_
            rintro e w' ⟨rfl, rfl⟩
            go_wp2_with fail
            go_round
            case rel => exact ⟨k + 1, by omega, by go_num, by rw [HE.out, HN.out], HO2⟩
            case measure => simp [intOf]; omega
        · obtain rfl : k = zs.length := by omega
          have HY : Hid ((hrV o zs) = hrT o zs zs.length) := Lib.hid (by unfold hrV; rw [all_up HO.out]; rfl)
          go_wp2_with fail
          go_ret
          exact ⟨ret_str (by rw [HX.out, HY.out]), B⟩
    have CT := sown3 t U
    have c1b : (dk != 1) = true := by simp [c1]
    have c1d : decide (dk = 1) = false := decide_eq_false c1
    cases e3 : ownB t with
    | false =>
      have HX : Hid (txt (ddT ⟨dk, o, t, n, d, zs⟩) = txt []) := Lib.hid (by rw [dd_oth (x := ⟨dk, o, t, n, d, zs⟩) c1 e3])
      rw [e3] at CT
      clear e1 e3 HOUT
      go_enter Try.func60, Try.ntmps60
      go_wp2_with fail
      rw [HU.out]
      refine CW.mono ?_
      rintro e w' ⟨rfl, rfl⟩
      go_wp2_with fail
      refine CT.mono ?_
      rintro e w' ⟨rfl, rfl⟩
      go_wp2_with fail
      go_ret
      exact ⟨ret_str HX.out.symm, B⟩
    | true =>
      rw [e3] at CT
      by_cases e2 : zs.length ≤ 12
      case neg =>
        have HX : Hid (txt (ddT ⟨dk, o, t, n, d, zs⟩) = txt []) := Lib.hid (by rw [HOUT.out (fun c => e2 c.2)])
        have z3 : (12 : Int) < (zs.length : Int) := by omega
        clear HOUT e1 e2 e3
        go_enter Try.func60, Try.ntmps60
        go_wp2_with fail
        rw [HU.out]
        refine CW.mono ?_
        rintro e w' ⟨rfl, rfl⟩
        go_wp2_with fail
        refine CT.mono ?_
        rintro e w' ⟨rfl, rfl⟩
        go_wp2_with fail
        go_ret
        exact ⟨ret_str HX.out.symm, B⟩
      have z2 : ¬ (12 : Int) < (zs.length : Int) := by omega
      clear HOUT
      have bt_ := own_bd e3
      have lo := nT_len (n := o) bo.1 (by omega)
      have lt_ := nT_len (n := t) bt_.1 (by omega)
      unfold nT at lo lt_
      have CSO := fun W => snumI o W bo.1 (by omega)
      have CST := fun W => snumI t W bt_.1 (by omega)
      by_cases c2 : dk = 2
      · subst c2
        have HX : Hid (txt (ddT ⟨2, o, t, n, d, zs⟩) = txt (kJoin ++ [32] ++ decL o.toNat ++ [32] ++ decL t.toNat)) := Lib.hid (by rw [dd_join (x := ⟨2, o, t, n, d, zs⟩) ⟨e1, e2⟩ rfl e3]; simp [spT, nT])
        have a1 : ∀ w, (Op.stringOp .add ({ data := #[106, 111, 105, 110, 32] } : ByteArray) (txt (decL o.toNat))).run Try.prog w = .ok (.string (txt (kJoin ++ [32] ++ decL o.toNat))) w := fun w => by have := add_txt (kJoin ++ [32]) (decL o.toNat) w (by simp [kJoin]; omega); exact this
        have a2 : ∀ w, (Op.stringOp .add (txt (kJoin ++ [32] ++ decL o.toNat)) ({ data := #[32] } : ByteArray)).run Try.prog w = .ok (.string (txt (kJoin ++ [32] ++ decL o.toNat ++ [32]))) w := fun w => add_txt (kJoin ++ [32] ++ decL o.toNat) [32] w (by simp [kJoin]; omega)
        have a3 := fun w => add_txt (kJoin ++ [32] ++ decL o.toNat ++ [32]) (decL t.toNat) w (by simp [kJoin]; omega)
        clear e1 e2 e3 lo lt_ bo bt_ c1 c1b c1d
        generalize kJoin ++ [32] ++ decL o.toNat ++ [32] ++ decL t.toNat = X3 at *
        generalize kJoin ++ [32] ++ decL o.toNat ++ [32] = X2 at *
        generalize kJoin ++ [32] ++ decL o.toNat = X1 at *
        generalize decL o.toNat = Y1 at *
        generalize decL t.toNat = Y2 at *
        have KQ0 := Lib.hid (fun j : Nat => Calls.quiet_of_same (w := U) (n := j) ((CSO _).mono (fun _ _ h => ⟨h.1, h.2.symm⟩)))
        have KQ1 := Lib.hid (fun j : Nat => Calls.quiet_of_same (w := U) (n := j) ((CST _).mono (fun _ _ h => ⟨h.1, h.2.symm⟩)))
        clear CSO CST
        go_enter Try.func60, Try.ntmps60
        go_wp2_with fail
        rw [HU.out]
        refine CW.mono ?_
        rintro e w' ⟨rfl, rfl⟩
        go_wp2_with fail
        refine CT.mono ?_
        rintro e w' ⟨rfl, rfl⟩
        go_wp2_with fail
        go_quiet (first | (go_at_call_of 61 (Value.int .i64 o); exact KQ0.out _) | (go_at_call_of 61 (Value.int .i64 t); exact KQ1.out _) | fail)
        go_wp2_with fail
        go_ret
        exact ⟨ret_str HX.out.symm, below_drewN B _⟩
      by_cases c0 : dk = 0
      · subst c0
        cases e4 : Wsh.vfB n d with
        | false =>
          have HX : Hid (txt (ddT ⟨0, o, t, n, d, zs⟩) = txt []) := Lib.hid (by rw [dd_sellN (x := ⟨0, o, t, n, d, zs⟩) rfl e4])
          have CV := vf_boolN e4 U
          clear e1 e2 e3 e4 lo lt_ bo bt_ CSO CST c1 c1b c1d c2
          go_enter Try.func60, Try.ntmps60
          go_wp2_with fail
          rw [HU.out]
          refine CW.mono ?_
          rintro e w' ⟨rfl, rfl⟩
          go_wp2_with fail
          refine CT.mono ?_
          rintro e w' ⟨rfl, rfl⟩
          go_wp2_with fail
          refine CV.mono ?_
          rintro e w' ⟨rfl, C⟩
          have B2 := bel_tr B C
          go_wp2_with fail
          go_ret
          exact ⟨ret_str HX.out.symm, B2⟩
        | true =>
          have HX : Hid (txt (ddT ⟨0, o, t, n, d, zs⟩) = txt (kSell ++ [32] ++ decL o.toNat ++ [32] ++ decL t.toNat ++ [32] ++ (frT n d).data.toList)) := Lib.hid (by rw [dd_sell (x := ⟨0, o, t, n, d, zs⟩) ⟨e1, e2⟩ rfl e3 e4]; simp [spT, nT])
          have CV := vf_boolY e4 U
          obtain ⟨y1, y2, y3, y4, _⟩ := (Wsh.vfB_iff _ _).1 e4
          have CF : ∀ W, Calls Try.prog 84 #[.agg #[.int .i64 n, .int .i64 d]] W fun e w' => e = .returned (.string (frT n d)) ∧ Below W.heap.size W w' := fun W => sshow n d W (by omega) (by omega)
          have lF : (frT n d).data.toList.length ≤ 40 := by
            rw [frT_list]
            have := dec_len 15 n.toNat (by omega)
            have := dec_len 15 d.toNat (by omega)
            simp; omega
          have eF : frT n d = txt (frT n d).data.toList := rfl
          rw [eF] at CF
          clear eF
          have a1 : ∀ w, (Op.stringOp .add ({ data := #[115, 101, 108, 108, 32] } : ByteArray) (txt (decL o.toNat))).run Try.prog w = .ok (.string (txt (kSell ++ [32] ++ decL o.toNat))) w := fun w => by have := add_txt (kSell ++ [32]) (decL o.toNat) w (by simp [kSell]; omega); exact this
          have a2 : ∀ w, (Op.stringOp .add (txt (kSell ++ [32] ++ decL o.toNat)) ({ data := #[32] } : ByteArray)).run Try.prog w = .ok (.string (txt (kSell ++ [32] ++ decL o.toNat ++ [32]))) w := fun w => add_txt (kSell ++ [32] ++ decL o.toNat) [32] w (by simp [kSell]; omega)
          have a3 := fun w => add_txt (kSell ++ [32] ++ decL o.toNat ++ [32]) (decL t.toNat) w (by simp [kSell]; omega)
          have a4 : ∀ w, (Op.stringOp .add (txt (kSell ++ [32] ++ decL o.toNat ++ [32] ++ decL t.toNat)) ({ data := #[32] } : ByteArray)).run Try.prog w = .ok (.string (txt (kSell ++ [32] ++ decL o.toNat ++ [32] ++ decL t.toNat ++ [32]))) w := fun w => add_txt (kSell ++ [32] ++ decL o.toNat ++ [32] ++ decL t.toNat) [32] w (by simp [kSell]; omega)
          generalize (frT n d).data.toList = F at *
          have a5 := fun w => add_txt (kSell ++ [32] ++ decL o.toNat ++ [32] ++ decL t.toNat ++ [32]) F w (by simp [kSell]; omega)
          clear e1 e2 e3 e4 lo lt_ bo bt_ y1 y2 y3 y4 lF c1 c1b c1d c2
          generalize kSell ++ [32] ++ decL o.toNat ++ [32] ++ decL t.toNat ++ [32] ++ F = X5 at *
          generalize kSell ++ [32] ++ decL o.toNat ++ [32] ++ decL t.toNat ++ [32] = X4 at *
          generalize kSell ++ [32] ++ decL o.toNat ++ [32] ++ decL t.toNat = X3 at *
          generalize kSell ++ [32] ++ decL o.toNat ++ [32] = X2 at *
          generalize kSell ++ [32] ++ decL o.toNat = X1 at *
          generalize decL o.toNat = Y1 at *
          generalize decL t.toNat = Y2 at *
          go_enter Try.func60, Try.ntmps60
          go_wp2_with fail
          rw [HU.out]
          refine CW.mono ?_
          rintro e w' ⟨rfl, rfl⟩
          go_wp2_with fail
          refine CT.mono ?_
          rintro e w' ⟨rfl, rfl⟩
          go_wp2_with fail
          refine CV.mono ?_
          rintro e U2 ⟨rfl, C⟩
          have B2 := bel_tr B C
          have HSO := Lib.hid CSO
          have HST := Lib.hid CST
          have HSF := Lib.hid CF
          clear CSO CST CF
          replace q0 := ((C).cell (p := ⟨w.heap.size, 0, none⟩) hlt0).trans q0
          replace q1 := ((C).cell (p := ⟨w.heap.size, 1, none⟩) hlt0).trans q1
          replace q2 := ((C).cell (p := ⟨w.heap.size, 2, none⟩) hlt0).trans q2
          replace q3 := ((C).cell (p := ⟨w.heap.size, 3, none⟩) hlt0).trans q3
          replace q4 := ((C).cell (p := ⟨w.heap.size, 4, none⟩) hlt0).trans q4
          replace q5 := ((C).cell (p := ⟨w.heap.size, 5, none⟩) hlt0).trans q5
          have hlt1 : w.heap.size < U2.heap.size := Nat.lt_of_lt_of_le hlt0 C.size
          clear C HI CW CT CV
          go_wp2_with fail
          have HMK16 := Lib.hid (fun (W : World) (hW : Below U2.heap.size U2 W) => (⟨⟨(hW.cell (p := ⟨w.heap.size, 0, none⟩) (hlt1)).trans q0, (hW.cell (p := ⟨w.heap.size, 1, none⟩) (hlt1)).trans q1, (hW.cell (p := ⟨w.heap.size, 2, none⟩) (hlt1)).trans q2, (hW.cell (p := ⟨w.heap.size, 3, none⟩) (hlt1)).trans q3, (hW.cell (p := ⟨w.heap.size, 4, none⟩) (hlt1)).trans q4, (hW.cell (p := ⟨w.heap.size, 5, none⟩) (hlt1)).trans q5⟩, hW⟩ : (W.cell? ⟨w.heap.size, 0, none⟩ = some (.int .i64 0) ∧ W.cell? ⟨w.heap.size, 1, none⟩ = some (.int .i64 o) ∧ W.cell? ⟨w.heap.size, 2, none⟩ = some (.int .i64 t) ∧ W.cell? ⟨w.heap.size, 3, none⟩ = some (.int .i64 n) ∧ W.cell? ⟨w.heap.size, 4, none⟩ = some (.int .i64 d) ∧ W.cell? ⟨w.heap.size, 5, none⟩ = some (.slice A zs.length cz)) ∧ Below U2.heap.size U2 W))
          refine wp_region_held_drew (S := (fun w' => (w'.cell? ⟨w.heap.size, 0, none⟩ = some (.int .i64 0) ∧ w'.cell? ⟨w.heap.size, 1, none⟩ = some (.int .i64 o) ∧ w'.cell? ⟨w.heap.size, 2, none⟩ = some (.int .i64 t) ∧ w'.cell? ⟨w.heap.size, 3, none⟩ = some (.int .i64 n) ∧ w'.cell? ⟨w.heap.size, 4, none⟩ = some (.int .i64 d) ∧ w'.cell? ⟨w.heap.size, 5, none⟩ = some (.slice A zs.length cz)) ∧ Below U2.heap.size U2 w')) (by kernel_rfl) ?_ (fun hHeld => ?_)
          · exact ⟨⟨q0, q1, q2, q3, q4, q5⟩, (Below.refl _ _).drew⟩
          refine wpAnyH_take (i := 0) (oi := ?ooa17_) (v := ?vva17_) ?hia17_ (by kernel_rfl) ?h3a17_ ?h4a17_ ?h5a17_ ?h6a17_ (by assumption) ?h8a17_
          case hia17_ => (simp only [List.getElem?_toArray, List.getElem?_cons_succ, List.getElem?_cons_zero]; rfl)
          case h3a17_ => kernel_rfl
          case h4a17_ => kernel_rfl
          case h6a17_ => (refine Or.inl ⟨by rfl, ?_⟩; intro w hSw; (try dsimp only at hSw); (go_simp <;> with_reducible rfl))
          case h5a17_ => exact fun _ _ _ h => h
          try simp only [Act.put, List.setIfInBounds_toArray, List.set_cons_zero, List.set_cons_succ]
          refine wpAnyH_take (i := 1) (oi := ?ooa18_) (v := ?vva18_) ?hia18_ (by kernel_rfl) ?h3a18_ ?h4a18_ ?h5a18_ ?h6a18_ (by assumption) ?h8a18_
          case hia18_ => (simp only [List.getElem?_toArray, List.getElem?_cons_succ, List.getElem?_cons_zero]; rfl)
          case h3a18_ => kernel_rfl
          case h4a18_ => kernel_rfl
          case h6a18_ => (refine Or.inl ⟨by rfl, ?_⟩; intro w hSw; (try dsimp only at hSw); (go_simp <;> with_reducible rfl))
          case h5a18_ => exact fun _ _ _ h => h
          try simp only [Act.put, List.setIfInBounds_toArray, List.set_cons_zero, List.set_cons_succ]
          refine wpAnyH_take (i := 5) (oi := ?ooa19_) (v := ?vva19_) ?hia19_ (by kernel_rfl) ?h3a19_ ?h4a19_ ?h5a19_ ?h6a19_ (by assumption) ?h8a19_
          case hia19_ => (simp only [List.getElem?_toArray, List.getElem?_cons_succ, List.getElem?_cons_zero]; rfl)
          case h3a19_ => kernel_rfl
          case h4a19_ => kernel_rfl
          case h6a19_ => (refine Or.inl ⟨by rfl, ?_⟩; intro w hSw; (try dsimp only at hSw); (go_simp <;> with_reducible rfl))
          case h5a19_ => exact fun _ _ _ h => h
          try simp only [Act.put, List.setIfInBounds_toArray, List.set_cons_zero, List.set_cons_succ]
          refine wpAnyH_take (i := 6) (oi := ?ooa20_) (v := ?vva20_) ?hia20_ (by kernel_rfl) ?h3a20_ ?h4a20_ ?h5a20_ ?h6a20_ (by assumption) ?h8a20_
          case hia20_ => (simp only [List.getElem?_toArray, List.getElem?_cons_succ, List.getElem?_cons_zero]; rfl)
          case h3a20_ => kernel_rfl
          case h4a20_ => kernel_rfl
          case h6a20_ => (refine Or.inl ⟨by rfl, ?_⟩; intro w hSw; (try dsimp only at hSw); (go_simp <;> with_reducible rfl))
          case h5a20_ => exact fun _ _ _ h => h
          try simp only [Act.put, List.setIfInBounds_toArray, List.set_cons_zero, List.set_cons_succ]
          refine wpAnyH_take (i := 10) (oi := ?ooa21_) (v := ?vva21_) ?hia21_ (by kernel_rfl) ?h3a21_ ?h4a21_ ?h5a21_ ?h6a21_ (by assumption) ?h8a21_
          case hia21_ => (simp only [List.getElem?_toArray, List.getElem?_cons_succ, List.getElem?_cons_zero]; rfl)
          case h3a21_ => kernel_rfl
          case h4a21_ => kernel_rfl
          case h6a21_ => (refine Or.inl ⟨by rfl, ?_⟩; intro w hSw; (try dsimp only at hSw); (go_simp <;> with_reducible rfl))
          case h5a21_ => exact fun _ _ _ h => h
          try simp only [Act.put, List.setIfInBounds_toArray, List.set_cons_zero, List.set_cons_succ]
          refine wpAnyH_take (i := 11) (oi := ?ooa22_) (v := ?vva22_) ?hia22_ (by kernel_rfl) ?h3a22_ ?h4a22_ ?h5a22_ ?h6a22_ (by assumption) ?h8a22_
          case hia22_ => (simp only [List.getElem?_toArray, List.getElem?_cons_succ, List.getElem?_cons_zero]; rfl)
          case h3a22_ => kernel_rfl
          case h4a22_ => kernel_rfl
          case h6a22_ => (refine Or.inl ⟨by rfl, ?_⟩; intro w hSw; (try dsimp only at hSw); (go_simp <;> with_reducible rfl))
          case h5a22_ => exact fun _ _ _ h => h
          try simp only [Act.put, List.setIfInBounds_toArray, List.set_cons_zero, List.set_cons_succ]
          refine wpAnyH_ready (rs := [2]) (by kernel_rfl) (by simp) (AllReadyH.cons (o := ?ooa23_q0) ?hia23_q0 (fun K hK => ?hka23_q0) AllReadyH.nil)
          case hia23_q0 => (simp only [List.getElem?_toArray, List.getElem?_cons_succ, List.getElem?_cons_zero]; rfl)
          case hka23_q0 =>
            (rw [if_pos (by rfl)]; go_simp; refine (HSO.out _).mono ?_; rintro e w' ⟨rfl, rfl⟩; go_wp2_with fail; refine hK.out _ _ (hHeld) (fun hHeld => ?_); clear hK K)
            try simp only [Act.put, List.setIfInBounds_toArray, List.set_cons_zero, List.set_cons_succ]
            refine wpAnyH_take (i := 3) (oi := ?ooa24_) (v := ?vva24_) ?hia24_ (by kernel_rfl) ?h3a24_ ?h4a24_ ?h5a24_ ?h6a24_ (by assumption) ?h8a24_
            case hia24_ => (simp only [List.getElem?_toArray, List.getElem?_cons_succ, List.getElem?_cons_zero]; rfl)
            case h3a24_ => kernel_rfl
            case h4a24_ => kernel_rfl
            case h6a24_ => (refine Or.inl ⟨by rfl, ?_⟩; intro w hSw; (try dsimp only at hSw); (go_simp <;> with_reducible rfl))
            case h5a24_ => exact fun _ _ _ h => h
            try simp only [Act.put, List.setIfInBounds_toArray, List.set_cons_zero, List.set_cons_succ]
            refine wpAnyH_take (i := 4) (oi := ?ooa25_) (v := ?vva25_) ?hia25_ (by kernel_rfl) ?h3a25_ ?h4a25_ ?h5a25_ ?h6a25_ (by assumption) ?h8a25_
            case hia25_ => (simp only [List.getElem?_toArray, List.getElem?_cons_succ, List.getElem?_cons_zero]; rfl)
            case h3a25_ => kernel_rfl
            case h4a25_ => kernel_rfl
            case h6a25_ => (refine Or.inl ⟨by rfl, ?_⟩; intro w hSw; (try dsimp only at hSw); (go_simp <;> with_reducible rfl))
            case h5a25_ => exact fun _ _ _ h => h
            try simp only [Act.put, List.setIfInBounds_toArray, List.set_cons_zero, List.set_cons_succ]
            refine wpAnyH_ready (rs := [7]) (by kernel_rfl) (by simp) (AllReadyH.cons (o := ?ooa26_q0) ?hia26_q0 (fun K hK => ?hka26_q0) AllReadyH.nil)
            case hia26_q0 => (simp only [List.getElem?_toArray, List.getElem?_cons_succ, List.getElem?_cons_zero]; rfl)
            case hka26_q0 =>
              (rw [if_pos (by rfl)]; go_simp; refine (HST.out _).mono ?_; rintro e w' ⟨rfl, rfl⟩; go_wp2_with fail; refine hK.out _ _ (hHeld) (fun hHeld => ?_); clear hK K)
              try simp only [Act.put, List.setIfInBounds_toArray, List.set_cons_zero, List.set_cons_succ]
              refine wpAnyH_take (i := 8) (oi := ?ooa27_) (v := ?vva27_) ?hia27_ (by kernel_rfl) ?h3a27_ ?h4a27_ ?h5a27_ ?h6a27_ (by assumption) ?h8a27_
              case hia27_ => (simp only [List.getElem?_toArray, List.getElem?_cons_succ, List.getElem?_cons_zero]; rfl)
              case h3a27_ => kernel_rfl
              case h4a27_ => kernel_rfl
              case h6a27_ => (refine Or.inl ⟨by rfl, ?_⟩; intro w hSw; (try dsimp only at hSw); (go_simp <;> with_reducible rfl))
              case h5a27_ => exact fun _ _ _ h => h
              try simp only [Act.put, List.setIfInBounds_toArray, List.set_cons_zero, List.set_cons_succ]
              refine wpAnyH_take (i := 9) (oi := ?ooa28_) (v := ?vva28_) ?hia28_ (by kernel_rfl) ?h3a28_ ?h4a28_ ?h5a28_ ?h6a28_ (by assumption) ?h8a28_
              case hia28_ => (simp only [List.getElem?_toArray, List.getElem?_cons_succ, List.getElem?_cons_zero]; rfl)
              case h3a28_ => kernel_rfl
              case h4a28_ => kernel_rfl
              case h6a28_ => (refine Or.inl ⟨by rfl, ?_⟩; intro w hSw; (try dsimp only at hSw); (go_simp <;> with_reducible rfl))
              case h5a28_ => exact fun _ _ _ h => h
              try simp only [Act.put, List.setIfInBounds_toArray, List.set_cons_zero, List.set_cons_succ]
              refine wpAnyH_ready (rs := [12]) (by kernel_rfl) (by simp) (AllReadyH.cons (o := ?ooa29_q0) ?hia29_q0 (fun K hK => ?hka29_q0) AllReadyH.nil)
              case hia29_q0 => (simp only [List.getElem?_toArray, List.getElem?_cons_succ, List.getElem?_cons_zero]; rfl)
              case hka29_q0 =>
                (rw [if_pos (by rfl)]; go_simp; refine (HSF.out _).mono ?_; rintro e w12_ ⟨rfl, C_⟩; go_wp2_with fail; refine hK.out _ _ (HMK16.out _ (bel_tr hHeld.2 C_)) (fun hHeld => ?_); clear hK K)
                try simp only [Act.put, List.setIfInBounds_toArray, List.set_cons_zero, List.set_cons_succ]
                refine wpAnyH_take (i := 13) (oi := ?ooa30_) (v := ?vva30_) ?hia30_ (by kernel_rfl) ?h3a30_ ?h4a30_ ?h5a30_ ?h6a30_ (by assumption) ?h8a30_
                case hia30_ => (simp only [List.getElem?_toArray, List.getElem?_cons_succ, List.getElem?_cons_zero]; rfl)
                case h3a30_ => kernel_rfl
                case h4a30_ => kernel_rfl
                case h6a30_ => (refine Or.inl ⟨by rfl, ?_⟩; intro w hSw; (try dsimp only at hSw); (go_simp <;> with_reducible rfl))
                case h5a30_ => exact fun _ _ _ h => h
                try simp only [Act.put, List.setIfInBounds_toArray, List.set_cons_zero, List.set_cons_succ]
                refine wpAnyH_take (i := 14) (oi := ?ooa31_) (v := ?vva31_) ?hia31_ (by kernel_rfl) ?h3a31_ ?h4a31_ ?h5a31_ ?h6a31_ (by assumption) ?h8a31_
                case hia31_ => (simp only [List.getElem?_toArray, List.getElem?_cons_succ, List.getElem?_cons_zero]; rfl)
                case h3a31_ => kernel_rfl
                case h4a31_ => kernel_rfl
                case h6a31_ => (refine Or.inl ⟨by rfl, ?_⟩; intro w hSw; (try dsimp only at hSw); (go_simp <;> with_reducible rfl))
                case h5a31_ => exact fun _ _ _ h => h
                try simp only [Act.put, List.setIfInBounds_toArray, List.set_cons_zero, List.set_cons_succ]
                refine wpAnyH_done (by kernel_rfl) ?_ _
                clear HMK16
                have B3 := bel_tr B2 hHeld.2
                clear hHeld
                go_wp2_with fail
                go_ret
                exact ⟨ret_str HX.out.symm, B3⟩
      · have HX : Hid (txt (ddT ⟨dk, o, t, n, d, zs⟩) = txt []) := Lib.hid (by rw [dd_none (x := ⟨dk, o, t, n, d, zs⟩) c0 c1 c2])
        clear e1 e2 e3 lo lt_ bo bt_ CSO CST
        go_enter Try.func60, Try.ntmps60
        go_wp2_with fail
        rw [HU.out]
        refine CW.mono ?_
        rintro e w' ⟨rfl, rfl⟩
        go_wp2_with fail
        refine CT.mono ?_
        rintro e w' ⟨rfl, rfl⟩
        go_wp2_with fail
        go_ret
        exact ⟨ret_str HX.out.symm, B⟩
end Go.Proofs.Ythagafkjlecagaa
namespace Go.Proofs.Ythagafkjlecagaa
open Go.RowKit
set_option linter.unusedSimpArgs false
set_option linter.unusedVariables false
set_option maxRecDepth 100000 in
set_option maxHeartbeats 4000000 in
/-- spec.showEvent -/
theorem sshowE (A : Option Addr) (cz : Nat) (x : Ev) (w : World) (h : IsInts w A x.dd.zs) :
    Calls Try.prog 35 #[.agg #[.int .i64 x.k, .int .i64 x.dd.k, .int .i64 x.dd.o, .int .i64 x.dd.t, .int .i64 x.dd.n, .int .i64 x.dd.d, .slice A x.dd.zs.length cz, .int .i64 x.at_, .int .i64 x.nu]] w fun e w' => e = .returned (.string (fmE x)) ∧ Below w.heap.size w w' := by
  obtain ⟨k, ⟨dk, o, t, n, d, zs⟩, at_, nu⟩ := x
  dsimp only at h ⊢
  have B := (Below.refl w.heap.size w).alloc (Nat.le_refl _) (.cells #[.int .i64 k, .int .i64 dk, .int .i64 o, .int .i64 t, .int .i64 n, .int .i64 d, .slice A zs.length cz, .int .i64 at_, .int .i64 nu] 35)
  have K := Blk.new w 35 #[.int .i64 k, .int .i64 dk, .int .i64 o, .int .i64 t, .int .i64 n, .int .i64 d, .slice A zs.length cz, .int .i64 at_, .int .i64 nu]
  have hI := ints_below h B
  clear h
  generalize hU : w.alloc (.cells #[.int .i64 k, .int .i64 dk, .int .i64 o, .int .i64 t, .int .i64 n, .int .i64 d, .slice A zs.length cz, .int .i64 at_, .int .i64 nu] 35) = U at B K hI
  obtain ⟨q0, q1, q2, q3, q4, q5, q6, q7, q8⟩ := cells9 K
  have HU := Lib.hid hU
  have HI := Lib.hid hI
  clear hU hI K
  have HOUT := Lib.hid (ev_out (e := ⟨k, ⟨dk, o, t, n, d, zs⟩, at_, nu⟩))
  dsimp only at HOUT
  have CA := ssml3 at_ U
  have CN := ssml3 nu U
  cases e1 : smlB at_ with
  | false =>
    have HX : Hid (fmE ⟨k, ⟨dk, o, t, n, d, zs⟩, at_, nu⟩ = txt []) := Lib.hid (HOUT.out (by rw [e1]; simp))
    rw [e1] at CA
    clear HOUT e1 CN
    go_enter Try.func35, Try.ntmps35
    go_wp2_with fail
    rw [HU.out]
    refine CA.mono ?_
    rintro e w' ⟨rfl, rfl⟩
    go_wp2_with fail
    go_ret
    exact ⟨ret_str HX.out.symm, B⟩
  | true =>
    rw [e1] at CA
    cases e2 : smlB nu with
    | false =>
      have HX : Hid (fmE ⟨k, ⟨dk, o, t, n, d, zs⟩, at_, nu⟩ = txt []) := Lib.hid (HOUT.out (by rw [e2]; simp))
      rw [e2] at CN
      clear HOUT e1 e2
      go_enter Try.func35, Try.ntmps35
      go_wp2_with fail
      rw [HU.out]
      refine CA.mono ?_
      rintro e w' ⟨rfl, rfl⟩
      go_wp2_with fail
      refine CN.mono ?_
      rintro e w' ⟨rfl, rfl⟩
      go_wp2_with fail
      go_ret
      exact ⟨ret_str HX.out.symm, B⟩
    | true =>
      rw [e2] at CN
      clear HOUT
      have ba := sml_bd e1
      have bn := sml_bd e2
      have la := nT_len (n := at_) ba.1 (by omega)
      have ln := nT_len (n := nu) bn.1 (by omega)
      have HSA := Lib.hid (fun W => snumI at_ W ba.1 (by omega))
      have HSN := Lib.hid (fun W => snumI nu W bn.1 (by omega))
      have HS := Lib.hid (And.intro e1 e2)
      clear e1 e2 ba bn
      by_cases c0 : k = 0
      · subst c0
        have HX : Hid (fmE ⟨0, ⟨dk, o, t, n, d, zs⟩, at_, nu⟩ = txt (ddT ⟨dk, o, t, n, d, zs⟩)) := Lib.hid (ev_deed (e := ⟨0, ⟨dk, o, t, n, d, zs⟩, at_, nu⟩) HS.out rfl)
        have CD := sshowD A cz ⟨dk, o, t, n, d, zs⟩ U HI.out
        dsimp only at CD
        clear HSA HSN la ln
        go_enter Try.func35, Try.ntmps35
        go_wp2_with fail
        rw [HU.out]
        refine CA.mono ?_
        rintro e w' ⟨rfl, rfl⟩
        go_wp2_with fail
        refine CN.mono ?_
        rintro e w' ⟨rfl, rfl⟩
        go_wp2_with fail
        refine CD.mono ?_
        rintro e w' ⟨rfl, C⟩
        have B2 := bel_tr B C
        go_wp2_with fail
        go_ret
        exact ⟨ret_str HX.out.symm, B2⟩
      by_cases c1 : k = 1
      · subst c1
        have HX : Hid (fmE ⟨1, ⟨dk, o, t, n, d, zs⟩, at_, nu⟩ = txt ((kTurns ++ [32]) ++ decL nu.toNat)) := Lib.hid (by rw [ev_turns (e := ⟨1, ⟨dk, o, t, n, d, zs⟩, at_, nu⟩) HS.out rfl] <;> simp [spT, nT])
        have a1 : ∀ w, (Op.stringOp .add ({ data := #[116, 117, 114, 110, 115, 32] } : ByteArray) (txt (decL nu.toNat))).run Try.prog w = .ok (.string (txt ((kTurns ++ [32]) ++ decL nu.toNat))) w := fun w => by have := add_txt (kTurns ++ [32]) (decL nu.toNat) w (by simp [kTurns]; unfold nT at ln; omega); exact this
        have CQ := HSN.out U
        clear HSA HSN la ln HS
        generalize decL nu.toNat = Y at *
        go_enter Try.func35, Try.ntmps35
        go_wp2_with fail
        rw [HU.out]
        refine CA.mono ?_
        rintro e w' ⟨rfl, rfl⟩
        go_wp2_with fail
        refine CN.mono ?_
        rintro e w' ⟨rfl, rfl⟩
        go_wp2_with fail
        refine CQ.mono ?_
        rintro e w' ⟨rfl, rfl⟩
        go_wp2_with fail
        go_ret
        exact ⟨ret_str HX.out.symm, B⟩
      by_cases c2 : k = 2
      · subst c2
        have HX : Hid (fmE ⟨2, ⟨dk, o, t, n, d, zs⟩, at_, nu⟩ = txt ((kSwap ++ [32]) ++ decL at_.toNat ++ [32] ++ decL nu.toNat)) := Lib.hid (by rw [ev_swap (e := ⟨2, ⟨dk, o, t, n, d, zs⟩, at_, nu⟩) HS.out rfl] <;> simp [spT, nT])
        have a1 : ∀ w, (Op.stringOp .add ({ data := #[115, 119, 97, 112, 32] } : ByteArray) (txt (decL at_.toNat))).run Try.prog w = .ok (.string (txt ((kSwap ++ [32]) ++ decL at_.toNat))) w := fun w => by have := add_txt (kSwap ++ [32]) (decL at_.toNat) w (by simp [kSwap]; unfold nT at la ln; omega); exact this
        have a2 : ∀ w, (Op.stringOp .add (txt ((kSwap ++ [32]) ++ decL at_.toNat)) ({ data := #[32] } : ByteArray)).run Try.prog w = .ok (.string (txt ((kSwap ++ [32]) ++ decL at_.toNat ++ [32]))) w := fun w => add_txt ((kSwap ++ [32]) ++ decL at_.toNat) [32] w (by simp [kSwap]; unfold nT at la ln; omega)
        have a3 := fun w => add_txt ((kSwap ++ [32]) ++ decL at_.toNat ++ [32]) (decL nu.toNat) w (by simp [kSwap]; unfold nT at la ln; omega)
        clear la ln HS
        generalize (kSwap ++ [32]) ++ decL at_.toNat ++ [32] ++ decL nu.toNat = X3 at *
        generalize (kSwap ++ [32]) ++ decL at_.toNat ++ [32] = X2 at *
        generalize (kSwap ++ [32]) ++ decL at_.toNat = X1 at *
        have KQ0 := Lib.hid (fun j : Nat => Calls.quiet_of_same (w := U) (n := j) ((HSA.out _).mono (fun _ _ h => ⟨h.1, h.2.symm⟩)))
        have KQ1 := Lib.hid (fun j : Nat => Calls.quiet_of_same (w := U) (n := j) ((HSN.out _).mono (fun _ _ h => ⟨h.1, h.2.symm⟩)))
        clear HSA HSN
        generalize decL at_.toNat = Y1 at *
        generalize decL nu.toNat = Y2 at *
        go_enter Try.func35, Try.ntmps35
        go_wp2_with fail
        rw [HU.out]
        refine CA.mono ?_
        rintro e w' ⟨rfl, rfl⟩
        go_wp2_with fail
        refine CN.mono ?_
        rintro e w' ⟨rfl, rfl⟩
        go_wp2_with fail
        go_quiet (first | (go_at_call_of 61 (Value.int .i64 at_); exact KQ0.out _) | (go_at_call_of 61 (Value.int .i64 nu); exact KQ1.out _) | fail)
        go_wp2_with fail
        go_ret
        exact ⟨ret_str HX.out.symm, below_drewN B _⟩
      by_cases c3 : k = 3
      · subst c3
        have HX : Hid (fmE ⟨3, ⟨dk, o, t, n, d, zs⟩, at_, nu⟩ = txt ((kGate ++ [32]) ++ decL at_.toNat ++ [32] ++ decL nu.toNat)) := Lib.hid (by rw [ev_gate (e := ⟨3, ⟨dk, o, t, n, d, zs⟩, at_, nu⟩) HS.out rfl] <;> simp [spT, nT])
        have a1 : ∀ w, (Op.stringOp .add ({ data := #[103, 97, 116, 101, 32] } : ByteArray) (txt (decL at_.toNat))).run Try.prog w = .ok (.string (txt ((kGate ++ [32]) ++ decL at_.toNat))) w := fun w => by have := add_txt (kGate ++ [32]) (decL at_.toNat) w (by simp [kGate]; unfold nT at la ln; omega); exact this
        have a2 : ∀ w, (Op.stringOp .add (txt ((kGate ++ [32]) ++ decL at_.toNat)) ({ data := #[32] } : ByteArray)).run Try.prog w = .ok (.string (txt ((kGate ++ [32]) ++ decL at_.toNat ++ [32]))) w := fun w => add_txt ((kGate ++ [32]) ++ decL at_.toNat) [32] w (by simp [kGate]; unfold nT at la ln; omega)
        have a3 := fun w => add_txt ((kGate ++ [32]) ++ decL at_.toNat ++ [32]) (decL nu.toNat) w (by simp [kGate]; unfold nT at la ln; omega)
        clear la ln HS
        generalize (kGate ++ [32]) ++ decL at_.toNat ++ [32] ++ decL nu.toNat = X3 at *
        generalize (kGate ++ [32]) ++ decL at_.toNat ++ [32] = X2 at *
        generalize (kGate ++ [32]) ++ decL at_.toNat = X1 at *
        have KQ0 := Lib.hid (fun j : Nat => Calls.quiet_of_same (w := U) (n := j) ((HSA.out _).mono (fun _ _ h => ⟨h.1, h.2.symm⟩)))
        have KQ1 := Lib.hid (fun j : Nat => Calls.quiet_of_same (w := U) (n := j) ((HSN.out _).mono (fun _ _ h => ⟨h.1, h.2.symm⟩)))
        clear HSA HSN
        generalize decL at_.toNat = Y1 at *
        generalize decL nu.toNat = Y2 at *
        go_enter Try.func35, Try.ntmps35
        go_wp2_with fail
        rw [HU.out]
        refine CA.mono ?_
        rintro e w' ⟨rfl, rfl⟩
        go_wp2_with fail
        refine CN.mono ?_
        rintro e w' ⟨rfl, rfl⟩
        go_wp2_with fail
        go_quiet (first | (go_at_call_of 61 (Value.int .i64 at_); exact KQ0.out _) | (go_at_call_of 61 (Value.int .i64 nu); exact KQ1.out _) | fail)
        go_wp2_with fail
        go_ret
        exact ⟨ret_str HX.out.symm, below_drewN B _⟩
      by_cases c4 : k = 4
      · subst c4
        have HX : Hid (fmE ⟨4, ⟨dk, o, t, n, d, zs⟩, at_, nu⟩ = txt ((kDig ++ [32]) ++ decL at_.toNat ++ [32] ++ decL nu.toNat)) := Lib.hid (by rw [ev_dig (e := ⟨4, ⟨dk, o, t, n, d, zs⟩, at_, nu⟩) HS.out rfl] <;> simp [spT, nT])
        have a1 : ∀ w, (Op.stringOp .add ({ data := #[100, 105, 103, 32] } : ByteArray) (txt (decL at_.toNat))).run Try.prog w = .ok (.string (txt ((kDig ++ [32]) ++ decL at_.toNat))) w := fun w => by have := add_txt (kDig ++ [32]) (decL at_.toNat) w (by simp [kDig]; unfold nT at la ln; omega); exact this
        have a2 : ∀ w, (Op.stringOp .add (txt ((kDig ++ [32]) ++ decL at_.toNat)) ({ data := #[32] } : ByteArray)).run Try.prog w = .ok (.string (txt ((kDig ++ [32]) ++ decL at_.toNat ++ [32]))) w := fun w => add_txt ((kDig ++ [32]) ++ decL at_.toNat) [32] w (by simp [kDig]; unfold nT at la ln; omega)
        have a3 := fun w => add_txt ((kDig ++ [32]) ++ decL at_.toNat ++ [32]) (decL nu.toNat) w (by simp [kDig]; unfold nT at la ln; omega)
        clear la ln HS
        generalize (kDig ++ [32]) ++ decL at_.toNat ++ [32] ++ decL nu.toNat = X3 at *
        generalize (kDig ++ [32]) ++ decL at_.toNat ++ [32] = X2 at *
        generalize (kDig ++ [32]) ++ decL at_.toNat = X1 at *
        have KQ0 := Lib.hid (fun j : Nat => Calls.quiet_of_same (w := U) (n := j) ((HSA.out _).mono (fun _ _ h => ⟨h.1, h.2.symm⟩)))
        have KQ1 := Lib.hid (fun j : Nat => Calls.quiet_of_same (w := U) (n := j) ((HSN.out _).mono (fun _ _ h => ⟨h.1, h.2.symm⟩)))
        clear HSA HSN
        generalize decL at_.toNat = Y1 at *
        generalize decL nu.toNat = Y2 at *
        go_enter Try.func35, Try.ntmps35
        go_wp2_with fail
        rw [HU.out]
        refine CA.mono ?_
        rintro e w' ⟨rfl, rfl⟩
        go_wp2_with fail
        refine CN.mono ?_
        rintro e w' ⟨rfl, rfl⟩
        go_wp2_with fail
        go_quiet (first | (go_at_call_of 61 (Value.int .i64 at_); exact KQ0.out _) | (go_at_call_of 61 (Value.int .i64 nu); exact KQ1.out _) | fail)
        go_wp2_with fail
        go_ret
        exact ⟨ret_str HX.out.symm, below_drewN B _⟩
      by_cases c5 : k = 5
      · subst c5
        have HX : Hid (fmE ⟨5, ⟨dk, o, t, n, d, zs⟩, at_, nu⟩ = txt ((kHour ++ [32]) ++ decL nu.toNat)) := Lib.hid (by rw [ev_hour (e := ⟨5, ⟨dk, o, t, n, d, zs⟩, at_, nu⟩) HS.out rfl] <;> simp [spT, nT])
        have a1 : ∀ w, (Op.stringOp .add ({ data := #[104, 111, 117, 114, 32] } : ByteArray) (txt (decL nu.toNat))).run Try.prog w = .ok (.string (txt ((kHour ++ [32]) ++ decL nu.toNat))) w := fun w => by have := add_txt (kHour ++ [32]) (decL nu.toNat) w (by simp [kHour]; unfold nT at ln; omega); exact this
        have CQ := HSN.out U
        clear HSA HSN la ln HS
        generalize decL nu.toNat = Y at *
        go_enter Try.func35, Try.ntmps35
        go_wp2_with fail
        rw [HU.out]
        refine CA.mono ?_
        rintro e w' ⟨rfl, rfl⟩
        go_wp2_with fail
        refine CN.mono ?_
        rintro e w' ⟨rfl, rfl⟩
        go_wp2_with fail
        refine CQ.mono ?_
        rintro e w' ⟨rfl, rfl⟩
        go_wp2_with fail
        go_ret
        exact ⟨ret_str HX.out.symm, B⟩
      have HX : Hid (fmE ⟨k, ⟨dk, o, t, n, d, zs⟩, at_, nu⟩ = txt []) := Lib.hid (ev_none (e := ⟨k, ⟨dk, o, t, n, d, zs⟩, at_, nu⟩) c0 c1 c2 c3 c4 c5)
      clear HSA HSN la ln HS
      go_enter Try.func35, Try.ntmps35
      go_wp2_with fail
      rw [HU.out]
      refine CA.mono ?_
      rintro e w' ⟨rfl, rfl⟩
      go_wp2_with fail
      refine CN.mono ?_
      rintro e w' ⟨rfl, rfl⟩
      go_wp2_with fail
      go_ret
      exact ⟨ret_str HX.out.symm, B⟩
/-- spec.FormatEvent -/
theorem sFmtE (A : Option Addr) (cz : Nat) (x : Ev) (w : World) (h : IsInts w A x.dd.zs) :
    Calls Try.prog 11 #[.agg #[.int .i64 x.k, .int .i64 x.dd.k, .int .i64 x.dd.o, .int .i64 x.dd.t, .int .i64 x.dd.n, .int .i64 x.dd.d, .slice A x.dd.zs.length cz, .int .i64 x.at_, .int .i64 x.nu]] w fun e w' => e = .returned (.string (fmE x)) ∧ Below w.heap.size w w' := by
  have B := (Below.refl w.heap.size w).alloc (Nat.le_refl _) (.cells #[.int .i64 x.k, .int .i64 x.dd.k, .int .i64 x.dd.o, .int .i64 x.dd.t, .int .i64 x.dd.n, .int .i64 x.dd.d, .slice A x.dd.zs.length cz, .int .i64 x.at_, .int .i64 x.nu] 35)
  have CC := sshowE A cz x _ (ints_below h B)
  clear h
  go_enter Try.func11, Try.ntmps11
  go_wp2_with fail
  refine CC.mono ?_
  rintro e w' ⟨rfl, C⟩
  replace B := bel_tr B C
  go_wp2_with fail
  go_ret
  exact ⟨rfl, B⟩
end Go.Proofs.Ythagafkjlecagaa
namespace Go.Proofs.Ythagafkjlecagaa
open Go.RowKit

/-- valid weights -/
def vwB (zs : List Int) : Bool := allB zs 1000 && decide (zs.length ≤ 12) && decide (0 < zs.sum)
theorem vw_no1 {zs : List Int} (h : allB zs 1000 = false) : vwB zs = false := by unfold vwB; rw [h]; rfl
theorem vw_no2 {zs : List Int} (h : 12 < zs.length) : vwB zs = false := by unfold vwB; rw [decide_eq_false (by omega : ¬ zs.length ≤ 12)]; simp
theorem vw_sum {zs : List Int} (h : allB zs 1000 = true) (h2 : zs.length ≤ 12) : vwB zs = decide (0 < zs.sum) := by unfold vwB; rw [h, decide_eq_true h2]; rfl
theorem all_bd {zs : List Int} {most : Int} (h : allB zs most = true) (hm : most ≤ 1000000) : ∀ z ∈ zs, -1000000 ≤ z ∧ z ≤ 1000000 := fun z hz => by
  have := (allB_iff zs most).1 h z hz; omega

theorem vw_is {ws : List Int} (h : vwB ws = true) : allB ws 1000 = true ∧ ws.length ≤ 12 ∧ 0 < ws.sum := by
  unfold vwB at h; simp only [Bool.and_eq_true, decide_eq_true_eq] at h; exact ⟨h.1.1, h.1.2, h.2⟩

set_option maxHeartbeats 1000000 in
/-- spec.validWeights -/
theorem svw (a : Option Addr) (cap : Nat) (zs : List Int) (w : World) (h : IsInts w a zs) (hn : zs.length ≤ 1048576) :
    Calls Try.prog 129 #[.slice a zs.length cap] w fun e w' => e = .returned (.bool (vwB zs)) ∧ w = w' := by
  have h0 := h
  rcases h with rfl | ⟨g, o, rfl, hc⟩
  · go_enter Try.func129, Try.ntmps129
    go_wp2_with fail
    refine wp_loop_rounds 1 ?_
    rw [rounds_succ]
    go_wp2_with fail
    refine (stotal a cap [] _ h0 (by simp) (by simp)).mono ?_
    rintro e w' ⟨rfl, rfl⟩
    go_wp2_with fail
    go_ret
    exact ⟨rfl, rfl⟩
  · have HC := Lib.hid hc
    have H0 := Lib.hid h0
    clear hc h0
    go_enter Try.func129, Try.ntmps129
    go_wp2_with fail
    go_loop [3] (fun i => ∃ k : Nat, k ≤ zs.length ∧ i = .int .i64 k ∧ Hid (∀ j, j < k → 0 ≤ zs.getD j 0 ∧ zs.getD j 0 ≤ 1000)) (fun i => zs.length - (intOf i).toNat)
    case atStart => exact ⟨0, Nat.zero_le _, rfl, fun j hj => by omega⟩
    case round =>
      obtain ⟨k, hk, rfl, HA⟩ := hrel
      by_cases hlt : k < zs.length
      · have hc := HC.out k hlt
        have hno := allB_no (most := 1000) hlt
        have hyes : 0 ≤ zs.getD k 0 → zs.getD k 0 ≤ 1000 → ∀ j, j < k + 1 → 0 ≤ zs.getD j 0 ∧ zs.getD j 0 ≤ 1000 := fun h0 h1 j hj => by
          by_cases hjk : j = k
          · subst hjk; exact ⟨h0, h1⟩
          · exact HA.out j (by omega)
        generalize zs.getD k 0 = z at hc hno hyes
        have HN := Lib.hid hno
        have HY := Lib.hid hyes
        clear hno hyes
        by_cases zb : z < 0 ∨ 1000 < z
        · have HNN := Lib.hid (vw_no1 (HN.out zb))
          go_wp2_with fail
          refine (inRange_no z 0 1000 _ zb).mono ?_
          rintro e w' ⟨rfl, rfl⟩
          go_wp2_with fail
          go_ret
          exact ⟨ret_bool HNN.out.symm, rfl⟩
        · go_wp2_with fail
          refine (inRange_yes z 0 1000 _ (by omega) (by omega)).mono ?_
          rintro e w' ⟨rfl, rfl⟩
          go_wp2_with fail
          go_round
          case rel => exact ⟨k + 1, by omega, by go_num, HY.out (by omega) (by omega)⟩
          case measure => simp [intOf]; omega
      · have hall := allB_yes (most := 1000) (fun j hj => HA.out j (by omega))
        have HL := Lib.hid hall
        clear hall
        by_cases h12 : 12 < zs.length
        · go_wp2_with fail
          go_ret
          exact ⟨ret_bool (vw_no2 h12).symm, rfl⟩
        · have HS := Lib.hid (vw_sum HL.out (by omega))
          go_wp2_with fail
          refine (stotal _ cap zs _ H0.out (by omega) (all_bd HL.out (by omega))).mono ?_
          rintro e w' ⟨rfl, rfl⟩
          go_wp2_with fail
          go_ret
          exact ⟨ret_bool HS.out.symm, rfl⟩
end Go.Proofs.Ythagafkjlecagaa
namespace Go.Proofs.Ythagafkjlecagaa
open Go.RowKit

/-- what can be divided -/
def csB (n : Int) (ws : List Int) : Bool := decide (0 ≤ n) && decide (n ≤ 500) && vwB ws
theorem cs_no1 {n : Int} (ws : List Int) (h : n < 0 ∨ 500 < n) : csB n ws = false := by
  unfold csB
  rcases h with h | h
  · rw [decide_eq_false (by omega : ¬ 0 ≤ n)]; rfl
  · rw [decide_eq_false (by omega : ¬ n ≤ 500)]; simp
theorem cs_is {n : Int} {ws : List Int} (h : 0 ≤ n ∧ n ≤ 500) : csB n ws = vwB ws := by unfold csB; rw [decide_eq_true h.1, decide_eq_true h.2]; rfl
theorem cs_yes {n : Int} {ws : List Int} (h : csB n ws = true) : (0 ≤ n ∧ n ≤ 500) ∧ vwB ws = true := by
  unfold csB at h; simp only [Bool.and_eq_true, decide_eq_true_eq] at h; exact h
theorem svalidSplit (n : Int) (a : Option Addr) (cap : Nat) (ws : List Int) (w : World) (h : IsInts w a ws) (hn : ws.length ≤ 1048576) :
    Calls Try.prog 120 #[.int .i64 n, .slice a ws.length cap] w fun e w' => e = .returned (.bool (csB n ws)) ∧ w = w' := by
  by_cases h1 : n < 0 ∨ 500 < n
  · go_enter Try.func120, Try.ntmps120
    go_wp2_with fail
    refine (inRange_no n 0 500 _ h1).mono ?_
    rintro e w' ⟨rfl, rfl⟩
    go_wp2_with fail
    go_ret
    exact ⟨ret_bool (cs_no1 ws h1).symm, rfl⟩
  · have HC := Lib.hid (cs_is (n := n) (ws := ws) (by omega))
    go_enter Try.func120, Try.ntmps120
    go_wp2_with fail
    refine (inRange_yes n 0 500 _ (by omega) (by omega)).mono ?_
    rintro e w' ⟨rfl, rfl⟩
    go_wp2_with fail
    refine (svw a cap ws _ h hn).mono ?_
    rintro e w' ⟨rfl, rfl⟩
    go_wp2_with fail
    go_ret
    exact ⟨ret_bool HC.out.symm, rfl⟩

/-- the quotas -/
def qs (n : Int) (ws : List Int) : List Int := ws.map fun z => n * z / ws.sum
theorem qs_len (n : Int) (ws : List Int) : (qs n ws).length = ws.length := by unfold qs; simp
theorem qs_get (n : Int) (ws : List Int) {k : Nat} (h : k < ws.length) : (qs n ws).getD k 0 = n * ws.getD k 0 / ws.sum := by
  unfold qs
  rw [List.getD_eq_getElem?_getD, List.getD_eq_getElem?_getD, List.getElem?_map, List.getElem?_eq_getElem h]; rfl
theorem q_bd {n : Int} {ws : List Int} (h : csB n ws = true) {k : Nat} (hk : k < ws.length) : 0 ≤ ws.getD k 0 ∧ ws.getD k 0 ≤ 1000 ∧ 0 ≤ n * ws.getD k 0 ∧ n * ws.getD k 0 ≤ 500000 := by
  obtain ⟨⟨a, b⟩, c⟩ := cs_yes h
  have e := (allB_iff ws 1000).1 (vw_is c).1 _ (getD_mem hk)
  exact ⟨e.1, e.2, Int.mul_nonneg a e.1, Int.le_trans (Int.mul_le_mul b e.2 e.1 (by omega)) (by omega)⟩
theorem ws_bd {ws : List Int} (h : vwB ws = true) : 1 ≤ ws.sum ∧ ws.sum ≤ 12000000 := by
  obtain ⟨a, b, c⟩ := vw_is h
  have := sum_bd ws (all_bd a (by omega)) ws.length (Nat.le_refl _)
  rw [List.take_of_length_le (Nat.le_refl _)] at this
  omega

/-- what QuotasOf leaves -/
def Quot (w : World) (n : Int) (ws : List Int) (e : Ending) (w' : World) : Prop := ∃ g : Nat, e = .returned (.slice (some ⟨g, 0, none⟩) ws.length ws.length) ∧ w.heap.size ≤ g ∧ Row w' g (qs n ws) ∧ Below w.heap.size w w'

/-- what spec.quotas leaves -/
def QuotS (w : World) (n : Int) (ws : List Int) (e : Ending) (w' : World) : Prop := ∃ (b : Option Addr) (cap : Nat), e = .returned (.slice b ws.length cap) ∧ IsInts w' b (qs n ws) ∧ Below w.heap.size w w'
def QuotO (w : World) (n : Int) (ws : List Int) (e : Ending) (w' : World) : Prop := ∃ v, e = .returned v ∧ w'.ownsRow w.heap.size 3 1 v ws.length ((qs n ws).map (Value.int .i64)) ∧ Below w.heap.size w w'
set_option maxHeartbeats 2000000 in
theorem squotasO (n : Int) (a : Option Addr) (cap : Nat) (ws : List Int) (w : World) (h : IsInts w a ws) (hn : ws.length ≤ 1048576) (hcs : csB n ws = true) :
    Calls Try.prog 130 #[.int .i64 n, .slice a ws.length cap] w (QuotO w n ws) := by
  obtain ⟨⟨n0, n1⟩, hv⟩ := cs_yes hcs
  have h0 := h
  rcases h with rfl | ⟨g, o, rfl, hc⟩
  · exact absurd (vw_is hv).2.2 (by simp)
  · obtain ⟨s0, s1⟩ := ws_bd hv
    obtain ⟨i0, hi, hz0, hz1, hz2⟩ := info_parts infoInt
    have HZ := Lib.hid (all_bd (vw_is hv).1 (by omega))
    have HC := Lib.hid hc
    have HK := Lib.hid hcs
    have H0 := Lib.hid h0
    clear hc hv hcs h0
    go_enter Try.func130, Try.ntmps130
    go_wp2_with fail
    refine (stotal _ cap ws _ (ints_below H0.out (by go_grown)) hn HZ.out).mono ?_
    rintro e w' ⟨rfl, rfl⟩
    go_wp2_with fail
    go_loopw [5, 7] (fun v i wr => ∃ k : Nat, k ≤ ws.length ∧ i = .int .i64 k ∧ wr.ownsRow w.heap.size 3 1 v k (((qs n ws).take k).map (Value.int .i64)) ∧ Below w.heap.size w wr) (fun _ i _ => ws.length - (intOf i).toNat)
    case atStart => exact ⟨0, Nat.zero_le _, rfl, ⟨by simp, .inr ⟨w.heap.size, 0, #[], rfl, Nat.le_refl _, Go.Deep.blk_alloc_new _ _, Nat.le_refl _, by unfold maxLen; omega, rfl, rfl⟩⟩, by go_grown⟩
    case round =>
      obtain ⟨k, hk, rfl, hown, hB⟩ := hrel
      have hsz := hB.size
      by_cases hlt : k < ws.length
      · have hc0 := HC.out k hlt
        have hc := (hB.cell (p := ⟨g, o + k, none⟩) (World.block_lt_of_cell? w _ hc0)).trans hc0
        obtain ⟨z0, z1, z2, z3⟩ := q_bd HK.out hlt
        have ht := take_map (qs n ws) k (by rw [qs_len]; exact hlt)
        rw [qs_get n ws hlt] at ht
        clear hc0
        generalize ws.getD k 0 = z at hc z0 z1 z2 z3 ht
        have HT := Lib.hid ht
        clear ht
        go_wp2_with (first | (at_builtin; refine wpList_append_own _ rfl _ _ 24 rfl w.heap.size 3 i0 (.int .i64 0) 1 8 Try.underlying24 hi hz0 hz1 hz2 rfl (by decide) _ _ _ rfl (hown.alloc _) ⟨wr.heap.size, 0, none⟩ 1 1 [.int .i64 (n * z / ws.sum)] rfl rfl (cell_one_new _ _ _) (fun x hx => by simp at hx; subst hx; rfl) (by unfold maxLen; omega) (by omega) (by simp; omega) ?_; intro v' w3 hown' hgrow3 hnil3))
        have HR : Hid (w3.ownsRow w.heap.size 3 1 v' (k + 1) (((qs n ws).take (k + 1)).map (Value.int .i64)) ∧ Below w.heap.size w w3) := ⟨by rw [HT.out]; exact hown', (hB.alloc hsz _).grown hgrow3 (by simp; omega) (fun q hq => (hown.lt q hq).1)⟩
        clear hown hown' hgrow3 hnil3 hB
        go_roundw
        case rel => exact ⟨k + 1, by omega, by go_num, HR.out.1, HR.out.2⟩
        case measure => simp [intOf]; omega
      · have HW := Lib.hid hown
        have HB := Lib.hid hB
        clear hown hB
        go_wp2_with fail
        go_ret
        have hl := qs_len n ws
        have ho := HW.out
        rw [List.take_of_length_le (by omega), show k = (qs n ws).length from by omega] at ho
        rw [hl] at ho
        exact ⟨_, rfl, ho, HB.out⟩
theorem squotas (n : Int) (a : Option Addr) (cap : Nat) (ws : List Int) (w : World) (h : IsInts w a ws) (hn : ws.length ≤ 1048576) (hcs : csB n ws = true) :
    Calls Try.prog 130 #[.int .i64 n, .slice a ws.length cap] w (QuotS w n ws) :=
  (squotasO n a cap ws w h hn hcs).mono (by
    rintro e w' ⟨v, rfl, ho, hB⟩
    have hl := qs_len n ws
    rw [← hl] at ho
    obtain ⟨b, cp, hv, hin⟩ := own_ints ho
    exact ⟨b, cp, by rw [hl] at hv; exact congrArg Ending.returned hv, hin, hB⟩)
end Go.Proofs.Ythagafkjlecagaa

namespace Go.Proofs.Ythagafkjlecagaa
open Go.RowKit

/-- 1, 2, 3 .. -/
def marks (n : Nat) : List Int := (List.range n).map fun (i : Nat) => (1 : Int) + (i : Int)
theorem marks_len (n : Nat) : (marks n).length = n := by unfold marks; simp
theorem marks_get (n : Nat) {k : Nat} (h : k < n) : (marks n).getD k 0 = 1 + (k : Int) := by
  unfold marks
  rw [List.getD_eq_getElem?_getD, List.getElem?_map, List.getElem?_range h]; rfl
/-- what markIntS leaves -/
def Marked (w : World) (g n : Nat) (e : Ending) (w' : World) : Prop := e = .returned (.int .i64 (1 + (n : Int))) ∧ Row w' g (marks n) ∧ w.grownBy w' (some g)

set_option maxHeartbeats 1000000 in
theorem lmark (g cap : Nat) (zs : List Int) (w : World) (h : Row w g zs) (hn : zs.length ≤ 1048576) :
    Calls Try.prog 55 #[.slice (some ⟨g, 0, none⟩) zs.length cap, .int .i64 1] w (Marked w g zs.length) := by
  have H := Lib.hid h
  clear h
  go_enter Try.func55, Try.ntmps55
  go_wp2
  go_loopw [1, 5] (fun k i wr => ∃ j : Nat, j ≤ zs.length ∧ i = .int .i64 j ∧ k = .int .i64 (1 + (j : Int)) ∧ wr.rowIs g 3 zs.length (fun i => if i < j then .int .i64 (1 + (i : Int)) else .int .i64 (zs.getD i 0)) ∧ w.grownBy wr (some g)) (fun _ i _ => zs.length - (intOf i).toNat)
  case atStart => exact ⟨0, Nat.zero_le _, rfl, rfl, H.out.congr (fun i hi => by simp), g_below (Below.refl _ _) _⟩
  case round =>
    obtain ⟨j, hj, rfl, rfl, hrow, hG⟩ := hrel
    by_cases hlt : j < zs.length
    · have hd := hrow.cell hlt
      rw [if_neg (Nat.lt_irrefl j)] at hd
      have hf := hrow.frozen j
      have hcon : (wr.setCell ⟨g, j, none⟩ (.int .i64 (1 + (j : Int)))).rowIs g 3 zs.length (fun i => if i < j + 1 then .int .i64 (1 + (i : Int)) else .int .i64 (zs.getD i 0)) :=
        (hrow.set j (.int .i64 (1 + (j : Int)))).congr (fun i hi => by
          show (if i = j then Value.int .i64 (1 + (j : Int)) else if i < j then .int .i64 (1 + (i : Int)) else .int .i64 (zs.getD i 0)) = _
          by_cases hij : i = j
          · subst hij; rw [if_pos rfl, if_pos (by omega)]
          · rw [if_neg hij]
            by_cases hl : i < j
            · rw [if_pos hl, if_pos (by omega)]
            · rw [if_neg hl, if_neg (by omega)])
      have HR := Lib.hid hcon
      have HG := Lib.hid hG
      generalize zs.getD j 0 = z at hd
      clear hcon hrow hG
      go_wp2
      go_roundw
      case rel => exact ⟨j + 1, by omega, by go_num, by go_num, HR.out, g_set HG.out (.inl rfl) _⟩
      case measure => simp [intOf]; omega
    · have HR := Lib.hid hrow
      have HG := Lib.hid hG
      clear hrow hG
      go_wp2
      go_ret
      refine ⟨ret_int (by omega), ?_, HG.out⟩
      unfold Row
      rw [marks_len]
      exact HR.out.congr (fun i hi => by rw [if_pos (by omega), marks_get _ hi])
set_option maxHeartbeats 1000000 in
theorem lheld (g cap n : Nat) (w : World) (h : Row w g (marks n)) (hn : n ≤ 1048576) :
    Calls Try.prog 56 #[.slice (some ⟨g, 0, none⟩) n cap, .int .i64 1] w fun e w' => e = .returned (.int .i64 (1 + (n : Int))) ∧ w = w' := by
  have H := Lib.hid h
  clear h
  go_enter Try.func56, Try.ntmps56
  go_wp2
  go_loop [1, 5] (fun k i => ∃ j : Nat, j ≤ n ∧ i = .int .i64 j ∧ k = .int .i64 (1 + (j : Int))) (fun _ i => n - (intOf i).toNat)
  case atStart => exact ⟨0, Nat.zero_le _, rfl, rfl⟩
  case round =>
    obtain ⟨j, hj, rfl, rfl⟩ := hrel
    by_cases hlt : j < n
    · have hd := World.rowIs.cell H.out (i := j) (by rw [marks_len]; exact hlt)
      rw [marks_get n hlt] at hd
      go_wp2
      go_round
      case rel => exact ⟨j + 1, by omega, by go_num, by go_num⟩
      case measure => simp [intOf]; omega
    · go_wp2
      go_ret
      exact ⟨ret_int (by omega), rfl⟩

theorem leqN (n : Nat) (a b : Option Addr) (ca cb : Nat) (zs : List Int) (w : World) (hl : zs.length = n) (ha : IsInts w a zs) (hb : IsInts w b zs) (hn : zs.length ≤ 1048576) :
    Calls Try.prog 70 #[.slice a n ca, .slice b n cb] w fun e w' => e = .returned (.bool true) ∧ Below w.heap.size w w' := by
  subst hl; exact leqIntS a b ca cb zs w ha hb hn
theorem lmarkN (n g cap : Nat) (zs : List Int) (w : World) (hl : zs.length = n) (h : Row w g zs) (hn : zs.length ≤ 1048576) :
    Calls Try.prog 55 #[.slice (some ⟨g, 0, none⟩) n cap, .int .i64 1] w (Marked w g n) := by
  subst hl; exact lmark g cap zs w h hn
end Go.Proofs.Ythagafkjlecagaa
namespace Go.Proofs.Ythagafkjlecagaa
open Go.RowKit
set_option linter.unusedSimpArgs false
set_option linter.unusedVariables false
end Go.Proofs.Ythagafkjlecagaa
namespace Go.Proofs.Ythagafkjlecagaa
open Go.RowKit
set_option linter.unusedSimpArgs false
set_option linter.unusedVariables false
set_option maxRecDepth 100000 in
/-- laws.markDeed from 1 on -/
theorem mkDdO (b : Option Addr) (c base : Nat) (dk o t n d : Int) (zs : List Int) (w : World) (h : OwnI w base (.slice b zs.length c) zs) (hn : zs.length ≤ 1048576) :
    Calls Try.prog 45 #[.agg #[.int .i64 dk, .int .i64 o, .int .i64 t, .int .i64 n, .int .i64 d, .slice b zs.length c], .int .i64 1] w fun e w' => e = .returned (.int .i64 (1 + (zs.length : Int))) ∧ OwnI w' base (.slice b zs.length c) (marksF zs.length) ∧ w.grownBy w' (Value.slice b zs.length c).ownBlock := by
  have B := (Below.refl w.heap.size w).alloc (Nat.le_refl _) (.cells #[.int .i64 dk, .int .i64 o, .int .i64 t, .int .i64 n, .int .i64 d, .slice b zs.length c] 33)
  have K := Blk.new w 33 #[.int .i64 dk, .int .i64 o, .int .i64 t, .int .i64 n, .int .i64 d, .slice b zs.length c]
  obtain ⟨q0, q1, q2, q3, q4, q5⟩ := cells6 K
  have CM := Lib.hid (lmarkO b c base zs _ (h.of_block B) hn)
  clear h B K
  go_enter Try.func45, Try.ntmps45
  go_wp2_with fail
  refine CM.out.mono ?_
  rintro e u ⟨rfl, O, G⟩
  have G2 := grown_alloc G
  clear q0 q1 q2 q3 q4 q5 G
  go_wp2_with fail
  go_ret
  exact ⟨rfl, O, G2⟩
set_option maxRecDepth 100000 in
/-- laws.heldDeed from 1 on -/
theorem hkDdO (b : Option Addr) (c m base : Nat) (dk o t n d : Int) (w : World) (h : OwnI w base (.slice b m c) (marksF m)) (hn : m ≤ 1048576) :
    Calls Try.prog 46 #[.agg #[.int .i64 dk, .int .i64 o, .int .i64 t, .int .i64 n, .int .i64 d, .slice b m c], .int .i64 1] w fun e w' => e = .returned (.int .i64 (1 + (m : Int))) ∧ Below w.heap.size w w' := by
  have B := (Below.refl w.heap.size w).alloc (Nat.le_refl _) (.cells #[.int .i64 dk, .int .i64 o, .int .i64 t, .int .i64 n, .int .i64 d, .slice b m c] 33)
  have K := Blk.new w 33 #[.int .i64 dk, .int .i64 o, .int .i64 t, .int .i64 n, .int .i64 d, .slice b m c]
  obtain ⟨q0, q1, q2, q3, q4, q5⟩ := cells6 K
  have CM := Lib.hid (lheldO b c m base _ (h.of_block B) hn)
  have e1 : decide (1 + (m : Int) < 0) = false := decide_eq_false (by omega)
  have e2 : ¬ 1 + (m : Int) < 0 := by omega
  clear h K
  go_enter Try.func46, Try.ntmps46
  go_wp2_with fail
  refine CM.out.mono ?_
  rintro e u ⟨rfl, rfl⟩
  skip
  clear q0 q1 q2 q3 q4 q5
  go_wp2_with fail
  go_ret
  exact ⟨rfl, B⟩
set_option maxRecDepth 100000 in
/-- laws.markEvent from 1 on -/
theorem mkEvO (b : Option Addr) (c base : Nat) (k dk o t n d at_ nu : Int) (zs : List Int) (w : World) (h : OwnI w base (.slice b zs.length c) zs) (hn : zs.length ≤ 1048576) :
    Calls Try.prog 18 #[.agg #[.int .i64 k, .int .i64 dk, .int .i64 o, .int .i64 t, .int .i64 n, .int .i64 d, .slice b zs.length c, .int .i64 at_, .int .i64 nu], .int .i64 1] w fun e w' => e = .returned (.int .i64 (1 + (zs.length : Int))) ∧ OwnI w' base (.slice b zs.length c) (marksF zs.length) ∧ w.grownBy w' (Value.slice b zs.length c).ownBlock := by
  have B := (Below.refl w.heap.size w).alloc (Nat.le_refl _) (.cells #[.int .i64 k, .int .i64 dk, .int .i64 o, .int .i64 t, .int .i64 n, .int .i64 d, .slice b zs.length c, .int .i64 at_, .int .i64 nu] 35)
  have K := Blk.new w 35 #[.int .i64 k, .int .i64 dk, .int .i64 o, .int .i64 t, .int .i64 n, .int .i64 d, .slice b zs.length c, .int .i64 at_, .int .i64 nu]
  obtain ⟨q0, q1, q2, q3, q4, q5, q6, q7, q8⟩ := cells9 K
  have CM := Lib.hid (mkDdO b c base dk o t n d zs _ (h.of_block B) hn)
  clear h B K
  go_enter Try.func18, Try.ntmps18
  go_wp2_with fail
  refine CM.out.mono ?_
  rintro e u ⟨rfl, O, G⟩
  have G2 := grown_alloc G
  clear q0 q1 q2 q3 q4 q5 q6 q7 q8 G
  go_wp2_with fail
  go_ret
  exact ⟨rfl, O, G2⟩
set_option maxRecDepth 100000 in
/-- laws.heldEvent from 1 on -/
theorem hkEvO (b : Option Addr) (c m base : Nat) (k dk o t n d at_ nu : Int) (w : World) (h : OwnI w base (.slice b m c) (marksF m)) (hn : m ≤ 1048576) :
    Calls Try.prog 19 #[.agg #[.int .i64 k, .int .i64 dk, .int .i64 o, .int .i64 t, .int .i64 n, .int .i64 d, .slice b m c, .int .i64 at_, .int .i64 nu], .int .i64 1] w fun e w' => e = .returned (.int .i64 (1 + (m : Int))) ∧ Below w.heap.size w w' := by
  have B := (Below.refl w.heap.size w).alloc (Nat.le_refl _) (.cells #[.int .i64 k, .int .i64 dk, .int .i64 o, .int .i64 t, .int .i64 n, .int .i64 d, .slice b m c, .int .i64 at_, .int .i64 nu] 35)
  have K := Blk.new w 35 #[.int .i64 k, .int .i64 dk, .int .i64 o, .int .i64 t, .int .i64 n, .int .i64 d, .slice b m c, .int .i64 at_, .int .i64 nu]
  obtain ⟨q0, q1, q2, q3, q4, q5, q6, q7, q8⟩ := cells9 K
  have CM := Lib.hid (hkDdO b c m base dk o t n d _ (h.of_block B) hn)
  have e1 : decide (1 + (m : Int) < 0) = false := decide_eq_false (by omega)
  have e2 : ¬ 1 + (m : Int) < 0 := by omega
  clear h K
  go_enter Try.func19, Try.ntmps19
  go_wp2_with fail
  refine CM.out.mono ?_
  rintro e u ⟨rfl, C⟩
  replace B := bel_tr B C
  clear q0 q1 q2 q3 q4 q5 q6 q7 q8
  go_wp2_with fail
  go_ret
  exact ⟨rfl, B⟩
end Go.Proofs.Ythagafkjlecagaa
namespace Go.Proofs.Ythagafkjlecagaa
open Go.ChangeShapes Go.WideShapes Go.RowKit Go.Deep

/-- a slice of holdings that came in -/
def HoldsIn (w : World) (a : Option Addr) (len cap : Nat) (hs : List Hd) : Prop := hs.length = len ∧ IsHs w a hs ∧ len ≤ cap ∧ cap ≤ maxLen
set_option maxRecDepth 100000 in
theorem open_frac {H : Type} {enc : TypeId × Value → H} {w : World} {base : Nat} {spare : Nat → Bool} {held : Bool} {fuel : Nat} {cs : List Value} {x : DataW H × List MemPlace} (h : DataW.trod enc Try.prog w base spare held fuel 23 cs = some x) : ∃ n d : Int, cs = [.int .i64 n, .int .i64 d] := by
  obtain ⟨y0, y1, n', _, hl, h0, h1⟩ := trod_struct2 Try.underlying23 h
  obtain ⟨n, e0, _, _⟩ := DataW.trod_int Try.underlying3 h0
  obtain ⟨d, e1, _, _⟩ := DataW.trod_int Try.underlying3 h1
  have hc : Try.prog.cellsOf 23 = 2 := by kernel_rfl
  have hi : Try.prog.cellsOf 3 = 1 := by kernel_rfl
  have hl := hl.trans hc
  dsimp only at e0 e1
  rw [hi] at e0 e1
  match cs, hl with
  | [a, b], _ =>
    refine ⟨n, d, ?_⟩
    simp at e0 e1
    rw [e0, e1]
end Go.Proofs.Ythagafkjlecagaa
namespace Go.Proofs.Ythagafkjlecagaa
open Go.ChangeShapes Go.WideShapes Go.RowKit Go.Deep
set_option linter.unusedSimpArgs false
set_option linter.unusedVariables false

theorem trod_intD {H : Type} {enc : TypeId × Value → H} {w : World} {base : Nat} {spare : Nat → Bool} {held : Bool} {fuel : Nat} {c : Value} {x : DataW H × List MemPlace} (h : DataW.trod enc Try.prog w base spare held fuel 3 [c] = some x) : ∃ z, c = .int .i64 z := by
  obtain ⟨z, e, _, _⟩ := DataW.trod_int Try.underlying3 h
  injection e with e
  exact ⟨z, e⟩
set_option maxRecDepth 100000 in
theorem open_ints1 {H : Type} {enc : TypeId × Value → H} {w : World} {base : Nat} {spare : Nat → Bool} {held : Bool} {fuel : Nat} {c : Value} {x : DataW H × List MemPlace} (h : DataW.trod enc Try.prog w base spare held fuel 24 [c] = some x) : ∃ (A : Option Addr) (cz : Nat) (zs : List Int), c = .slice A zs.length cz ∧ IsInts w A zs ∧ zs.length ≤ cz ∧ cz ≤ maxLen := by
  rcases open_ints Try.underlying24 Try.underlying3 (by kernel_rfl) h with ⟨hcs, _⟩ | ⟨a, len, cap, zs, hcs, _, hl, hm, hz, _, hcell, _⟩
  · injection hcs with hcs
    exact ⟨none, 0, [], hcs, .inl rfl, Nat.le_refl _, Nat.zero_le _⟩
  · injection hcs with hcs
    have hlz : len ≤ zs.length := by rw [hz]; split <;> omega
    have hlen : (zs.take len).length = len := by rw [List.length_take]; omega
    refine ⟨some a, cap, zs.take len, by rw [hlen]; exact hcs, ?_, by omega, hm⟩
    by_cases hL : len = 0
    · exact .inl (by rw [hL]; rfl)
    · obtain ⟨g, o, s⟩ := a
      have hs : s = none := by simpa [Addr.add] using World.cell?_spot (hcell 0 (by omega))
      subst hs
      refine .inr ⟨g, o, rfl, fun j hj => ?_⟩
      have hj' : j < len := by omega
      have := hcell j (by omega)
      rw [List.getD_eq_getElem?_getD, List.getElem?_take_of_lt hj', ← List.getD_eq_getElem?_getD]
      by_cases hj0 : j = 0
      · subst hj0; simpa [Addr.add] using this
      · simpa [Addr.add, hj0] using this
set_option maxRecDepth 100000 in
theorem open_deed {H : Type} {enc : TypeId × Value → H} {w : World} {base : Nat} {spare : Nat → Bool} {held : Bool} {fuel : Nat} {cs : List Value} {x : DataW H × List MemPlace} (h : DataW.trod enc Try.prog w base spare held fuel 26 cs = some x) : ∃ (A : Option Addr) (cz : Nat) (y : Dd), cs = [.int .i64 y.k, .int .i64 y.o, .int .i64 y.t, .int .i64 y.n, .int .i64 y.d, .slice A y.zs.length cz] ∧ IsInts w A y.zs ∧ y.zs.length ≤ cz ∧ cz ≤ maxLen := by
  obtain ⟨xs, n, _, _, hcl, hxl, hfs⟩ := DataW.trod_struct Try.underlying26 h
  have hC : Try.prog.cellsOf 26 = 6 := by kernel_rfl
  have hcl := hcl.trans hC
  have hxl : xs.length = 5 := hxl
  match xs, hxl, cs, hcl with
  | [y0, y1, y2, y3, y4], _, [c0, c1, c2, c3, c4, c5], _ =>
  have s1 : Try.prog.cellsOf 3 = 1 := by kernel_rfl
  have s2 : Try.prog.cellsOf 23 = 2 := by kernel_rfl
  have s3 : Try.prog.cellsOf 24 = 1 := by kernel_rfl
  have g0 : DataW.trod enc Try.prog w base spare held n 3 (([c0, c1, c2, c3, c4, c5].drop 0).take (Try.prog.cellsOf 3)) = some y0 := hfs 0 _ rfl
  rw [s1] at g0
  change DataW.trod enc Try.prog w base spare held n 3 [c0] = some y0 at g0
  have g1 : DataW.trod enc Try.prog w base spare held n 3 (([c0, c1, c2, c3, c4, c5].drop 1).take (Try.prog.cellsOf 3)) = some y1 := hfs 1 _ rfl
  rw [s1] at g1
  change DataW.trod enc Try.prog w base spare held n 3 [c1] = some y1 at g1
  have g2 : DataW.trod enc Try.prog w base spare held n 3 (([c0, c1, c2, c3, c4, c5].drop 2).take (Try.prog.cellsOf 3)) = some y2 := hfs 2 _ rfl
  rw [s1] at g2
  change DataW.trod enc Try.prog w base spare held n 3 [c2] = some y2 at g2
  have g3 : DataW.trod enc Try.prog w base spare held n 23 (([c0, c1, c2, c3, c4, c5].drop 3).take (Try.prog.cellsOf 23)) = some y3 := hfs 3 _ rfl
  rw [s2] at g3
  change DataW.trod enc Try.prog w base spare held n 23 [c3, c4] = some y3 at g3
  have g4 : DataW.trod enc Try.prog w base spare held n 24 (([c0, c1, c2, c3, c4, c5].drop 5).take (Try.prog.cellsOf 24)) = some y4 := hfs 4 _ rfl
  rw [s3] at g4
  change DataW.trod enc Try.prog w base spare held n 24 [c5] = some y4 at g4
  obtain ⟨k, e0⟩ := trod_intD g0
  obtain ⟨o, e1⟩ := trod_intD g1
  obtain ⟨t, e2⟩ := trod_intD g2
  obtain ⟨m, d, e3⟩ := open_frac g3
  obtain ⟨A, cz, zs, e4, i1, i2, i3⟩ := open_ints1 g4
  injection e3 with e3 e5
  injection e5 with e5
  subst e0 e1 e2 e3 e4 e5
  exact ⟨A, cz, ⟨k, o, t, m, d, zs⟩, rfl, i1, i2, i3⟩
/-- deeds that came in -/
def DdIn (w : World) (a : Option Addr) (len cap : Nat) (ds : List Dd) : Prop := ds.length = len ∧ DsRaw w a ds ∧ len ≤ cap ∧ cap ≤ maxLen ∧ ∀ i, i < ds.length → (ds.getD i dd0).zs.length ≤ maxLen
end Go.Proofs.Ythagafkjlecagaa
namespace Go.Proofs.Ythagafkjlecagaa
open Go.ChangeShapes Go.WideShapes Go.RowKit Go.Deep Go.Joins
set_option linter.unusedSimpArgs false
set_option linter.unusedVariables false

/-- an event as a value -/
def evI (A : Option Addr) (cz : Nat) (x : Ev) : Value := .agg #[.int .i64 x.k, .int .i64 x.dd.k, .int .i64 x.dd.o, .int .i64 x.dd.t, .int .i64 x.dd.n, .int .i64 x.dd.d, .slice A x.dd.zs.length cz, .int .i64 x.at_, .int .i64 x.nu]
structure EvIn (w : World) (A : Option Addr) (cz : Nat) (x : Ev) : Prop where
  i : IsInts w A x.dd.zs
  k : x.dd.zs.length ≤ cz
  m : cz ≤ maxLen
theorem array9 {cs : Array Value} (h : cs.size = 9) : ∃ c0 c1 c2 c3 c4 c5 c6 c7 c8, cs = #[c0, c1, c2, c3, c4, c5, c6, c7, c8] := by
  obtain ⟨l⟩ := cs
  match l, h with
  | [c0, c1, c2, c3, c4, c5, c6, c7, c8], _ => exact ⟨c0, c1, c2, c3, c4, c5, c6, c7, c8, rfl⟩
set_option maxRecDepth 100000 in
set_option maxHeartbeats 4000000 in
theorem open_event {H : Type} {enc : TypeId × Value → H} {w : World} {r : Reach} {b0 base : Nat} {spare : Nat → Bool} {held : Bool} {v : Value} {d : DataW H} {p : List MemPlace} (hv : Value.okWide Try.prog w r b0 28 v) (h : DataW.Trod enc Try.prog w base spare held 28 v d p) : ∃ A cz x, v = evI A cz x ∧ EvIn w A cz x := by
  obtain ⟨cs, rfl, hsz⟩ := okWide_struct Try.underlying28 hv
  have hC : Try.prog.cellsOf 28 = 9 := by kernel_rfl
  obtain ⟨c0, c1, c2, c3, c4, c5, c6, c7, c8, rfl⟩ := array9 (hsz.trans hC)
  obtain ⟨fuel, hf⟩ := h
  obtain ⟨xs, n, _, hx, _, hxl, hfs⟩ := DataW.trod_struct Try.underlying28 hf
  have hxl : xs.length = 4 := hxl
  match xs, hxl with
  | [y0, y1, y2, y3], _ =>
  have s1 : Try.prog.cellsOf 3 = 1 := by kernel_rfl
  have s2 : Try.prog.cellsOf 26 = 6 := by kernel_rfl
  have g0 : DataW.trod enc Try.prog w base spare held n 3 (([c0, c1, c2, c3, c4, c5, c6, c7, c8].drop 0).take (Try.prog.cellsOf 3)) = some y0 := hfs 0 _ rfl
  have g1 : DataW.trod enc Try.prog w base spare held n 26 (([c0, c1, c2, c3, c4, c5, c6, c7, c8].drop 1).take (Try.prog.cellsOf 26)) = some y1 := hfs 1 _ rfl
  have g2 : DataW.trod enc Try.prog w base spare held n 3 (([c0, c1, c2, c3, c4, c5, c6, c7, c8].drop 7).take (Try.prog.cellsOf 3)) = some y2 := hfs 2 _ rfl
  have g3 : DataW.trod enc Try.prog w base spare held n 3 (([c0, c1, c2, c3, c4, c5, c6, c7, c8].drop 8).take (Try.prog.cellsOf 3)) = some y3 := hfs 3 _ rfl
  rw [s1] at g0 g2 g3
  rw [s2] at g1
  change DataW.trod enc Try.prog w base spare held n 3 [c0] = some y0 at g0
  change DataW.trod enc Try.prog w base spare held n 26 [c1, c2, c3, c4, c5, c6] = some y1 at g1
  change DataW.trod enc Try.prog w base spare held n 3 [c7] = some y2 at g2
  change DataW.trod enc Try.prog w base spare held n 3 [c8] = some y3 at g3
  obtain ⟨k, e0⟩ := trod_intD g0
  obtain ⟨A, cz, y, e1, i1, i2, i3⟩ := open_deed g1
  obtain ⟨at_, e2⟩ := trod_intD g2
  obtain ⟨nu, e3⟩ := trod_intD g3
  injection e1 with q1 e1
  injection e1 with q2 e1
  injection e1 with q3 e1
  injection e1 with q4 e1
  injection e1 with q5 e1
  injection e1 with q6 e1
  subst e0 q1 q2 q3 q4 q5 q6 e2 e3
  exact ⟨A, cz, ⟨k, y, at_, nu⟩, rfl, i1, i2, i3⟩
end Go.Proofs.Ythagafkjlecagaa
