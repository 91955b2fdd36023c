/- Decimal texts: impl.decimal, spec.number, impl.readNumber, impl.indexOfByte. Conditions: numbers of at least 0 and at most 1000000000000000, texts of at most 4294967296 bytes. -/
import Derived.Test.YtdlbjmhjaljlfaaBase
import Derived.Test.YtdlbjmhjaljlfaaCut
import Derived.WalkLawsBesides
import Derived.Laws.DeepStrings4
import Derived.Deep.QuietTactic
import Derived.BigQuiet
namespace Go.Proofs.Ytdlbjmhjaljlfaa
open Go.RowKit

theorem dec_len19 {m : Nat} (h : m ≤ 1000000000000000) : (decL m).length ≤ 16 := dec_len 15 m (by omega)
theorem ret_str {a b : ByteArray} (h : a = b) : Ending.returned (.string a) = .returned (.string b) := by rw [h]
theorem add_txt (a b : List UInt8) (w : World) (h : a.length + b.length ≤ 9223372036854775807) : (Op.stringOp .add (txt a) (txt b)).run Try.prog w = .ok (.string (txt (a ++ b))) w := by
  rw [run_string_add_sum w _ _ (by rw [txt_size, txt_size]; exact h), txt_app]
set_option maxHeartbeats 1000000 in
set_option maxRecDepth 10000 in
/-- impl.decimal -/
theorem idec (m : Nat) (w : World) (h : m ≤ 1000000000000000) :
    Calls Try.prog 68 #[.int .i64 (m : Int)] w fun e w' => e = .returned (.string (txt (decL m))) ∧ w = w' := by
  have hl := dec_len19 h
  have hx := digs_ext (m % 10) (by omega)
  go_enter Try.func68, Try.ntmps68
  go_wp2_with fail
  go_loop [0, 4] (fun n t => ∃ (k : Nat) (l : List UInt8), k ≤ m ∧ n = .int .i64 (k : Int) ∧ t = .string (txt l) ∧ Hid (DecI m k l)) (fun n _ => (intOf n).toNat)
  case atStart => exact ⟨m, [ofDig (m % 10)], Nat.le_refl _, rfl, congrArg Value.string hx, decI_start m⟩
  case round =>
    obtain ⟨k, l, hk, rfl, rfl, HI⟩ := hrel
    by_cases hlt : k < 10
    · have e : l = decL m := by
        rcases HI.out.2 with h | h
        · exact h.2
        · omega
      subst e
      go_wp2_with fail
      go_ret
      exact ⟨rfl, rfl⟩
    · have hx := digs_ext (k / 10 % 10) (by omega)
      have hll := HI.out.1
      have hadd := add_txt [ofDig (k / 10 % 10)] l w (by simp; omega)
      have HN := Lib.hid (decI_step HI.out (by omega))
      have HS : Hid (([ofDig (k / 10 % 10)] : List UInt8) ++ l = ofDig (k / 10 % 10) :: l) := Lib.hid rfl
      generalize [ofDig (k / 10 % 10)] = d at *
      go_wp2_with fail
      go_round
      case rel => exact ⟨k / 10, _, by omega, by go_num, rfl, by rw [HS.out]; exact HN.out⟩
      case measure => simp [intOf]; omega

set_option maxHeartbeats 1000000 in
set_option maxRecDepth 10000 in
/-- spec.number -/
theorem snum : ∀ (j m : Nat) (n : Int) (w : World), n = m → m ≤ j → m ≤ 1000000000000000 →
    Calls Try.prog 105 #[.int .i64 n] w fun e w' => e = .returned (.string (txt (decL m))) ∧ w = w' := by
  intro j
  induction j with
  | zero =>
    intro m n w hn hj hm
    have e : m = 0 := by omega
    subst e hn
    have hx : ({ data := #[48, 49, 50, 51, 52, 53, 54, 55, 56, 57] } : ByteArray).extract 0 1 = txt [ofDig 0] := digs_ext 0 (by omega)
    have HD := Lib.hid (decL_lt (n := 0) (by omega))
    go_enter Try.func105, Try.ntmps105
    go_wp2_with fail
    go_ret
    exact ⟨ret_str (by rw [HD.out]), rfl⟩
  | succ j ih =>
    intro m n w hn hj hm
    subst hn
    by_cases h : m < 10
    · have hx := digs_ext m h
      have HD := Lib.hid (decL_lt h)
      go_enter Try.func105, Try.ntmps105
      go_wp2_with fail
      go_ret
      exact ⟨ret_str (by rw [HD.out]), rfl⟩
    · have l1 := dec_len19 (m := m / 10) (by omega)
      have l2 := dec_len19 (m := m % 10) (by omega)
      have HD := Lib.hid (show decL m = decL (m / 10) ++ decL (m % 10) by rw [decL_ge h, decL_lt (n := m % 10) (by omega)])
      have hadd := fun w => add_txt (decL (m / 10)) (decL (m % 10)) w (by omega)
      go_enter Try.func105, Try.ntmps105
      go_wp2_with fail
      refine (ih (m / 10) _ _ (by omega) (by omega) (by omega)).mono ?_
      rintro e w' ⟨rfl, rfl⟩
      go_wp2_with fail
      refine (ih (m % 10) _ _ (by omega) (by omega) (by omega)).mono ?_
      rintro e w' ⟨rfl, rfl⟩
      go_wp2_with fail
      go_ret
      exact ⟨ret_str (by rw [HD.out]), rfl⟩

set_option maxHeartbeats 1000000 in
/-- impl.indexOfByte -/
theorem iidx (s : ByteArray) (c : Nat) (w : World) (h : s.size ≤ 4294967296) :
    Calls Try.prog 71 #[.string s, .int .u8 (c : Int)] w fun e w' => e = .returned (.int .i64 (idxI c s)) ∧ w = w' := by
  have hb := get_bt s
  go_enter Try.func71, Try.ntmps71
  go_wp2_with fail
  go_loop [5] (fun i => ∃ k : Nat, k ≤ s.size ∧ i = .int .i64 k ∧ Hid (∀ j, j < k → bt s j ≠ c)) (fun i => s.size - (intOf i).toNat)
  case atStart => exact ⟨0, Nat.zero_le _, rfl, fun j hj => by omega⟩
  case round =>
    obtain ⟨k, hk, rfl, HI⟩ := hrel
    by_cases hlt : k < s.size
    · by_cases hc : bt s k = c
      · have HX := Lib.hid (idx_is hlt hc HI.out)
        have ec : (bt s k == (c : Int)) = true := by rw [beq_iff_eq]; exact hc
        clear hc
        go_wp2_with fail
        go_ret
        exact ⟨ret_int HX.out.symm, rfl⟩
      · have HY : Hid (∀ j, j < k + 1 → bt s j ≠ c) := fun j hj => by
          by_cases e : j = k
          · subst e; exact hc
          · exact HI.out j (by omega)
        have ec : (bt s k == (c : Int)) = false := by rw [beq_eq_false_iff_ne]; exact hc
        clear hc
        go_wp2_with fail
        go_round
        case rel => exact ⟨k + 1, by omega, by go_num, HY⟩
        case measure => simp [intOf]; omega
    · have HX := Lib.hid (idx_none (c := c) (s := s) (fun j hj => HI.out j (by omega)))
      go_wp2_with fail
      go_ret
      exact ⟨ret_int HX.out.symm, rfl⟩

set_option maxHeartbeats 2000000 in
/-- impl.readNumber -/
theorem iread (s : ByteArray) (w : World) (h : s.size ≤ 4294967296) :
    Calls Try.prog 108 #[.string s] w fun e w' => e = .returned (.int .i64 (rdS 10000000 s)) ∧ w = w' := by
  have hb := get_bt s
  by_cases h7 : 7 < s.size
  · have HX := Lib.hid (rdS_long h7)
    go_enter Try.func108, Try.ntmps108
    go_wp2_with fail
    go_ret
    exact ⟨ret_int HX.out.symm, rfl⟩
  · by_cases h1 : s.size = 0
    · have HX := Lib.hid (rdS_empty 10000000 h1)
      go_enter Try.func108, Try.ntmps108
      go_wp2_with fail
      go_ret
      exact ⟨ret_int HX.out.symm, rfl⟩
    · by_cases hl : bt s 0 = 48 ∧ 1 < s.size
      · have HX := Lib.hid (rdS_lead 10000000 hl.2 hl.1)
        obtain ⟨hl1, hl2⟩ := hl
        go_enter Try.func108, Try.ntmps108
        go_wp2_with fail
        go_ret
        exact ⟨ret_int HX.out.symm, rfl⟩
      · by_cases e48 : bt s 0 = 48
        · have e1 : s.size = 1 := by omega
          have HL : Hid (s.size = 1 ∨ bt s 0 ≠ 48) := .inl e1
          go_enter Try.func108, Try.ntmps108
          go_wp2_with fail
          go_loop [3, 4] (fun n i => ∃ k : Nat, k ≤ s.size ∧ i = .int .i64 k ∧ n = .int .i64 (vt s k : Int) ∧ Hid (∀ j, j < k → 48 ≤ bt s j ∧ bt s j ≤ 57)) (fun _ i => s.size - (intOf i).toNat)
          case atStart => exact ⟨0, Nat.zero_le _, rfl, by rw [vt_zero]; rfl, fun j hj => by omega⟩
          case round =>
            obtain ⟨k, hk, rfl, rfl, HI⟩ := hrel
            have hv : vt s k < 10000000 := Nat.lt_of_lt_of_le (vt_bd hk HI.out) (Nat.pow_le_pow_right (n := 10) (by omega) (show k ≤ 7 by omega))
            by_cases hlt : k < s.size
            · have b1 := bt_bd s k
              by_cases h48 : bt s k < 48
              · have HX := Lib.hid (rdS_not (lim := 10000000) hlt (.inl h48))
                go_wp2_with fail
                go_ret
                exact ⟨ret_int HX.out.symm, rfl⟩
              · by_cases h57 : 57 < bt s k
                · have HX := Lib.hid (rdS_not (lim := 10000000) hlt (.inr h57))
                  go_wp2_with fail
                  go_ret
                  exact ⟨ret_int HX.out.symm, rfl⟩
                · have HY : Hid (∀ j, j < k + 1 → 48 ≤ bt s j ∧ bt s j ≤ 57) := fun j hj => by
                    by_cases e : j = k
                    · subst e; omega
                    · exact HI.out j (by omega)
                  have HV := Lib.hid (vt_succ hlt (by omega))
                  generalize vt s k = x at *
                  have t1 : IntKind.u8.wrap (bt s k - 48) = bt s k - 48 := by rw [IntKind.wrap_u8]; omega
                  go_wp2_with fail
                  go_round
                  case rel => exact ⟨k + 1, by omega, by go_num, by rw [HV.out], HY⟩
                  case measure => simp [intOf]; omega
            · have e : k = s.size := by omega
              have HX := Lib.hid (rdS_full (lim := 10000000) (by omega) (fun j hj => HI.out j (by omega)) HL.out (by rw [← e]; exact hv))
              rw [← e] at HX
              go_wp2_with fail
              go_ret
              exact ⟨ret_int (by rw [HX.out, e, e1]), rfl⟩
        · have HL : Hid (s.size = 1 ∨ bt s 0 ≠ 48) := .inr e48
          go_enter Try.func108, Try.ntmps108
          go_wp2_with fail
          go_loop [3, 4] (fun n i => ∃ k : Nat, k ≤ s.size ∧ i = .int .i64 k ∧ n = .int .i64 (vt s k : Int) ∧ Hid (∀ j, j < k → 48 ≤ bt s j ∧ bt s j ≤ 57)) (fun _ i => s.size - (intOf i).toNat)
          case atStart => exact ⟨0, Nat.zero_le _, rfl, by rw [vt_zero]; rfl, fun j hj => by omega⟩
          case round =>
            obtain ⟨k, hk, rfl, rfl, HI⟩ := hrel
            have hv : vt s k < 10000000 := Nat.lt_of_lt_of_le (vt_bd hk HI.out) (Nat.pow_le_pow_right (n := 10) (by omega) (show k ≤ 7 by omega))
            by_cases hlt : k < s.size
            · have b1 := bt_bd s k
              by_cases h48 : bt s k < 48
              · have HX := Lib.hid (rdS_not (lim := 10000000) hlt (.inl h48))
                go_wp2_with fail
                go_ret
                exact ⟨ret_int HX.out.symm, rfl⟩
              · by_cases h57 : 57 < bt s k
                · have HX := Lib.hid (rdS_not (lim := 10000000) hlt (.inr h57))
                  go_wp2_with fail
                  go_ret
                  exact ⟨ret_int HX.out.symm, rfl⟩
                · have HY : Hid (∀ j, j < k + 1 → 48 ≤ bt s j ∧ bt s j ≤ 57) := fun j hj => by
                    by_cases e : j = k
                    · subst e; omega
                    · exact HI.out j (by omega)
                  have HV := Lib.hid (vt_succ hlt (by omega))
                  generalize vt s k = x at *
                  have t1 : IntKind.u8.wrap (bt s k - 48) = bt s k - 48 := by rw [IntKind.wrap_u8]; omega
                  go_wp2_with fail
                  go_round
                  case rel => exact ⟨k + 1, by omega, by go_num, by rw [HV.out], HY⟩
                  case measure => simp [intOf]; omega
            · have e : k = s.size := by omega
              have HX := Lib.hid (rdS_full (lim := 10000000) (by omega) (fun j hj => HI.out j (by omega)) HL.out (by rw [← e]; exact hv))
              rw [← e] at HX
              go_wp2_with fail
              go_ret
              exact ⟨ret_int (by rw [HX.out, e]), rfl⟩
end Go.Proofs.Ytdlbjmhjaljlfaa
