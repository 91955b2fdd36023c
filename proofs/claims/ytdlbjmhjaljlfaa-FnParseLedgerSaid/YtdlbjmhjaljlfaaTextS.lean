/- Reading of numbers as the model does it: spec.readNumber. Condition: a text of at most 4294967296 bytes. -/
import Derived.Test.YtdlbjmhjaljlfaaTextI
namespace Go.Proofs.Ytdlbjmhjaljlfaa
open Go.RowKit

theorem neq_bool {b : Bool} : (!b) = true ↔ b = false := by cases b <;> simp
set_option maxHeartbeats 2000000 in
/-- spec.readNumber -/
theorem sread (s : ByteArray) (w : World) (h : s.size ≤ 4294967296) :
    Calls Try.prog 77 #[.string s] w fun e w' => e = .returned (.int .i64 (rdS 1000000 s)) ∧ w = w' := by
  have hb := get_bt s
  go_enter Try.func77, Try.ntmps77
  go_wp2_with fail
  go_loop [3, 4] (fun n i => ∃ k : Nat, k ≤ s.size ∧ i = .int .i64 k ∧ n = .int .i64 (vt s k : Int) ∧ vt s k < 1000000 ∧ Hid (∀ j, j < k → 48 ≤ bt s j ∧ bt s j ≤ 57)) (fun _ i => s.size - (intOf i).toNat)
  case atStart => exact ⟨0, Nat.zero_le _, rfl, by rw [vt_zero]; rfl, by rw [vt_zero]; omega, fun j hj => by omega⟩
  case round =>
    obtain ⟨k, hk, rfl, rfl, hv, HI⟩ := hrel
    by_cases hlt : k < s.size
    · have b1 := bt_bd s k
      by_cases h48 : bt s k < 48
      · have HX := Lib.hid (rdS_not (lim := 1000000) hlt (.inl h48))
        go_wp2_with fail
        go_ret
        exact ⟨ret_int HX.out.symm, rfl⟩
      · by_cases h57 : 57 < bt s k
        · have HX := Lib.hid (rdS_not (lim := 1000000) hlt (.inr h57))
          go_wp2_with fail
          go_ret
          exact ⟨ret_int HX.out.symm, rfl⟩
        · have HY : Hid (∀ j, j < k + 1 → 48 ≤ bt s j ∧ bt s j ≤ 57) := fun j hj => by
            by_cases e : j = k
            · subst e; omega
            · exact HI.out j (by omega)
          have hvs := vt_succ hlt (by omega)
          have hbig := rdS_big (lim := 1000000) (s := s) (k := k + 1) (by omega)
          have t1 : IntKind.u8.wrap (bt s k - 48) = bt s k - 48 := by rw [IntKind.wrap_u8]; omega
          by_cases hm : vt s (k + 1) < 1000000
          · have HM := Lib.hid hm
            have hm2 : (vt s k : Int) * 10 + (bt s k - 48) < 1000000 := by omega
            have HV := Lib.hid hvs
            clear hvs hbig hm
            generalize vt s k = x at *
            go_wp2_with fail
            go_round
            case rel => exact ⟨k + 1, by omega, by go_num, by rw [HV.out]; congr 1; omega, HM.out, HY⟩
            case measure => simp [intOf]; omega
          · have HX := Lib.hid (hbig (by omega))
            have hm2 : ¬ (vt s k : Int) * 10 + (bt s k - 48) < 1000000 := by omega
            clear hvs hbig hm
            generalize vt s k = x at *
            go_wp2_with fail
            go_ret
            exact ⟨ret_int HX.out.symm, rfl⟩
    · have e : k = s.size := by omega
      by_cases h0 : s.size = 0
      · have HX := Lib.hid (rdS_empty 1000000 h0)
        have he : s.toList.isEmpty = true := by rw [ByteArray.toList_eq, List.isEmpty_iff]; exact List.length_eq_zero_iff.1 (by rw [bt_len]; exact h0)
        go_wp2_with fail
        go_ret
        exact ⟨ret_int HX.out.symm, rfl⟩
      · have he : s.toList.isEmpty = false := by
          rw [ByteArray.toList_eq, List.isEmpty_eq_false_iff]; exact ne_nil (by omega)
        have ht := rdS_text (lim := 1000000) (s := s) (by omega) (fun j hj => HI.out j (by omega)) (by rw [← e]; exact hv)
        rw [← e] at ht
        have hk0 : ¬ k = 0 := by omega
        generalize vt s k = x at *
        go_wp2_with fail
        refine (snum x x _ _ rfl (Nat.le_refl _) (by omega)).mono ?_
        rintro e w' ⟨rfl, rfl⟩
        cases hq : (s.toList == (txt (decL x)).toList) with
        | true =>
          rw [hq] at ht
          have HX := Lib.hid ht
          clear ht
          go_wp2_with fail
          go_ret
          exact ⟨ret_int HX.out.symm, rfl⟩
        | false =>
          rw [hq] at ht
          have HX := Lib.hid ht
          clear ht
          go_wp2_with fail
          go_ret
          exact ⟨ret_int HX.out.symm, rfl⟩
end Go.Proofs.Ytdlbjmhjaljlfaa
