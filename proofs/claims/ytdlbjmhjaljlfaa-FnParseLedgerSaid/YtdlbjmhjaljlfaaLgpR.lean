/- Texts of valid ledgers are read back, and written back; how many lines they have. Condition: texts of at most 4294967296 bytes. -/
import Derived.Test.YtdlbjmhjaljlfaaLgpS
namespace Go.Proofs.Ytdlbjmhjaljlfaa
open Go.RowKit
set_option linter.unusedVariables false

theorem line_hd {o n d : Int} (h1 : 1 ≤ o) (h2 : o ≤ 999) (hv : Wsh.vfB n d = true) : hokB (txt (lineB o n d)) = true ∧ hdS 1000000 (txt (lineB o n d)) = (o, n, d) := by
  obtain ⟨a, b, c⟩ := fr_read hv
  obtain ⟨e1, e2⟩ := two_words (line_cut o n d)
  refine ⟨by rw [e1, a], ?_⟩
  rw [e2 a, b, c]
  have : rdS 1000000 (txt (decL o.toNat)) = o := by
    unfold rdS
    rw [txt_list, rd_dec (by omega)]; omega
  rw [this]
/-- the text of a valid ledger is the text of that ledger alone -/
theorem par_text {hs : List Hd} (hv : vlR hs = true) : plB (txt (textB hs)) = true ∧ plL (txt (textB hs)) = hs := by
  have h := text_cut hs
  rw [lines_form] at h
  obtain ⟨e1, e2⟩ := List.append_inj' h rfl
  have e3 : lastE (txt (textB hs)) = txt [] := by simpa using e2
  have ok : ∀ x ∈ hs, hokB (txt (lineB x.1 x.2.1 x.2.2)) = true ∧ hdS 1000000 (txt (lineB x.1 x.2.1 x.2.2)) = x := fun x hx => by
    obtain ⟨k, hk, rfl⟩ := List.getElem_of_mem hx
    obtain ⟨a, b, c⟩ := vl_at hv hk
    rw [getD_lt _ hk] at a b c
    exact line_hd a b c
  have e4 : plL (txt (textB hs)) = hs := by
    unfold plL
    rw [e1, List.map_map]
    have : hs.map (hdS 1000000 ∘ fun h => txt (lineB h.1 h.2.1 h.2.2)) = hs.map id := List.map_congr_left (fun x hx => (ok x hx).2)
    rw [this, List.map_id]
  refine ⟨?_, e4⟩
  unfold plB
  rw [e4, hv, decide_eq_true ((last_size _).1 (by rw [e3]; rfl)), List.all_eq_true.2 (fun l hl => by
    rw [e1] at hl
    obtain ⟨x, hx, rfl⟩ := List.mem_map.1 hl
    exact (ok x hx).1)]; rfl
theorem hok_line {l : ByteArray} (h : hokB l = true) (ho : 0 ≤ rdS 1000000 (wA l)) : txt (lineB (hdS 1000000 l).1 (hdS 1000000 l).2.1 (hdS 1000000 l).2.2) = l := by
  have h2 := h
  unfold hokB at h2
  rw [Bool.and_eq_true] at h2
  have e := line_back (hok_two h) ho h2.2
  unfold hdS
  dsimp only
  exact e
/-- a text of a ledger is the text of what is read -/
theorem text_par {s : ByteArray} (h : plB s = true) : vlR (plL s) = true ∧ flT (plL s) = s := by
  unfold plB at h
  rw [Bool.and_eq_true, Bool.and_eq_true, decide_eq_true_eq] at h
  obtain ⟨⟨h1, h2⟩, hv⟩ := h
  refine ⟨hv, ?_⟩
  rw [fl_yes hv]
  refine text_back (s := s) ?_
  rw [lines_form]
  have e3 : lastE s = txt [] := by
    have := (last_size s).2 h1
    have e : (lastE s).data.toList = [] := List.length_eq_zero_iff.1 (by rw [bt_len]; exact this)
    rw [← txt_of (lastE s), e]
  rw [e3]
  congr 1
  unfold plL
  rw [List.map_map]
  have : (lnA s).map ((fun h : Hd => txt (lineB h.1 h.2.1 h.2.2)) ∘ hdS 1000000) = (lnA s).map id := List.map_congr_left (fun l hl => by
    obtain ⟨k, hk, rfl⟩ := List.getElem_of_mem hl
    have hk2 : k < (plL s).length := by unfold plL; simpa using hk
    have a := (vl_at hv hk2).1
    have e : (plL s).getD k hd0 = hdS 1000000 ((lnA s)[k]) := by
      unfold plL
      rw [getD_lt _ (by simpa using hk), List.getElem_map]
    rw [e] at a
    exact hok_line (List.all_eq_true.1 h2 _ (List.getElem_mem _)) (by unfold hdS at a; dsimp only at a; omega))
  rw [this, List.map_id]
theorem text_size {hs : List Hd} (h : vlR hs = true) : (txt (textB hs)).size ≤ 384 := by
  have a := ltk_len h hs.length (Nat.le_refl _)
  have b := vl_len h
  rw [ltk_all] at a
  rw [txt_size]; omega
theorem cutTo_len1 {s : ByteArray} {k : Nat} (h : bt s k = 10) : (cutTo 10 s (k + 1)).1.length = (cutTo 10 s k).1.length + 1 := by rw [cutTo_hit h]; simp
theorem cutTo_len0 {s : ByteArray} {k : Nat} (h : ¬ bt s k = 10) : (cutTo 10 s (k + 1)).1.length = (cutTo 10 s k).1.length := by rw [cutTo_miss h]
set_option maxHeartbeats 2000000 in
/-- laws.newlines -/
theorem lnewl (s : ByteArray) (w : World) (h : s.size ≤ 4294967296) :
    Calls Try.prog 28 #[.string s] w fun e w' => e = .returned (.int .i64 ((lnA s).length : Int)) ∧ w = w' := by
  have hb := get_bt s
  go_enter Try.func28, Try.ntmps28
  go_wp2_with fail
  go_loop [3, 4] (fun n i => ∃ k : Nat, k ≤ s.size ∧ i = .int .i64 k ∧ n = .int .i64 (((cutTo 10 s k).1.length : Nat) : Int)) (fun _ i => s.size - (intOf i).toNat)
  case atStart => exact ⟨0, Nat.zero_le _, rfl, rfl⟩
  case round =>
    obtain ⟨k, hk, rfl, rfl⟩ := hrel
    have y2 := (cutTo_bd 10 s k).2
    by_cases hlt : k < s.size
    · by_cases hc : bt s k = 10
      · have HC := Lib.hid (cutTo_len1 hc)
        have ec : (bt s k == 10) = true := by rw [beq_iff_eq]; exact hc
        clear hc
        generalize (cutTo 10 s k).1.length = q at *
        go_wp2_with fail
        go_round
        case rel => exact ⟨k + 1, by omega, by go_num, by rw [HC.out]; go_num⟩
        case measure => simp [intOf]; omega
      · have HC := Lib.hid (cutTo_len0 hc)
        have ec : (bt s k == 10) = false := by rw [beq_eq_false_iff_ne]; exact hc
        clear hc
        generalize (cutTo 10 s k).1.length = q at *
        go_wp2_with fail
        go_round
        case rel => exact ⟨k + 1, by omega, by go_num, by rw [HC.out]⟩
        case measure => simp [intOf]; omega
    · obtain rfl : k = s.size := by omega
      have HQ : Hid ((lnA s).length = (cutTo 10 s s.size).1.length) := Lib.hid rfl
      generalize (cutTo 10 s s.size).1.length = q at *
      go_wp2_with fail
      go_ret
      exact ⟨ret_int (by rw [HQ.out]), rfl⟩
end Go.Proofs.Ytdlbjmhjaljlfaa
