/- Leaves, by the program and by the model. Condition: at most 1048576 nodes. -/
import Derived.Test.YtlpmeljneogpiabNodK
namespace Go.Proofs.Ytlpmeljneogpiab
open Go.RowKit
set_option linter.unusedSimpArgs false
set_option linter.unusedVariables false
set_option maxHeartbeats 4000000 in
/-- impl.LeavesOf -/
theorem iLeaves (a : Option Addr) (cap : Nat) (ns : List Nd) (w : World) (h : IsNd w a ns) (hn : ns.length ≤ 1048576) (hcap : ns.length ≤ cap) :
    Calls Try.prog 29 #[.slice a ns.length cap] w (OutI w (leavesV ns)) := by
  have VN := iVN a cap ns _ h hn hcap
  cases hv : vnB ns with
  | false =>
    rw [show leavesV ns = [] from by unfold leavesV; rw [hv]; rfl]
    rw [hv] at VN
    clear hv h
    go_enter Try.func29, Try.ntmps29
    go_wp2_with fail
    refine VN.mono ?_
    rintro e w1 ⟨rfl, C⟩
    go_wp2_with fail
    go_ret
    exact outI_nil C
  | true =>
  rw [hv] at VN
  rw [show leavesV ns = leavesTo ns ns.length from by unfold leavesV; rw [hv]; rfl]
  obtain ⟨l1, l12, _⟩ := vn_is hv
  obtain ⟨i0, hi0, hz0, hz1, hz2⟩ := info_parts infoInt
  have HK := Lib.hid (fun (W : World) (hW : Below w.heap.size w W) (k : Nat) (hk : k < ns.length) => (by have := iKids a cap ns (k : Int) W (nd_below h hW) hn hcap; rw [kids_yes hv (inN_is hk)] at this; exact this : Calls Try.prog 22 #[.slice a ns.length cap, .int .i64 (k : Int)] W (OutI W (kidsF ns (k : Int)))))
  clear hv h
  go_enter Try.func29, Try.ntmps29
  go_wp2_with fail
  refine VN.mono ?_
  rintro e w1 ⟨rfl, C⟩
  clear VN
  go_wp2_with fail
  go_loopw [3, 11] (fun v i wr => ∃ k : Nat, k ≤ ns.length ∧ i = .int .i64 k ∧ OwnI wr w.heap.size v (leavesTo ns k) ∧ Below w.heap.size w wr) (fun _ i _ => ns.length - (intOf i).toNat)
  case atStart => exact ⟨0, Nat.zero_le _, rfl, OwnI.new C, C.alloc C.size _⟩
  case round =>
    clear C
    obtain ⟨k, hk, rfl, hO, hB⟩ := hrel
    by_cases hlt : k < ns.length
    · have CK := HK.out wr hB k hlt
      have hyes : (kidsF ns (k : Int)).length = 0 → leavesTo ns (k + 1) = leavesTo ns k ++ [(k : Int)] := fun e => leavesTo_yes e
      have hno : ¬ (kidsF ns (k : Int)).length = 0 → leavesTo ns (k + 1) = leavesTo ns k := fun e => leavesTo_no e
      have hkl := kids_len ns (k : Int)
      have hll := leavesTo_len ns k
      have HO := Lib.hid hO
      have HB := Lib.hid hB
      have HYN := Lib.hid (And.intro hyes hno)
      clear hO hB hyes hno
      generalize kidsF ns (k : Int) = q at CK HYN hkl
      go_wp2_with fail
      refine CK.mono ?_
      rintro e w2 ⟨v, rfl, hK, hB2⟩
      obtain ⟨kb, kc, rfl, _⟩ := hK.ints
      have hO2 : OwnI w2 w.heap.size _ (leavesTo ns k) := HO.out.of_block hB2
      have hB2' : Below w.heap.size w w2 := bel_tr HB.out hB2
      have hsz := hB2'.size
      clear hK hB2 CK
      obtain ⟨n, hnq⟩ : ∃ n, q.length = n := ⟨_, rfl⟩
      have HYN2 : Hid ((n = 0 → leavesTo ns (k + 1) = leavesTo ns k ++ [(k : Int)]) ∧ (¬ n = 0 → leavesTo ns (k + 1) = leavesTo ns k)) := by rw [← hnq]; exact HYN.out
      rw [hnq] at hkl ⊢
      clear HYN hnq
      generalize leavesTo ns k = ls at hO2 hll HYN2
      by_cases hz : n = 0
      · subst hz
        have HY := Lib.hid (HYN2.out.1 rfl)
        clear HYN2
        go_wp2_with (first | (at_builtin; refine wpList_append_own _ rfl (.tmp 19) (.tmp 21) _ rfl w.heap.size 3 i0 (.int .i64 0) 1 8 Try.underlying27 hi0 hz0 hz1 hz2 rfl (by decide) _ _ _ rfl (hO2.alloc _) ⟨w2.heap.size, 0, none⟩ 1 1 [.int .i64 (k : Int)] rfl rfl (cell_one_new _ _ _) (fun x hx => by simp at hx; subst hx; rfl) (by unfold maxLen; omega) (by omega) (by simp; omega) ?_; intro v3 w3 hown3 hgrow3 hnil3))
        have HR : Hid (OwnI w3 w.heap.size v3 (leavesTo ns (k + 1)) ∧ Below w.heap.size w w3) := ⟨by rw [HY.out]; exact OwnI.snoc hown3, (hB2'.alloc hsz _).grown hgrow3 (by simp; omega) hO2.grow⟩
        clear hO2 hown3 hgrow3 hnil3 hB2'
        go_roundw
        case rel => exact ⟨k + 1, by omega, by go_num, HR.out.1, HR.out.2⟩
        case measure => simp [intOf]; omega
      · have HY := Lib.hid (HYN2.out.2 hz)
        have z0 : ((n : Int) == 0) = false := by simp; omega
        have z1 : (n == 0) = false := by simpa using hz
        have HO2 := Lib.hid hO2
        have HB2 := Lib.hid hB2'
        clear HYN2 hO2 hB2'
        go_wp2_with fail
        go_roundw
        case rel => exact ⟨k + 1, by omega, by go_num, by rw [HY.out]; exact HO2.out, HB2.out⟩
        case measure => simp [intOf]; omega
    · have HO := Lib.hid hO
      have HB := Lib.hid hB
      clear hO hB
      go_wp2_with fail
      go_ret
      exact ⟨_, rfl, by rw [show k = ns.length from by omega] at HO; exact HO.out, HB.out⟩
end Go.Proofs.Ytlpmeljneogpiab
