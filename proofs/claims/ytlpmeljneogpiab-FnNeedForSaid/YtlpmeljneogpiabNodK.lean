/- Kids of a node, by the program and by the model. Condition: at most 1048576 nodes. -/
import Derived.Test.YtlpmeljneogpiabGrB
import Derived.Test.YtlpmeljneogpiabGrA
namespace Go.Proofs.Ytlpmeljneogpiab
open Go.RowKit
set_option linter.unusedSimpArgs false
set_option linter.unusedVariables false
theorem kids_len (ns : List Nd) (at_ : Int) : (kidsF ns at_).length ≤ ns.length := kidsTo_len ns at_ _
set_option maxHeartbeats 2000000 in
/-- spec.kidsOf -/
theorem skids (a : Option Addr) (cap : Nat) (ns : List Nd) (at_ : Int) (w : World) (h : IsNd w a ns) (hv : vnB ns = true) :
    Calls Try.prog 83 #[.slice a ns.length cap, .int .i64 at_] w (OutI w (kidsF ns at_)) := by
  obtain ⟨l1, l12, _⟩ := vn_is hv
  obtain ⟨i0, hi0, hz0, hz1, hz2⟩ := info_parts infoInt
  rcases h with rfl | ⟨g, o, rfl, hc⟩
  · simp at l1
  have HC := Lib.hid hc
  clear hc hv
  go_enter Try.func83, Try.ntmps83
  go_wp2_with fail
  go_loopw [5, 6] (fun v i wr => ∃ k : Nat, k ≤ ns.length ∧ i = .int .i64 k ∧ OwnI wr w.heap.size v (kidsTo ns at_ k) ∧ Below w.heap.size w wr) (fun _ i _ => ns.length - (intOf i).toNat)
  case atStart => exact ⟨0, Nat.zero_le _, rfl, OwnI.new (Below.refl _ w), by go_grown⟩
  case round =>
    obtain ⟨k, hk, rfl, hO, hB⟩ := hrel
    have hsz := hB.size
    by_cases hlt : k < ns.length
    · have c0 := (nd_at HC.out hB hlt).1
      have hyes : (ns.getD k nd0).1 = at_ → kidsTo ns at_ (k + 1) = kidsTo ns at_ k ++ [(k : Int)] := fun e => kidsTo_yes e
      have hno : ¬ (ns.getD k nd0).1 = at_ → kidsTo ns at_ (k + 1) = kidsTo ns at_ k := fun e => kidsTo_no e
      have hll := kidsTo_len ns at_ k
      generalize (ns.getD k nd0).1 = x0 at c0 hyes hno
      generalize kidsTo ns at_ k = ks at hyes hno hll hO
      by_cases hp : x0 = at_
      · have HY := Lib.hid (hyes hp)
        subst hp
        clear hyes hno
        go_wp2_with (first | (at_builtin; refine wpList_append_own _ rfl (.tmp 21) (.tmp 23) _ rfl w.heap.size 3 i0 (.int .i64 0) 1 8 Try.underlying27 hi0 hz0 hz1 hz2 rfl (by decide) _ _ _ rfl (hO.alloc _) ⟨wr.heap.size, 0, none⟩ 1 1 [.int .i64 (k : Int)] rfl rfl (cell_one_new _ _ _) (fun x hx => by simp at hx; subst hx; rfl) (by unfold maxLen; omega) (by omega) (by simp; omega) ?_; intro v3 w3 hown3 hgrow3 hnil3))
        have HR : Hid (OwnI w3 w.heap.size v3 (kidsTo ns x0 (k + 1)) ∧ Below w.heap.size w w3) := ⟨by rw [HY.out]; exact OwnI.snoc hown3, (hB.alloc hsz _).grown hgrow3 (by simp; omega) hO.grow⟩
        clear hO hown3 hgrow3 hnil3 hB
        go_roundw
        case rel => exact ⟨k + 1, by omega, by go_num, HR.out.1, HR.out.2⟩
        case measure => simp [intOf]; omega
      · have HY := Lib.hid (hno hp)
        have eb : (x0 == at_) = false := by simpa using hp
        have HO := Lib.hid hO
        have HB := Lib.hid hB
        clear hyes hno hp hO hB
        go_wp2_with fail
        go_roundw
        case rel => exact ⟨k + 1, by omega, by go_num, by rw [HY.out]; exact HO.out, HB.out⟩
        case measure => simp [intOf]; omega
    · have HO := Lib.hid hO
      have HB := Lib.hid hB
      clear hO hB
      go_wp2_with fail
      go_ret
      exact ⟨_, rfl, by rw [show k = ns.length from by omega] at HO; exact HO.out, HB.out⟩
set_option maxHeartbeats 4000000 in
/-- impl.KidsOf -/
theorem iKids (a : Option Addr) (cap : Nat) (ns : List Nd) (at_ : Int) (w : World) (h : IsNd w a ns) (hn : ns.length ≤ 1048576) (hcap : ns.length ≤ cap) :
    Calls Try.prog 22 #[.slice a ns.length cap, .int .i64 at_] w (OutI w (kidsV ns at_)) := by
  have VN := iVN a cap ns _ h hn hcap
  have CI := fun W => iisNode a ns.length cap at_ W hn
  skip
  skip
  cases hv : vnB ns with
  | false =>
    rw [kids_no (.inl hv)]
    rw [hv] at VN
    clear hv h
    go_enter Try.func22, Try.ntmps22
    go_wp2_with fail
    refine VN.mono ?_
    rintro e w1 ⟨rfl, C⟩
    go_wp2_with fail
    go_ret
    exact outI_nil C
  | true =>
  rw [hv] at VN
  cases hi : inN ns.length at_ with
  | false =>
    rw [kids_no (.inr hi)]
    rw [hi] at CI
    clear hv hi h
    go_enter Try.func22, Try.ntmps22
    go_wp2_with fail
    refine VN.mono ?_
    rintro e w1 ⟨rfl, C⟩
    go_wp2_with fail
    refine (CI _).mono ?_
    rintro e w' ⟨rfl, rfl⟩
    go_wp2_with fail
    go_ret
    exact outI_nil C
  | true =>
    rw [hi] at CI
    rw [kids_yes hv hi]
    obtain ⟨i0, hi0, hz0, hz1, hz2⟩ := info_parts infoInt
    have HH := Lib.hid h
    obtain ⟨l1, l12, _⟩ := vn_is hv
    rcases h with rfl | ⟨g, o, rfl, hc⟩
    · simp at l1
    have HC := Lib.hid hc
    clear hi hc hv
    go_enter Try.func22, Try.ntmps22
    go_wp2_with fail
    refine VN.mono ?_
    rintro e w1 ⟨rfl, C⟩
    go_wp2_with fail
    refine (CI _).mono ?_
    rintro e w' ⟨rfl, rfl⟩
    clear VN CI
    go_wp2_with fail
    go_loopw [5, 20] (fun v i wr => ∃ k : Nat, k ≤ ns.length ∧ i = .int .i64 k ∧ OwnI wr w.heap.size v (kidsTo ns at_ k) ∧ Below w.heap.size w wr) (fun _ i _ => ns.length - (intOf i).toNat)
    case atStart => exact ⟨0, Nat.zero_le _, rfl, OwnI.new C, C.alloc C.size _⟩
    case round =>
      clear C
      obtain ⟨k, hk, rfl, hO, hB⟩ := hrel
      have hsz := hB.size
      by_cases hlt : k < ns.length
      · obtain ⟨c0, c1, c2, c3, c4⟩ := nd_at HC.out hB hlt
        have hyes : (ns.getD k nd0).1 = at_ → kidsTo ns at_ (k + 1) = kidsTo ns at_ k ++ [(k : Int)] := fun e => kidsTo_yes e
        have hno : ¬ (ns.getD k nd0).1 = at_ → kidsTo ns at_ (k + 1) = kidsTo ns at_ k := fun e => kidsTo_no e
        have hll := kidsTo_len ns at_ k
        generalize ns.getD k nd0 = nd at c0 c1 c2 c3 c4 hyes hno
        obtain ⟨x0, x1, x2, x3, x4⟩ := nd
        dsimp only at c0 c1 c2 c3 c4 hyes hno
        generalize kidsTo ns at_ k = ks at hyes hno hll hO
        obtain ⟨Wa, hWa⟩ : ∃ Wa, wr.alloc (.cells #[.int .i64 x0, .int .i64 x1, .int .i64 x2, .int .i64 x3, .int .i64 x4] 34) = Wa := ⟨_, rfl⟩
        have K0 : Blk Wa wr.heap.size 34 #[.int .i64 x0, .int .i64 x1, .int .i64 x2, .int .i64 x3, .int .i64 x4] := by rw [← hWa]; exact Blk.new _ _ _
        have kb0 := K0.cell 0
        dsimp at kb0
        have hOa : OwnI Wa w.heap.size u5 ks := by rw [← hWa]; exact World.ownsRow.alloc hO _
        have hBa : Below w.heap.size w Wa := by rw [← hWa]; exact hB.alloc hsz _
        have hsa := hBa.size
        clear hO hB K0
        by_cases hp : x0 = at_
        · have HY := Lib.hid (hyes hp)
          subst hp
          clear hyes hno
          go_wp2_with (first | (at_builtin; refine wpList_append_own _ rfl (.tmp 29) (.tmp 31) _ rfl w.heap.size 3 i0 (.int .i64 0) 1 8 Try.underlying27 hi0 hz0 hz1 hz2 rfl (by decide) _ _ _ rfl (hOa.alloc _) ⟨Wa.heap.size, 0, none⟩ 1 1 [.int .i64 (k : Int)] rfl rfl (cell_one_new _ _ _) (fun x hx => by simp at hx; subst hx; rfl) (by unfold maxLen; omega) (by omega) (by simp; omega) ?_; intro v3 w3 hown3 hgrow3 hnil3))
          have HR : Hid (OwnI w3 w.heap.size v3 (kidsTo ns x0 (k + 1)) ∧ Below w.heap.size w w3) := ⟨by rw [HY.out]; exact OwnI.snoc hown3, (hBa.alloc hsa _).grown hgrow3 (by simp; omega) hOa.grow⟩
          clear hOa hown3 hgrow3 hnil3 hBa hWa kb0
          go_roundw
          case rel => exact ⟨k + 1, by omega, by go_num, HR.out.1, HR.out.2⟩
          case measure => simp [intOf]; omega
        · have HY := Lib.hid (hno hp)
          have eb : (x0 == at_) = false := by simpa using hp
          have HO := Lib.hid hOa
          have HB := Lib.hid hBa
          clear hyes hno hp hOa hBa
          go_wp2_with fail
          go_roundw
          case rel => exact ⟨k + 1, by omega, by go_num, by rw [HY.out]; exact HO.out, HB.out⟩
          case measure => simp [intOf]; omega
      · have HO := Lib.hid hO
        have HB := Lib.hid hB
        clear hO hB
        go_wp2_with fail
        go_ret
        exact ⟨_, rfl, by rw [show k = ns.length from by omega] at HO; exact HO.out, HB.out⟩
end Go.Proofs.Ytlpmeljneogpiab
