/- Leases that are valid, by the model, for all ledgers and leases. Condition: at most 1048576 holdings and leases. -/
import Derived.Test.YthagafkjlecagabLzs
import Derived.Test.YthagafkjlecagabHoldW
namespace Go.Proofs.Ythagafkjlecagab
open Go.RowKit
set_option linter.unusedSimpArgs false
set_option linter.unusedVariables false
theorem lv_lz {hs : List Hd} (ls : List Lr) (h : vlR hs = true) : lzB hs ls = lvB hs ls := by
  unfold lzB lvB
  rw [h]
  cases decide (ls.length ≤ 10) <;> cases termsB ls <;> cases (List.range ls.length).all (lzK hs ls) <;> rfl
set_option maxRecDepth 100000 in
set_option maxHeartbeats 4000000 in
theorem svLzA (a A : Option Addr) (cap capz : Nat) (hs : List Hd) (ls : List Lr) (w : World) (h : IsHs w a hs) (hn : hs.length ≤ 1048576) (hz : IsLs w A ls) (hzn : ls.length ≤ 1048576) (hv : vlR hs = true) :
    Calls Try.prog 37 #[.slice a hs.length cap, .slice A ls.length capz] w fun e w' => e = .returned (.bool (lvB hs ls)) ∧ Below w.heap.size w w' := by
  rcases hz with rfl | ⟨g, u, rfl, hc⟩
  · have HV : Hid (lvB hs [] = true) := rfl
    clear h hv
    go_enter Try.func37, Try.ntmps37
    go_wp2_with fail
    go_rounds 1
    go_rounds 1
    go_ret
    exact ⟨ret_bool HV.out.symm, by go_grown⟩
  · exact svLz a cap hs g u capz ls w h hn hc hzn hv
set_option maxRecDepth 100000 in
set_option maxHeartbeats 4000000 in
/-- spec.ValidLeases -/
theorem sLeases (a A : Option Addr) (cap capz : Nat) (hs : List Hd) (ls : List Lr) (w : World) (h : IsHs w a hs) (hn : hs.length ≤ 1048576) (hz : IsLs w A ls) (hzn : ls.length ≤ 1048576) :
    Calls Try.prog 22 #[.slice a hs.length cap, .slice A ls.length capz] w fun e w' => e = .returned (.bool (lzB hs ls)) ∧ Below w.heap.size w w' := by
  have CV := svl a cap hs w h hn
  cases hv : vlR hs with
  | false =>
    have HN : Hid (lzB hs ls = false) := lz_no (.inl hv)
    rw [hv] at CV
    clear hv h hz
    go_enter Try.func22, Try.ntmps22
    go_wp2_with fail
    refine CV.mono ?_
    rintro e w1 ⟨rfl, hb⟩
    go_wp2_with fail
    go_ret
    exact ⟨ret_bool HN.out.symm, hb⟩
  | true =>
    have HL : Hid (∀ W, Below w.heap.size w W → Calls Try.prog 37 #[.slice a hs.length cap, .slice A ls.length capz] W fun e w' => e = .returned (.bool (lzB hs ls)) ∧ Below W.heap.size W w') := fun W hW => by
      rw [lv_lz ls hv]; exact svLzA a A cap capz hs ls W (hs_below h hW) hn (ls_below hz hW) hzn hv
    rw [hv] at CV
    clear hv h hz
    go_enter Try.func22, Try.ntmps22
    go_wp2_with fail
    refine CV.mono ?_
    rintro e w1 ⟨rfl, hb⟩
    go_wp2_with fail
    refine (HL.out _ hb).mono ?_
    rintro e w2 ⟨rfl, hb2⟩
    have HB := Lib.hid (bel_tr hb hb2)
    clear hb hb2
    go_wp2_with fail
    go_ret
    exact ⟨rfl, HB.out⟩
end Go.Proofs.Ythagafkjlecagab
