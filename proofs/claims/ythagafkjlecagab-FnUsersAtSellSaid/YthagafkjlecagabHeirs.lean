/- Heirs: which there can be, by impl and spec. Condition: at most 1048576 numbers. -/
import Derived.Test.YthagafkjlecagabMove
import Derived.Test.YthagafkjlecagabGrA
namespace Go.Proofs.Ythagafkjlecagab
open Go.RowKit

def okH (zs : List Int) (owner : Int) (k : Nat) : Bool := decide (1 ≤ zs.getD k 0) && decide (zs.getD k 0 ≤ 999) && decide (zs.getD k 0 ≠ owner) && decide (zs.getD k 0 ∉ zs.take k)
/-- heirs that there can be -/
def heirsB (zs : List Int) (owner : Int) : Bool := decide (1 ≤ zs.length) && decide (zs.length ≤ 12) && (List.range zs.length).all (okH zs owner)
theorem okH_def (zs : List Int) (owner : Int) (k : Nat) : okH zs owner k = (decide (1 ≤ zs.getD k 0) && decide (zs.getD k 0 ≤ 999) && decide (zs.getD k 0 ≠ owner) && decide (zs.getD k 0 ∉ zs.take k)) := rfl
theorem heirs_no1 {zs : List Int} {owner : Int} (h : zs.length < 1 ∨ 12 < zs.length) : heirsB zs owner = false := by
  unfold heirsB
  rcases h with h | h
  · rw [decide_eq_false (by omega : ¬ 1 ≤ zs.length)]; rfl
  · rw [decide_eq_false (by omega : ¬ zs.length ≤ 12)]; simp
theorem heirs_no2 {zs : List Int} {owner : Int} {k : Nat} (hk : k < zs.length) (h : okH zs owner k = false) : heirsB zs owner = false := by
  unfold heirsB; rw [rng_no hk h]; simp
theorem heirs_yes {zs : List Int} {owner : Int} (h1 : 1 ≤ zs.length) (h2 : zs.length ≤ 12) (h : ∀ j, j < zs.length → okH zs owner j = true) : heirsB zs owner = true := by
  unfold heirsB; rw [decide_eq_true h1, decide_eq_true h2, rng_yes h]; rfl
theorem ints_take {w : World} {a : Option Addr} {zs : List Int} (h : IsInts w a zs) (k : Nat) : IsInts w a (zs.take k) := by
  rcases h with rfl | ⟨g, o, ha, hc⟩
  · exact .inl (by simp)
  · refine .inr ⟨g, o, ha, fun i hi => ?_⟩
    rw [List.length_take] at hi
    have e : (zs.take k).getD i 0 = zs.getD i 0 := by rw [List.getD_eq_getElem?_getD, List.getD_eq_getElem?_getD, List.getElem?_take_of_lt (by omega)]
    rw [e]; exact hc i (by omega)
theorem mem_get {zs : List Int} {n : Int} : n ∈ zs ↔ ∃ j, j < zs.length ∧ zs.getD j 0 = n := by
  constructor
  · intro h
    obtain ⟨i, hi, e⟩ := List.getElem_of_mem h
    exact ⟨i, hi, by rw [List.getD_eq_getElem?_getD, List.getElem?_eq_getElem hi]; exact e⟩
  · rintro ⟨j, hj, e⟩
    rw [← e]; exact getD_mem hj

set_option maxHeartbeats 1000000 in
theorem ihas (a : Option Addr) (cap m : Nat) (zs : List Int) (n : Int) (w : World) (h : IsInts w a zs) (hl : zs.length = m) (hn : m ≤ 1048576) :
    Calls Try.prog 113 #[.slice a m cap, .int .i64 n] w fun e w' => e = .returned (.bool (decide (n ∈ zs))) ∧ w = w' := by
  subst hl
  rcases h with rfl | ⟨g, o, rfl, hc⟩
  · go_enter Try.func113, Try.ntmps113
    go_wp2
    go_rounds 1
    go_ret
    exact ⟨rfl, rfl⟩
  · have HC := Lib.hid hc
    clear hc
    go_enter Try.func113, Try.ntmps113
    go_wp2
    go_loop [9] (fun i => ∃ k : Nat, k ≤ zs.length ∧ i = .int .i64 k ∧ Hid (∀ j, j < k → zs.getD j 0 ≠ n)) (fun i => zs.length - (intOf i).toNat)
    case atStart => exact ⟨0, Nat.zero_le _, rfl, fun j hj => by omega⟩
    case round =>
      obtain ⟨k, hk, rfl, HK⟩ := hrel
      by_cases hlt : k < zs.length
      · have hc := HC.out k hlt
        have hy : zs.getD k 0 ≠ n → ∀ j, j < k + 1 → zs.getD j 0 ≠ n := fun e j hj => by
          by_cases ej : j = k
          · subst ej; exact e
          · exact HK.out j (by omega)
        have hm : zs.getD k 0 = n → decide (n ∈ zs) = true := fun e => decide_eq_true (mem_get.2 ⟨k, hlt, e⟩)
        generalize zs.getD k 0 = z at hc hy hm
        have HY := Lib.hid hy
        have HM := Lib.hid hm
        clear hy hm
        by_cases e : z = n
        · have eb : (z == n) = true := by simpa using e
          have HMM := Lib.hid (HM.out e)
          clear e
          go_wp2_with fail
          go_ret
          exact ⟨ret_bool HMM.out.symm, rfl⟩
        · have eb : (z == n) = false := by simpa using e
          go_wp2_with fail
          go_round
          case rel => exact ⟨k + 1, by omega, by go_num, HY.out e⟩
          case measure => simp [intOf]; omega
      · have HN : Hid (decide (n ∈ zs) = false) := by
          show _ = _
          rw [decide_eq_false_iff_not, mem_get]
          rintro ⟨j, hj, e⟩
          exact HK.out j (by omega) e
        go_wp2_with fail
        go_ret
        exact ⟨ret_bool HN.out.symm, rfl⟩
/-- what spec.placeIn leaves: a number of at least 0 where the number is in the list -/
def PlaceV (zs : List Int) (n : Int) (w : World) (e : Ending) (w' : World) : Prop := ∃ v : Int, e = .returned (.int .i64 v) ∧ (n ∈ zs → 0 ≤ v) ∧ (n ∉ zs → v = -1) ∧ w = w'
set_option maxHeartbeats 1000000 in
theorem splace (a : Option Addr) (cap m : Nat) (zs : List Int) (n : Int) (w : World) (h : IsInts w a zs) (hl : zs.length = m) (hn : m ≤ 1048576) :
    Calls Try.prog 108 #[.slice a m cap, .int .i64 n] w (PlaceV zs n w) := by
  subst hl
  rcases h with rfl | ⟨g, o, rfl, hc⟩
  · go_enter Try.func108, Try.ntmps108
    go_wp2
    go_rounds 1
    go_ret
    exact ⟨-1, rfl, (fun c => by simp at c), (fun _ => rfl), rfl⟩
  · have HC := Lib.hid hc
    clear hc
    go_enter Try.func108, Try.ntmps108
    go_wp2
    go_loop [5] (fun i => ∃ k : Nat, k ≤ zs.length ∧ i = .int .i64 k ∧ Hid (∀ j, j < k → zs.getD j 0 ≠ n)) (fun i => zs.length - (intOf i).toNat)
    case atStart => exact ⟨0, Nat.zero_le _, rfl, fun j hj => by omega⟩
    case round =>
      obtain ⟨k, hk, rfl, HK⟩ := hrel
      by_cases hlt : k < zs.length
      · have hc := HC.out k hlt
        have hy : zs.getD k 0 ≠ n → ∀ j, j < k + 1 → zs.getD j 0 ≠ n := fun e j hj => by
          by_cases ej : j = k
          · subst ej; exact e
          · exact HK.out j (by omega)
        have hm : zs.getD k 0 = n → n ∈ zs := fun e => mem_get.2 ⟨k, hlt, e⟩
        generalize zs.getD k 0 = z at hc hy hm
        have HY := Lib.hid hy
        have HM := Lib.hid hm
        clear hy hm
        by_cases e : z = n
        · have eb : (z == n) = true := by simpa using e
          have HMM := Lib.hid (HM.out e)
          clear e
          go_wp2_with fail
          go_ret
          exact ⟨(k : Int), rfl, (fun _ => by omega), (fun c => absurd HMM.out c), rfl⟩
        · have eb : (z == n) = false := by simpa using e
          go_wp2_with fail
          go_round
          case rel => exact ⟨k + 1, by omega, by go_num, HY.out e⟩
          case measure => simp [intOf]; omega
      · have HN : Hid (n ∉ zs) := by
          show _ ∉ _
          rw [mem_get]
          rintro ⟨j, hj, e⟩
          exact HK.out j (by omega) e
        go_wp2_with fail
        go_ret
        exact ⟨-1, rfl, (fun c => absurd c HN.out), (fun _ => rfl), rfl⟩

set_option maxHeartbeats 2000000 in
theorem iheirs (a : Option Addr) (cap : Nat) (zs : List Int) (owner : Int) (w : World) (h : IsInts w a zs) (hn : zs.length ≤ 1048576) (hc : zs.length ≤ cap) :
    Calls Try.prog 110 #[.slice a zs.length cap, .int .i64 owner] w fun e w' => e = .returned (.bool (heirsB zs owner)) ∧ w = w' := by
  by_cases hlen : zs.length < 1 ∨ 12 < zs.length
  · have HN := Lib.hid (heirs_no1 (owner := owner) hlen)
    by_cases h1 : zs.length < 1
    · clear hlen
      go_enter Try.func110, Try.ntmps110
      go_wp2_with fail
      go_ret
      exact ⟨ret_bool HN.out.symm, rfl⟩
    · have h2 : 12 < zs.length := by omega
      clear hlen
      go_enter Try.func110, Try.ntmps110
      go_wp2_with fail
      go_ret
      exact ⟨ret_bool HN.out.symm, rfl⟩
  · have h1 : 1 ≤ zs.length := by omega
    have h2 : zs.length ≤ 12 := by omega
    have g1 : decide ((zs.length : Int) < 1) = false := by simp; omega
    have g2 : decide (12 < (zs.length : Int)) = false := by simp; omega
    have HI := Lib.hid h
    rcases h with rfl | ⟨g, o, rfl, hcc⟩
    · simp at h1
    · have HC := Lib.hid hcc
      clear hcc hlen
      go_enter Try.func110, Try.ntmps110
      go_wp2_with fail
      go_loop [17] (fun i => ∃ k : Nat, k ≤ zs.length ∧ i = .int .i64 k ∧ Hid (∀ j, j < k → okH zs owner j = true)) (fun i => zs.length - (intOf i).toNat)
      case atStart => exact ⟨0, Nat.zero_le _, rfl, fun j hj => by omega⟩
      case round =>
        obtain ⟨k, hk, rfl, HK⟩ := hrel
        by_cases hlt : k < zs.length
        · have hcell := HC.out k hlt
          have hok := okH_def zs owner k
          have hha := fun n (W : World) (hW : IsInts W (some ⟨g, o, none⟩) (zs.take k)) => ihas (some ⟨g, o, none⟩) cap k (zs.take k) n W hW (by rw [List.length_take]; omega) (by omega)
          have HT := Lib.hid (ints_take HI.out k)
          generalize zs.getD k 0 = z at hcell hok
          have HO := Lib.hid hok
          have HH := Lib.hid hha
          clear hok hha
          have hno : okH zs owner k = false → heirsB zs owner = false := fun e => heirs_no2 hlt e
          have HNO := Lib.hid hno
          clear hno
          by_cases hr : z < 1 ∨ 999 < z
          · have HN : Hid (heirsB zs owner = false) := HNO.out (by rw [HO.out]; simp; omega)
            go_wp2_with fail
            refine (iowner_no z _ hr).mono ?_
            rintro e w' ⟨rfl, rfl⟩
            go_wp2_with fail
            go_ret
            exact ⟨ret_bool HN.out.symm, rfl⟩
          · have r1 : 1 ≤ z := by omega
            have r2 : z ≤ 999 := by omega
            clear hr
            by_cases ho : z = owner
            · have HN : Hid (heirsB zs owner = false) := HNO.out (by rw [HO.out]; simp [ho])
              have eb : (z == owner) = true := by simpa using ho
              clear ho
              go_wp2_with fail
              refine (iowner_yes z _ r1 r2).mono ?_
              rintro e w' ⟨rfl, rfl⟩
              go_wp2_with fail
              go_ret
              exact ⟨ret_bool HN.out.symm, rfl⟩
            · have eb : (z == owner) = false := by simpa using ho
              have HOw := Lib.hid ho
              clear ho
              go_wp2_with fail
              refine (iowner_yes z _ r1 r2).mono ?_
              rintro e w' ⟨rfl, rfl⟩
              go_wp2_with fail
              refine (HH.out z _ HT.out).mono ?_
              rintro e w' ⟨rfl, rfl⟩
              by_cases hm : z ∈ zs.take k
              · have HN : Hid (heirsB zs owner = false) := HNO.out (by rw [HO.out]; simp [hm])
                rw [decide_eq_true hm]
                clear hm
                go_wp2_with fail
                go_ret
                exact ⟨ret_bool HN.out.symm, rfl⟩
              · have HY : Hid (∀ j, j < k + 1 → okH zs owner j = true) := rng_more HK.out (by rw [HO.out, decide_eq_true r1, decide_eq_true r2, decide_eq_true HOw.out, decide_eq_true hm]; rfl)
                rw [decide_eq_false hm]
                clear hm
                go_wp2_with fail
                go_round
                case rel => exact ⟨k + 1, by omega, by go_num, HY.out⟩
                case measure => simp [intOf]; omega
        · have HN : Hid (heirsB zs owner = true) := heirs_yes h1 h2 (fun j hj => HK.out j (by omega))
          go_wp2_with fail
          go_ret
          exact ⟨ret_bool HN.out.symm, rfl⟩
end Go.Proofs.Ythagafkjlecagab
