/- Leases that are read: terms of each alone. Condition: at most 1048576 leases. -/
import Derived.Test.YthagafkjlecagabSellI
namespace Go.Proofs.Ythagafkjlecagab
open Go.RowKit
set_option linter.unusedSimpArgs false

/-- a lease as its numbers -/
structure Lr where
  ow : Int
  te : Int
  n : Int
  d : Int
  fr : Int
  en : Int
def lr0 : Lr := ⟨0, 0, 0, 0, 0, 0⟩
/-- leases ls, read through a slice at address a -/
def IsLs (w : World) (a : Option Addr) (ls : List Lr) : Prop := ls = [] ∨ ∃ g o, a = some ⟨g, o, none⟩ ∧ ∀ i, i < ls.length → w.cell? ⟨g, o + i * 6, none⟩ = some (.int .i64 (ls.getD i lr0).ow) ∧ w.cell? ⟨g, o + i * 6 + 1, none⟩ = some (.int .i64 (ls.getD i lr0).te) ∧ w.cell? ⟨g, o + i * 6 + 2, none⟩ = some (.int .i64 (ls.getD i lr0).n) ∧ w.cell? ⟨g, o + i * 6 + 3, none⟩ = some (.int .i64 (ls.getD i lr0).d) ∧ w.cell? ⟨g, o + i * 6 + 4, none⟩ = some (.int .i64 (ls.getD i lr0).fr) ∧ w.cell? ⟨g, o + i * 6 + 5, none⟩ = some (.int .i64 (ls.getD i lr0).en)
theorem ls_below {w w' : World} {a : Option Addr} {ls : List Lr} (h : IsLs w a ls) (hB : Below w.heap.size w w') : IsLs w' a ls := by
  rcases h with h | ⟨g, o, ha, hc⟩
  · exact .inl h
  · refine .inr ⟨g, o, ha, fun i hi => ?_⟩
    obtain ⟨c0, c1, c2, c3, c4, c5⟩ := hc i hi
    have k : ∀ p v, w.cell? ⟨g, p, none⟩ = some v → w'.cell? ⟨g, p, none⟩ = some v := fun p v c => (hB.cell (p := ⟨g, p, none⟩) (World.block_lt_of_cell? w _ c)).trans c
    exact ⟨k _ _ c0, k _ _ c1, k _ _ c2, k _ _ c3, k _ _ c4, k _ _ c5⟩
/-- one lease alone is one that can be -/
def termB (l : Lr) : Bool := decide (1 ≤ l.te) && decide (l.te ≤ 999) && decide (l.te ≠ l.ow) && Wsh.vfB l.n l.d && decide (0 < l.n) && decide (0 ≤ l.fr) && decide (l.fr < l.en) && decide (l.en ≤ 5000)
def termsB (ls : List Lr) : Bool := (List.range ls.length).all fun k => termB (ls.getD k lr0)
theorem term_iff (l : Lr) : termB l = true ↔ 1 ≤ l.te ∧ l.te ≤ 999 ∧ l.te ≠ l.ow ∧ Wsh.vfB l.n l.d = true ∧ 0 < l.n ∧ 0 ≤ l.fr ∧ l.fr < l.en ∧ l.en ≤ 5000 := by unfold termB; simp only [Bool.and_eq_true, decide_eq_true_eq, and_assoc]
theorem term_no {l : Lr} (h : ¬ (1 ≤ l.te ∧ l.te ≤ 999 ∧ l.te ≠ l.ow ∧ Wsh.vfB l.n l.d = true ∧ 0 < l.n ∧ 0 ≤ l.fr ∧ l.fr < l.en ∧ l.en ≤ 5000)) : termB l = false := by
  cases e : termB l with
  | false => rfl
  | true => exact absurd ((term_iff l).1 e) h
/-- whether a lease runs at t -/
def atB (l : Lr) (t : Int) : Bool := decide (l.fr ≤ t) && decide (t < l.en)
theorem iruns (l : Lr) (t : Int) (w : World) :
    Calls Try.prog 43 #[.agg #[.int .i64 l.ow, .int .i64 l.te, .int .i64 l.n, .int .i64 l.d, .int .i64 l.fr, .int .i64 l.en], .int .i64 t] w fun e w' => e = .returned (.bool (atB l t)) ∧ Below w.heap.size w w' := by
  obtain ⟨ow, te, n, d, fr, en⟩ := l
  unfold atB
  dsimp only
  by_cases h1 : fr ≤ t
  · have e1 : decide (fr ≤ t) = true := decide_eq_true h1
    clear h1
    go_enter Try.func43, Try.ntmps43
    go_wp2
    go_ret
    exact ⟨ret_bool (by rw [e1]; rfl), by go_grown⟩
  · have e1 : decide (fr ≤ t) = false := decide_eq_false h1
    clear h1
    go_enter Try.func43, Try.ntmps43
    go_wp2
    go_ret
    exact ⟨ret_bool (by rw [e1]; rfl), by go_grown⟩

set_option maxHeartbeats 2000000 in
/-- impl.allTerms -/
theorem iterms (a : Option Addr) (cap : Nat) (ls : List Lr) (w : World) (h : IsLs w a ls) (hn : ls.length ≤ 1048576) :
    Calls Try.prog 50 #[.slice a ls.length cap] w fun e w' => e = .returned (.bool (termsB ls)) ∧ Below w.heap.size w w' := by
  rcases h with rfl | ⟨g, o, rfl, hc⟩
  · go_enter Try.func50, Try.ntmps50
    go_wp2
    go_rounds 1
    go_ret
    exact ⟨rfl, by go_grown⟩
  · have HC := Lib.hid hc
    clear hc
    go_enter Try.func50, Try.ntmps50
    go_wp2
    go_loopw [7] (fun i wr => ∃ k : Nat, k ≤ ls.length ∧ i = .int .i64 k ∧ Hid (∀ j, j < k → termB (ls.getD j lr0) = true) ∧ Below w.heap.size w wr) (fun i _ => ls.length - (intOf i).toNat)
    case atStart => exact ⟨0, Nat.zero_le _, rfl, fun j hj => by omega, by go_grown⟩
    case round =>
      obtain ⟨k, hk, rfl, HA, hB⟩ := hrel
      by_cases hlt : k < ls.length
      · obtain ⟨d0, d1, d2, d3, d4, d5⟩ := HC.out k hlt
        have kp : ∀ p v, w.cell? ⟨g, p, none⟩ = some v → wr.cell? ⟨g, p, none⟩ = some v := fun p v c => (hB.cell (p := ⟨g, p, none⟩) (World.block_lt_of_cell? w _ c)).trans c
        have c0 := kp _ _ d0
        have c1 := kp _ _ d1
        have c2 := kp _ _ d2
        have c3 := kp _ _ d3
        have c4 := kp _ _ d4
        have c5 := kp _ _ d5
        have hno : termB (ls.getD k lr0) = false → termsB ls = false := fun e => rng_no hlt e
        have hyes : termB (ls.getD k lr0) = true → ∀ j, j < k + 1 → termB (ls.getD j lr0) = true := fun e => rng_more HA.out e
        clear d0 d1 d2 d3 d4 d5 kp
        generalize ls.getD k lr0 = l at c0 c1 c2 c3 c4 c5 hno hyes
        obtain ⟨ow, te, n, d, fr, en⟩ := l
        have hno2 := fun e => hno (term_no e)
        have hyes2 := fun e => hyes ((term_iff _).2 e)
        dsimp only at c0 c1 c2 c3 c4 c5 hno2 hyes2
        have HNO := Lib.hid hno2
        have HYES := Lib.hid hyes2
        have HB := Lib.hid hB
        have hBa : Below w.heap.size w (wr.alloc (.cells #[.int .i64 ow, .int .i64 te, .int .i64 n, .int .i64 d, .int .i64 fr, .int .i64 en] 48)) := hB.alloc hB.size _
        have HBA := Lib.hid hBa
        clear hno hyes hno2 hyes2 hB hBa
        by_cases h1 : te < 1 ∨ 999 < te
        · have HN : Hid (termsB ls = false) := HNO.out (fun c => by omega)
          go_wp2_with fail
          refine (iowner_no te _ h1).mono ?_
          rintro e w' ⟨rfl, rfl⟩
          clear h1
          go_wp2_with fail
          go_ret
          exact ⟨ret_bool HN.out.symm, HBA.out⟩
        · have r1 : 1 ≤ te := by omega
          have r2 : te ≤ 999 := by omega
          clear h1
          by_cases h2 : te = ow
          · have HN : Hid (termsB ls = false) := HNO.out (fun c => c.2.2.1 h2)
            have e2 : (te == ow) = true := by simpa using h2
            clear h2
            go_wp2_with fail
            refine (iowner_yes te _ r1 r2).mono ?_
            rintro e w' ⟨rfl, rfl⟩
            go_wp2_with fail
            go_ret
            exact ⟨ret_bool HN.out.symm, HBA.out⟩
          · have e2 : (te == ow) = false := by simpa using h2
            have HE : Hid (te ≠ ow) := h2
            clear h2
            by_cases h3 : Wsh.vfB n d = false ∨ n ≤ 0
            · have HN : Hid (termsB ls = false) := HNO.out (fun c => by rcases h3 with h | h; exact absurd c.2.2.2.1 (by rw [h]; decide); omega)
              have H3 := Lib.hid h3
              clear h3
              go_wp2_with fail
              refine (iowner_yes te _ r1 r2).mono ?_
              rintro e w' ⟨rfl, rfl⟩
              go_wp2_with fail
              refine (ipart_no n d _ H3.out).mono ?_
              rintro e w2 ⟨rfl, hb⟩
              go_wp2_with fail
              go_ret
              exact ⟨ret_bool HN.out.symm, bel_tr HBA.out hb⟩
            · have hv : Wsh.vfB n d = true := by cases e : Wsh.vfB n d with | true => rfl | false => exact absurd (.inl e) h3
              have hn0 : 0 < n := by omega
              have IP := fun W => ipart_yes n d W hv hn0
              have HV := Lib.hid hv
              clear h3 hv
              have K0 := Blk.new wr 48 #[.int .i64 ow, .int .i64 te, .int .i64 n, .int .i64 d, .int .i64 fr, .int .i64 en]
              by_cases h4 : fr < 0 ∨ en ≤ fr ∨ 5000 < en
              · have HN : Hid (termsB ls = false) := HNO.out (fun c => by omega)
                go_wp2_with fail
                refine (iowner_yes te _ r1 r2).mono ?_
                rintro e w' ⟨rfl, rfl⟩
                go_wp2_with fail
                refine (IP _).mono ?_
                rintro e w2 ⟨rfl, hb⟩
                have K1 := K0.next hb
                have f4 := K1.cell 4
                have f5 := K1.cell 5
                dsimp at f4 f5
                have hB2 := bel_tr HBA.out hb
                clear K0 K1 hb IP
                by_cases h5 : fr < 0
                · have e5 : decide (fr < 0) = true := decide_eq_true h5
                  clear h4 h5
                  go_wp2_with fail
                  go_ret
                  exact ⟨ret_bool HN.out.symm, hB2⟩
                · have e5 : decide (fr < 0) = false := decide_eq_false h5
                  by_cases h6 : en ≤ fr
                  · have e6 : decide (en ≤ fr) = true := decide_eq_true h6
                    clear h4 h5 h6
                    go_wp2_with fail
                    go_ret
                    exact ⟨ret_bool HN.out.symm, hB2⟩
                  · have e6 : decide (en ≤ fr) = false := decide_eq_false h6
                    have e7 : decide (5000 < en) = true := decide_eq_true (by omega)
                    clear h4 h5 h6
                    go_wp2_with fail
                    go_ret
                    exact ⟨ret_bool HN.out.symm, hB2⟩
              · have e5 : decide (fr < 0) = false := decide_eq_false (by omega)
                have e6 : decide (en ≤ fr) = false := decide_eq_false (by omega)
                have e7 : decide (5000 < en) = false := decide_eq_false (by omega)
                have HY : Hid (∀ j, j < k + 1 → termB (ls.getD j lr0) = true) := HYES.out ⟨r1, r2, HE.out, HV.out, hn0, by omega, by omega, by omega⟩
                clear h4
                go_wp2_with fail
                refine (iowner_yes te _ r1 r2).mono ?_
                rintro e w' ⟨rfl, rfl⟩
                go_wp2_with fail
                refine (IP _).mono ?_
                rintro e w2 ⟨rfl, hb⟩
                have K1 := K0.next hb
                have f4 := K1.cell 4
                have f5 := K1.cell 5
                dsimp at f4 f5
                have hB2 := bel_tr HBA.out hb
                clear K0 K1 hb IP
                go_wp2_with fail
                go_roundw
                case rel => exact ⟨k + 1, by omega, by go_num, HY.out, hB2⟩
                case measure => simp [intOf]; omega
      · go_wp2_with fail
        go_ret
        exact ⟨ret_bool (rng_yes (fun j hj => HA.out j (by omega))).symm, hB⟩
end Go.Proofs.Ythagafkjlecagab
