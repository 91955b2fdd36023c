/- The exact laws' sizes, copies and comparisons of lists of lists of numbers. Conditions: those stated. -/
import Derived.Test.YtclpbbhhaclgbaaOpenSS
import Derived.Test.YtclpbbhhaclgbaaOwnInts
import Derived.Deep.RegionHeld3
namespace Go.Proofs.Ytclpbbhhaclgbaa
open Go.RowKit
set_option linter.unusedSimpArgs false
set_option linter.unusedVariables false
theorem infoRowL : (Try.prog.info? 27).map (fun i => (i.zero, i.size, i.bytes)) = some (some (.slice none 0 0), 1, 24) := by kernel_rfl
theorem rows_nth {w : World} {a : Option Addr} {rs : List (List Int)} (h : IsRows w a rs) {k : Nat} (hk : k < rs.length) : ∃ g o A cap, a = some ⟨g, o, none⟩ ∧ w.cell? ⟨g, o + k, none⟩ = some (.slice A (rs.getD k []).length cap) ∧ (rs.getD k []).length ≤ cap ∧ IsInts w A (rs.getD k []) := by
  rcases h with rfl | ⟨g, o, rfl, hc⟩
  · simp at hk
  · obtain ⟨A, cap, a, b, c⟩ := hc k hk
    exact ⟨g, o, A, cap, rfl, a, b, c⟩
theorem ret_z {z y : Int} (h : z = y) : Ending.returned (.int .i64 z) = Ending.returned (.int .i64 y) := by rw [h]
theorem szL_at {rs : List (List Int)} {k : Nat} (hk : k < rs.length) (L : Int) : szL L (rs.drop k) = if L - ((rs.getD k []).length : Int) < 0 then -1 else szL (L - ((rs.getD k []).length : Int)) (rs.drop (k + 1)) := by
  rw [List.drop_eq_getElem_cons hk]
  rw [List.getD_eq_getElem?_getD, List.getElem?_eq_getElem hk]; rfl
theorem lszI (A : Option Addr) (n cap : Nat) (L : Int) (w : World) (h0 : 0 ≤ L) (h1 : L ≤ 1048576) (hn : n ≤ 9223372036854775807) :
    Calls Try.prog 42 #[.slice A n cap, .int .i64 L] w fun e w' => e = .returned (.int .i64 (if L - (n : Int) < 0 then -1 else L - (n : Int))) ∧ w = w' := by
  have wz : IntKind.i64.wrap (L - (n : Int)) = L - (n : Int) := by rw [IntKind.wrap_i64]; omega
  by_cases c : L - (n : Int) < 0
  · have e0 : decide (L - (n : Int) < 0) = true := decide_eq_true c
    rw [if_pos c]
    clear c
    go_enter Try.func42, Try.ntmps42
    go_wp2_with fail
    go_ret
    exact ⟨rfl, rfl⟩
  · have e0 : decide (L - (n : Int) < 0) = false := decide_eq_false c
    rw [if_neg c]
    clear c
    go_enter Try.func42, Try.ntmps42
    go_wp2_with fail
    go_ret
    exact ⟨rfl, rfl⟩
set_option maxHeartbeats 2000000 in
theorem lszSS (a : Option Addr) (cap : Nat) (rs : List (List Int)) (left : Int) (w : World) (h : IsRows w a rs) (h0 : 0 ≤ left) (h1 : left ≤ 1048576) (hn : rs.length ≤ 9223372036854775807) (hr : ∀ r ∈ rs, r.length ≤ 9223372036854775807) :
    Calls Try.prog 11 #[.slice a rs.length cap, .int .i64 left] w fun e w' => e = .returned (.int .i64 (szSS left rs)) ∧ w = w' := by
  have wz : IntKind.i64.wrap (left - (rs.length : Int)) = left - (rs.length : Int) := by rw [IntKind.wrap_i64]; omega
  by_cases c : left - (rs.length : Int) < 0
  · have e0 : decide (left - (rs.length : Int) < 0) = true := decide_eq_true c
    have H : Hid (szSS left rs = -1) := by show szSS left rs = -1; unfold szSS; rw [if_pos c]
    clear c h hr
    go_enter Try.func11, Try.ntmps11
    go_wp2_with fail
    go_ret
    exact ⟨ret_z H.out.symm, rfl⟩
  · have e0 : decide (left - (rs.length : Int) < 0) = false := decide_eq_false c
    have H : Hid (szSS left rs = szL (left - (rs.length : Int)) rs) := by show szSS left rs = _; unfold szSS; rw [if_neg c]
    have b0 : 0 ≤ left - (rs.length : Int) := by omega
    have b1 : left - (rs.length : Int) ≤ 1048576 := by omega
    have HC := Lib.hid h
    have HR := Lib.hid hr
    clear c h hr
    go_enter Try.func11, Try.ntmps11
    go_wp2_with fail
    clear wz e0
    generalize left - (rs.length : Int) = L0 at *
    go_loopw [1, 5] (fun l i wr => ∃ (k : Nat) (L : Int), k ≤ rs.length ∧ i = .int .i64 k ∧ l = .int .i64 L ∧ 0 ≤ L ∧ L ≤ 1048576 ∧ Hid (szL L (rs.drop k) = szL L0 rs) ∧ wr = w) (fun _ i _ => rs.length - (intOf i).toNat)
    case atStart => exact ⟨0, L0, Nat.zero_le _, rfl, rfl, b0, b1, (by show szL L0 (rs.drop 0) = _; rfl), rfl⟩
    case round =>
      clear b0 b1
      obtain ⟨k, L, hk, rfl, rfl, b0, b1, HS, rfl⟩ := hrel
      by_cases hlt : k < rs.length
      · obtain ⟨g, o, A, cp, rfl, c0, hcp, hin⟩ := rows_nth HC.out hlt
        have hl := HR.out _ (rows_mem hlt)
        have ha := szL_at hlt L
        generalize (rs.getD k []).length = m at *
        have CC := lszI A m cp L wr b0 b1 hl
        by_cases c : L - (m : Int) < 0
        · rw [if_pos c] at CC ha
          have HA : Hid (szSS left rs = -1) := by show szSS left rs = -1; rw [H.out, ← HS.out, ha]
          clear ha c hin
          go_wp2_with fail
          refine CC.mono ?_
          rintro e w1 ⟨rfl, rfl⟩
          go_wp2_with fail
          go_ret
          exact ⟨ret_z HA.out.symm, rfl⟩
        · rw [if_neg c] at CC ha
          have HA : Hid (szL (L - (m : Int)) (rs.drop (k + 1)) = szL L0 rs) := by show szL (L - (m : Int)) (rs.drop (k + 1)) = szL L0 rs; rw [← HS.out, ha]
          have q0 : 0 ≤ L - (m : Int) := by omega
          have q1 : L - (m : Int) ≤ 1048576 := by omega
          have e0 : decide (L - (m : Int) < 0) = false := decide_eq_false c
          clear ha c hin HS
          generalize L - (m : Int) = L' at *
          go_wp2_with fail
          refine CC.mono ?_
          rintro e w1 ⟨rfl, rfl⟩
          go_wp2_with fail
          go_roundw
          case rel => exact ⟨k + 1, L', by omega, by go_num, rfl, q0, q1, HA, trivial⟩
          case measure => simp [intOf]; omega
      · obtain rfl : k = rs.length := by omega
        have HA : Hid (szSS left rs = L) := by
          show szSS left rs = L
          rw [H.out, ← HS.out, List.drop_length]; rfl
        go_wp2_with fail
        go_ret
        exact ⟨ret_z HA.out.symm, rfl⟩
/-- block g is a row of lists of the call's own, each in a block of its own -/
def RowSS (w : World) (g : Nat) (G : Nat → Nat) (n : Nat) (rs : List (List Int)) : Prop := (w.rowIs g 27 rs.length fun j => if j < n then .slice (some ⟨G j, 0, none⟩) (rs.getD j []).length (rs.getD j []).length else .slice none 0 0) ∧ (∀ j, j < n → g < G j ∧ Row w (G j) (rs.getD j [])) ∧ ∀ i j, i < j → j < n → G i < G j
theorem RowSS.rows {w : World} {g : Nat} {G : Nat → Nat} {rs : List (List Int)} (h : RowSS w g G rs.length rs) : IsRows w (some ⟨g, 0, none⟩) rs := by
  refine .inr ⟨g, 0, rfl, fun i hi => ⟨some ⟨G i, 0, none⟩, (rs.getD i []).length, ?_, Nat.le_refl _, row_ints (h.2.1 i hi).2⟩⟩
  have := h.1.cell hi
  rw [if_pos hi] at this
  rw [Nat.zero_add]; exact this
/-- what toIntSS leaves -/
def CopiedSS (w : World) (rs : List (List Int)) (e : Ending) (w' : World) : Prop := ∃ (g : Nat) (G : Nat → Nat), e = .returned (.slice (some ⟨g, 0, none⟩) rs.length rs.length) ∧ w.heap.size ≤ g ∧ RowSS w' g G rs.length rs ∧ Below w.heap.size w w'
set_option maxHeartbeats 4000000 in
theorem ltoSS (a : Option Addr) (cap : Nat) (rs : List (List Int)) (w : World) (h : IsRows w a rs) (hn : rs.length ≤ 1048576) (hr : ∀ r ∈ rs, r.length ≤ 1048576) :
    Calls Try.prog 13 #[.slice a rs.length cap] w (CopiedSS w rs) := by
  have hmk := run_make_row' (P := Try.prog) 22 27 (.slice none 0 0) 24 Try.underlying22 infoRowL rfl .i64 .i64 rs.length (by omega) (by omega)
  have HC := Lib.hid h
  have HR := Lib.hid hr
  clear h hr
  go_enter Try.func13, Try.ntmps13
  go_wp2
  clear hmk
  go_loopw [4] (fun i wr => ∃ (k : Nat) (G : Nat → Nat), k ≤ rs.length ∧ i = .int .i64 k ∧ Hid (RowSS wr w.heap.size G k rs ∧ Below w.heap.size w wr)) (fun i _ => rs.length - (intOf i).toNat)
  case atStart => exact ⟨0, fun _ => 0, Nat.zero_le _, rfl, ⟨⟨(World.rowIs_made w (.slice none 0 0) rs.length _).congr (fun i hi => by simp), fun j hj => absurd hj (Nat.not_lt_zero _), fun i j _ hj => absurd hj (Nat.not_lt_zero _)⟩, by go_grown⟩⟩
  case round =>
    obtain ⟨k, G, hk, rfl, HS⟩ := hrel
    by_cases hlt : k < rs.length
    · obtain ⟨g, o, A, cp, rfl, c0, hcp, hin⟩ := rows_nth HC.out hlt
      have hl := HR.out _ (rows_mem hlt)
      replace c0 := (HS.out.2.cell (World.block_lt_of_cell? w _ c0)).trans c0
      replace hin := ints_below hin HS.out.2
      obtain ⟨r, er⟩ : ∃ r, rs.getD k [] = r := ⟨_, rfl⟩
      rw [er] at c0 hin hl hcp
      have CC := ltoIntS A cp r wr hin hl
      have ER := Lib.hid er
      clear hin er
      go_wp2_with fail
      refine CC.mono ?_
      rintro e w1 ⟨g', rfl, hg', hrow, C⟩
      have hW := HS.out.1.1.lt
      have hrow1 : w1.rowIs w.heap.size 27 rs.length _ := World.rowIs.of_block HS.out.1.1 (C.block _ hW)
      have hd : w1.cell? ⟨w.heap.size, k, none⟩ = some (.slice none 0 0) := by rw [hrow1.cell hlt, if_neg (Nat.lt_irrefl k)]
      have hf := hrow1.frozen k
      have HN : Hid (RowSS (w1.setCell ⟨w.heap.size, k, none⟩ (.slice (some ⟨g', 0, none⟩) r.length r.length)) w.heap.size (fun j => if j = k then g' else G j) (k + 1) rs ∧ Below w.heap.size w (w1.setCell ⟨w.heap.size, k, none⟩ (.slice (some ⟨g', 0, none⟩) r.length r.length))) := by
        refine ⟨⟨(hrow1.set k _).congr (fun j hj => ?_), fun j hj => ?_, fun i j hij hj => ?_⟩, (bel_tr HS.out.2 C).setCell (Nat.le_refl _) _⟩
        · show (if j = k then _ else if j < k then _ else _) = if j < k + 1 then Value.slice (some ⟨if j = k then g' else G j, 0, none⟩) _ _ else _
          by_cases hjk : j = k
          · subst hjk; rw [if_pos rfl, if_pos (by omega), if_pos rfl, ER.out]
          · rw [if_neg hjk, if_neg hjk]
            by_cases hl : j < k
            · rw [if_pos hl, if_pos (by omega)]
            · rw [if_neg hl, if_neg (by omega)]
        · show w.heap.size < (if j = k then g' else G j) ∧ Row _ (if j = k then g' else G j) _
          by_cases hjk : j = k
          · subst hjk
            rw [if_pos rfl, ER.out]
            exact ⟨by omega, World.rowIs.of_block hrow (Below.heap_setCell _ _ _ _ (by show g' ≠ w.heap.size; omega))⟩
          · rw [if_neg hjk]
            obtain ⟨p1, p2⟩ := HS.out.1.2.1 j (by omega)
            exact ⟨p1, World.rowIs.of_block (row_keep p2 C) (Below.heap_setCell _ _ _ _ (by show G j ≠ w.heap.size; omega))⟩
        · show (if i = k then g' else G i) < (if j = k then g' else G j)
          rw [if_neg (by omega : i ≠ k)]
          by_cases hjk : j = k
          · rw [if_pos hjk]
            have := (HS.out.1.2.1 i (by omega)).2.lt
            omega
          · rw [if_neg hjk]; exact HS.out.1.2.2 i j hij (by omega)
      clear hrow hrow1 C CC
      go_wp2_with fail
      go_roundw
      case rel => exact ⟨k + 1, _, by omega, by go_num, HN⟩
      case measure => simp [intOf]; omega
    · obtain rfl : k = rs.length := by omega
      go_wp2_with fail
      go_ret
      exact ⟨_, G, rfl, Nat.le_refl _, HS.out.1, HS.out.2⟩
set_option maxRecDepth 100000 in
set_option maxHeartbeats 4000000 in
theorem leqSS (a b : Option Addr) (ca cb : Nat) (rs : List (List Int)) (w : World) (ha : IsRows w a rs) (hb : IsRows w b rs) (hn : rs.length ≤ 1048576) (hr : ∀ r ∈ rs, r.length ≤ 1048576) :
    Calls Try.prog 15 #[.slice a rs.length ca, .slice b rs.length cb] w fun e w' => e = .returned (.bool true) ∧ Below w.heap.size w w' := by
  have HA := Lib.hid ha
  have HB := Lib.hid hb
  have HR := Lib.hid hr
  clear ha hb hr
  have B := Below.refl w.heap.size w
  go_enter Try.func15, Try.ntmps15
  go_wp2_with fail
  go_loopw [5] (fun i wr => ∃ k : Nat, k ≤ rs.length ∧ i = .int .i64 k ∧ Below w.heap.size w wr) (fun i _ => rs.length - (intOf i).toNat)
  case atStart => exact ⟨0, Nat.zero_le _, rfl, B⟩
  case round =>
    clear B
    obtain ⟨k, hk, rfl, B⟩ := hrel
    by_cases hlt : k < rs.length
    · obtain ⟨g1, o1, A1, p1, rfl, c1, _, i1⟩ := rows_nth HA.out hlt
      obtain ⟨g2, o2, A2, p2, rfl, c2, _, i2⟩ := rows_nth HB.out hlt
      have hl := HR.out _ (rows_mem hlt)
      replace c1 := (B.cell (World.block_lt_of_cell? w _ c1)).trans c1
      replace c2 := (B.cell (World.block_lt_of_cell? w _ c2)).trans c2
      replace i1 := ints_below i1 B
      replace i2 := ints_below i2 B
      have lt1 := World.block_lt_of_cell? wr _ c1
      have lt2 := World.block_lt_of_cell? wr _ c2
      generalize rs.getD k [] = r at *
      have k0 : (0 : Int) ≤ (k : Int) := by omega
      have k1 : (k : Int) < (rs.length : Int) := by omega
      go_wp2_with fail
      have HMK1 := Lib.hid (fun (W : World) (hW : Below wr.heap.size wr W) => (⟨⟨(hW.cell (p := ⟨g1, o1 + k, none⟩) (lt1)).trans c1, (hW.cell (p := ⟨g2, o2 + k, none⟩) (lt2)).trans c2⟩, hW⟩ : (W.cell? ⟨g1, o1 + k, none⟩ = some (.slice A1 r.length p1) ∧ W.cell? ⟨g2, o2 + k, none⟩ = some (.slice A2 r.length p2)) ∧ Below wr.heap.size wr W))
      refine wp_region_held_drew (S := (fun w' => (w'.cell? ⟨g1, o1 + k, none⟩ = some (.slice A1 r.length p1) ∧ w'.cell? ⟨g2, o2 + k, none⟩ = some (.slice A2 r.length p2)) ∧ Below wr.heap.size wr w')) (by kernel_rfl) ?_ (fun hHeld => ?_)
      · exact ⟨⟨c1, c2⟩, (Below.refl _ _).drew⟩
      refine wpAnyH_take (i := 0) (oi := ?ooa2_) (v := ?vva2_) ?hia2_ (by kernel_rfl) ?h3a2_ ?h4a2_ ?h5a2_ ?h6a2_ (by assumption) ?h8a2_
      case hia2_ => (simp only [List.getElem?_toArray, List.getElem?_cons_succ, List.getElem?_cons_zero]; rfl)
      case h3a2_ => kernel_rfl
      case h4a2_ => kernel_rfl
      case h6a2_ => (refine Or.inl ⟨by rfl, ?_⟩; intro w hSw; (try dsimp only at hSw); (go_simp <;> with_reducible rfl))
      case h5a2_ => exact fun _ _ _ h => h
      try simp only [Act.put, List.setIfInBounds_toArray, List.set_cons_zero, List.set_cons_succ]
      refine wpAnyH_take (i := 1) (oi := ?ooa3_) (v := ?vva3_) ?hia3_ (by kernel_rfl) ?h3a3_ ?h4a3_ ?h5a3_ ?h6a3_ (by assumption) ?h8a3_
      case hia3_ => (simp only [List.getElem?_toArray, List.getElem?_cons_succ, List.getElem?_cons_zero]; rfl)
      case h3a3_ => kernel_rfl
      case h4a3_ => kernel_rfl
      case h6a3_ => (refine Or.inl ⟨by rfl, ?_⟩; intro w hSw; (try dsimp only at hSw); (go_simp <;> with_reducible rfl))
      case h5a3_ => exact fun _ _ _ h => h
      try simp only [Act.put, List.setIfInBounds_toArray, List.set_cons_zero, List.set_cons_succ]
      refine wpAnyH_take (i := 2) (oi := ?ooa4_) (v := ?vva4_) ?hia4_ (by kernel_rfl) ?h3a4_ ?h4a4_ ?h5a4_ ?h6a4_ (by assumption) ?h8a4_
      case hia4_ => (simp only [List.getElem?_toArray, List.getElem?_cons_succ, List.getElem?_cons_zero]; rfl)
      case h3a4_ => kernel_rfl
      case h4a4_ => kernel_rfl
      case h6a4_ => (refine Or.inl ⟨by rfl, ?_⟩; intro w hSw; (try dsimp only at hSw); (go_simp <;> with_reducible rfl))
      case h5a4_ => exact fun _ _ _ h => h
      try simp only [Act.put, List.setIfInBounds_toArray, List.set_cons_zero, List.set_cons_succ]
      refine wpAnyH_take (i := 3) (oi := ?ooa5_) (v := ?vva5_) ?hia5_ (by kernel_rfl) ?h3a5_ ?h4a5_ ?h5a5_ ?h6a5_ (by assumption) ?h8a5_
      case hia5_ => (simp only [List.getElem?_toArray, List.getElem?_cons_succ, List.getElem?_cons_zero]; rfl)
      case h3a5_ => kernel_rfl
      case h4a5_ => kernel_rfl
      case h6a5_ => (refine Or.inl ⟨by rfl, ?_⟩; intro w hSw; (try dsimp only at hSw); (go_simp <;> with_reducible rfl))
      case h5a5_ => exact fun _ _ _ h => h
      try simp only [Act.put, List.setIfInBounds_toArray, List.set_cons_zero, List.set_cons_succ]
      refine wpAnyH_take (i := 4) (oi := ?ooa6_) (v := ?vva6_) ?hia6_ (by kernel_rfl) ?h3a6_ ?h4a6_ ?h5a6_ ?h6a6_ (by assumption) ?h8a6_
      case hia6_ => (simp only [List.getElem?_toArray, List.getElem?_cons_succ, List.getElem?_cons_zero]; rfl)
      case h3a6_ => kernel_rfl
      case h4a6_ => kernel_rfl
      case h6a6_ => (refine Or.inl ⟨by rfl, ?_⟩; intro w hSw; (try dsimp only at hSw); (go_simp <;> with_reducible rfl))
      case h5a6_ => exact fun _ _ _ h => h
      try simp only [Act.put, List.setIfInBounds_toArray, List.set_cons_zero, List.set_cons_succ]
      refine wpAnyH_take (i := 5) (oi := ?ooa7_) (v := ?vva7_) ?hia7_ (by kernel_rfl) ?h3a7_ ?h4a7_ ?h5a7_ ?h6a7_ (by assumption) ?h8a7_
      case hia7_ => (simp only [List.getElem?_toArray, List.getElem?_cons_succ, List.getElem?_cons_zero]; rfl)
      case h3a7_ => kernel_rfl
      case h4a7_ => kernel_rfl
      case h6a7_ => (refine Or.inl ⟨by rfl, ?_⟩; intro w hSw; (try dsimp only at hSw); (go_simp <;> with_reducible rfl))
      case h5a7_ => exact fun _ _ _ h => h
      try simp only [Act.put, List.setIfInBounds_toArray, List.set_cons_zero, List.set_cons_succ]
      refine wpAnyH_take (i := 6) (oi := ?ooa8_) (v := ?vva8_) ?hia8_ (by kernel_rfl) ?h3a8_ ?h4a8_ ?h5a8_ ?h6a8_ (by assumption) ?h8a8_
      case hia8_ => (simp only [List.getElem?_toArray, List.getElem?_cons_succ, List.getElem?_cons_zero]; rfl)
      case h3a8_ => kernel_rfl
      case h4a8_ => kernel_rfl
      case h6a8_ => (refine Or.inl ⟨by rfl, ?_⟩; intro w hSw; (try dsimp only at hSw); (go_simp <;> with_reducible rfl))
      case h5a8_ => exact fun _ _ _ h => h
      try simp only [Act.put, List.setIfInBounds_toArray, List.set_cons_zero, List.set_cons_succ]
      refine wpAnyH_take (i := 7) (oi := ?ooa9_) (v := ?vva9_) ?hia9_ (by kernel_rfl) ?h3a9_ ?h4a9_ ?h5a9_ ?h6a9_ (by assumption) ?h8a9_
      case hia9_ => (simp only [List.getElem?_toArray, List.getElem?_cons_succ, List.getElem?_cons_zero]; rfl)
      case h3a9_ => kernel_rfl
      case h4a9_ => kernel_rfl
      case h6a9_ => (refine Or.inl ⟨by rfl, ?_⟩; intro w hSw; (try dsimp only at hSw); (go_simp <;> with_reducible rfl))
      case h5a9_ => exact fun _ _ _ h => h
      try simp only [Act.put, List.setIfInBounds_toArray, List.set_cons_zero, List.set_cons_succ]
      refine wpAnyH_ready (rs := [8]) (by kernel_rfl) (by simp) (AllReadyH.cons (o := ?ooa10_q0) ?hia10_q0 (fun K hK => ?hka10_q0) AllReadyH.nil)
      case hia10_q0 => (simp only [List.getElem?_toArray, List.getElem?_cons_succ, List.getElem?_cons_zero]; rfl)
      case hka10_q0 =>
        (rw [if_pos (by rfl)]; go_simp; refine (leqIntS A1 A2 p1 p2 r _ (ints_below i1 hHeld.2) (ints_below i2 hHeld.2) hl).mono ?_; rintro e w8_ ⟨rfl, hb⟩; go_wp2_with fail; refine hK.out _ _ (HMK1.out _ (bel_tr hHeld.2 hb)) (fun hHeld => ?_); clear hK K)
        try simp only [Act.put, List.setIfInBounds_toArray, List.set_cons_zero, List.set_cons_succ]
        refine wpAnyH_take (i := 9) (oi := ?ooa11_) (v := ?vva11_) ?hia11_ (by kernel_rfl) ?h3a11_ ?h4a11_ ?h5a11_ ?h6a11_ (by assumption) ?h8a11_
        case hia11_ => (simp only [List.getElem?_toArray, List.getElem?_cons_succ, List.getElem?_cons_zero]; rfl)
        case h3a11_ => kernel_rfl
        case h4a11_ => kernel_rfl
        case h6a11_ => (refine Or.inl ⟨by rfl, ?_⟩; intro w hSw; (try dsimp only at hSw); (go_simp <;> with_reducible rfl))
        case h5a11_ => exact fun _ _ _ h => h
        try simp only [Act.put, List.setIfInBounds_toArray, List.set_cons_zero, List.set_cons_succ]
        refine wpAnyH_done (by kernel_rfl) ?_ _
        clear HMK1
        have C := hHeld.2
        replace B := bel_tr B C
        clear hHeld
        go_wp2_with fail
        go_roundw
        case rel => exact ⟨k + 1, by omega, by go_num, B⟩
        case measure => simp [intOf]; omega

    · obtain rfl : k = rs.length := by omega
      go_wp2_with fail
      go_ret
      exact ⟨rfl, B⟩
end Go.Proofs.Ytclpbbhhaclgbaa
