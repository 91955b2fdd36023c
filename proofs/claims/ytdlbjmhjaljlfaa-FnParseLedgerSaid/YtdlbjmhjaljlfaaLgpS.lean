/- ParseLedger, by the model. Condition: texts of at most 1048576 bytes. -/
import Derived.Test.YtdlbjmhjaljlfaaLgpJ
import Derived.Test.YtdlbjmhjaljlfaaParS
import Derived.Test.YtdlbjmhjaljlfaaHoldW
import Derived.Test.YtdlbjmhjaljlfaaReadz
namespace Go.Proofs.Ytdlbjmhjaljlfaa
open Go.RowKit
set_option linter.unusedSimpArgs false
set_option linter.unusedVariables false
abbrev sE : ByteArray := { data := #[] }
def lastE (s : ByteArray) : ByteArray := s.extract (cutTo 10 s s.size).2 s.size
theorem last_size (s : ByteArray) : (lastE s).size = 0 ↔ (cutTo 10 s s.size).2 = s.size := by
  have := (cutTo_bd 10 s s.size).1
  unfold lastE
  simp
  omega
theorem lines_form (s : ByteArray) : cutS 10 s = lnA s ++ [lastE s] := rfl
theorem pl_last {s : ByteArray} (h : ¬ (lastE s).size = 0) : plB s = false := by
  unfold plB
  rw [decide_eq_false (fun c => h ((last_size s).2 c))]; rfl
theorem pl_all {s : ByteArray} (h : (lastE s).size = 0) (h2 : ∀ j, j < (lnA s).length → hokB ((lnA s).getD j sE) = true) : plB s = vlR (plL s) := by
  unfold plB
  rw [decide_eq_true ((last_size s).1 h), List.all_eq_true.2 (fun l hl => by
    obtain ⟨j, hj, rfl⟩ := List.getElem_of_mem hl
    have := h2 j hj
    rwa [getD_lt _ hj] at this)]; rfl
theorem pl_line {s : ByteArray} {k : Nat} (hk : k < (lnA s).length) (h : hokB ((lnA s).getD k sE) = false) : plB s = false :=
  pl_no3 (p := s.size) (Nat.le_refl _) (by rw [getD_lt _ hk]; exact List.getElem_mem _) h
theorem cut_sizes (c : Int) (s : ByteArray) : ∀ k, ∀ l ∈ (cutTo c s k).1, l.size ≤ s.size := by
  intro k
  induction k with
  | zero => intro l hl; cases hl
  | succ k ih =>
    intro l hl
    by_cases h : bt s k = c
    · rw [cutTo_hit h] at hl
      rcases List.mem_append.1 hl with hl | hl
      · exact ih l hl
      · simp only [List.mem_singleton] at hl; subst hl; exact ext_size _ _ _
    · rw [cutTo_miss h] at hl; exact ih l hl
theorem cut_sizes2 {c : Int} {s x : ByteArray} (h : x ∈ cutS c s) : x.size ≤ s.size := by
  unfold cutS at h
  rcases List.mem_append.1 h with h | h
  · exact cut_sizes c s s.size x h
  · simp only [List.mem_singleton] at h; subst h; exact ext_size _ _ _
theorem row_cell {w : World} {base g n cp : Nat} {L : List ByteArray} (h : w.ownsRow base 9 1 (.slice (some ⟨g, 0, none⟩) n cp) n (L.map Value.string)) {k : Nat} (hk : k < L.length) : w.cell? ⟨g, k, none⟩ = some (.string (L.getD k sE)) := by
  have := h.cells (g := g) rfl k (.string (L.getD k sE)) (by rw [List.getElem?_map, List.getElem?_eq_getElem hk, getD_lt _ hk]; rfl)
  rwa [add_off, Nat.zero_add] at this
theorem two_of {L : List ByteArray} (h : L.length = 2) : ∃ A B, L = [A, B] := by
  match L, h with
  | [a, b], _ => exact ⟨a, b, rfl⟩
theorem row_next {w w' : World} {base n : Nat} {t : TypeId} {z : Nat} {v : Value} {xs : List Value} (h : w.ownsRow base t z v n xs) (hb : Below w.heap.size w w') : w'.ownsRow base t z v n xs := by
  have hg : w.grownBy w' none := ⟨hb.os, hb.tape, hb.output, hb.size, fun i hi _ => hb.block i hi⟩
  by_cases c : v.ownBlock = none
  · exact World.ownsRow.kept h hg (.inl c)
  · exact World.ownsRow.kept h hg (.inr c)
theorem row_lower {w : World} {base base' n size : Nat} {t : TypeId} {v : Value} {xs : List Value} (h : w.ownsRow base t size v n xs) (hb : base' ≤ base) : w.ownsRow base' t size v n xs := by
  obtain ⟨hl, h | ⟨g, cap, cur, hv, hg, r⟩⟩ := h
  · exact ⟨hl, .inl h⟩
  · exact ⟨hl, .inr ⟨g, cap, cur, hv, Nat.le_trans hb hg, r⟩⟩
theorem isE_yes {s : ByteArray} (h : s.size = 0) : s.toList.isEmpty = true := by rw [ByteArray.toList_eq, List.isEmpty_iff]; exact List.length_eq_zero_iff.1 (by rw [bt_len]; exact h)
theorem isE_no {s : ByteArray} (h : ¬ s.size = 0) : s.toList.isEmpty = false := by rw [ByteArray.toList_eq, List.isEmpty_eq_false_iff]; exact ne_nil (by omega)
set_option maxRecDepth 100000 in
set_option maxHeartbeats 4000000 in
/-- spec.ParseLedger -/
theorem sParL (s : ByteArray) (w : World) (h : s.size ≤ 1048576) :
    Calls Try.prog 30 #[.string s] w (ParL w s) := by
  obtain ⟨i0, hi0, hz0, hzz, hz2⟩ := info_parts infoH
  obtain ⟨m, hm⟩ : ∃ m, (lnA s).length = m := ⟨_, rfl⟩
  have hmb : m ≤ s.size := by rw [← hm]; exact (cutTo_bd 10 s s.size).2
  have hlen : (cutS 10 s).length = m + 1 := by rw [lines_form]; simp [hm]
  have HM := Lib.hid hm
  have HLC : Hid (∀ k, k < m → (cutS 10 s).getD k sE = (lnA s).getD k sE) := fun k hk => by
    rw [lines_form, List.getD_eq_getElem?_getD, List.getElem?_append_left (by omega), ← List.getD_eq_getElem?_getD]
  have HLL : Hid ((cutS 10 s).getD m sE = lastE s) := by
    show _ = _
    rw [lines_form, List.getD_eq_getElem?_getD, List.getElem?_append_right (by omega), hm]; simp
  have HSZ : Hid (∀ k, k < m → ((lnA s).getD k sE).size ≤ 4294967296) := fun k hk => by
    rw [getD_lt _ (by omega)]
    exact Nat.le_trans (cut_sizes 10 s s.size _ (List.getElem_mem _)) (by omega)
  clear hm
  go_enter Try.func30, Try.ntmps30
  go_wp2_with fail
  have K0 := ownH_new w
  have B0 : Below w.heap.size w (w.alloc (.cells #[] 85)) := by go_grown
  have hg0 : w.heap.size < (w.alloc (.cells #[] 85)).heap.size := by simp
  generalize w.alloc (.cells #[] 85) = w1 at K0 B0 hg0 ⊢
  refine (ssplit s 10 _ (by omega)).mono ?_
  rintro e w2 ⟨v, rfl, hR, C⟩
  rw [hlen] at hR
  obtain ⟨gL, cp, rfl, lg, ltg⟩ := hR.form (by omega)
  have hne : (Value.slice (some ⟨w.heap.size, 0, none⟩) 0 0).ownBlock ≠ some gL := by intro c; simp [Value.ownBlock] at c; omega
  have K1 := ownH_next K0 C
  have B1 := bel_tr B0 C
  have R1 := row_lower hR (Nat.le_of_lt hg0)
  clear K0 B0 C hR
  go_wp2_with fail
  go_loopw [4, 6] (fun v i wr => ∃ k : Nat, k ≤ m ∧ i = .int .i64 k ∧ Hid (∀ j, j < k → hokB ((lnA s).getD j sE) = true) ∧ OwnH wr w.heap.size v (((lnA s).take k).map (hdS 1000000)) ∧ v.ownBlock ≠ some gL ∧ wr.ownsRow w.heap.size 9 1 (.slice (some ⟨gL, 0, none⟩) (m + 1) cp) (m + 1) ((cutS 10 s).map Value.string) ∧ Below w.heap.size w wr) (fun _ i _ => m - (intOf i).toNat)
  case atStart => exact ⟨0, Nat.zero_le _, rfl, fun j hj => absurd hj (Nat.not_lt_zero _), by rw [List.take_zero]; exact K1, hne, R1, B1⟩
  case round =>
    clear K1 R1 B1 hne lg ltg hg0
    obtain ⟨k, hk, rfl, HK, hO, hne, hR, hB⟩ := hrel
    have hsz := hB.size
    have hl : (((lnA s).take k).map (hdS 1000000)).length = k := by rw [List.length_map, List.length_take, HM.out]; omega
    obtain ⟨b, cap, rfl, hI⟩ := own_hs hO
    rw [hl] at hO hne ⊢
    have t1 : IntKind.i64.wrap ((k : Int) + 1) = (k : Int) + 1 := by rw [IntKind.wrap_i64]; omega
    by_cases hlt : k < m
    · have e0 : decide ((k : Int) + 1 < ((m + 1 : Nat) : Int)) = true := decide_eq_true (by omega)
      have c0 := row_cell hR (k := k) (by omega)
      rw [HLC.out k hlt] at c0
      have zl := HSZ.out k hlt
      have HNO := Lib.hid (pl_line (s := s) (k := k) (by rw [HM.out]; exact hlt))
      have HTK : Hid (((lnA s).take (k + 1)).map (hdS 1000000) = ((lnA s).take k).map (hdS 1000000) ++ [hdS 1000000 ((lnA s).getD k sE)]) := by
        show _ = _; rw [take_snocD _ (by rw [HM.out]; exact hlt) sE, List.map_append]; rfl
      have HYE : Hid (hokB ((lnA s).getD k sE) = true → ∀ j, j < k + 1 → hokB ((lnA s).getD j sE) = true) := fun c => rng_more (f := fun j => hokB ((lnA s).getD j sE)) HK.out c
      generalize (lnA s).getD k sE = l at c0 zl HNO HTK HYE
      have hc1 : 0 < (cutS 32 l).length := by unfold cutS; simp
      have HOO := Lib.hid hO
      have HRR := Lib.hid hR
      have k0 : (0 : Int) ≤ (k : Int) := by omega
      have k1 : (k : Int) < ((m + 1 : Nat) : Int) := by omega
      clear hO hR hI
      by_cases h2 : (cutS 32 l).length = 2
      · obtain ⟨A, B, hAB⟩ := two_of h2
        obtain ⟨wd1, wd2⟩ := two_words hAB
        have HAB := Lib.hid hAB
        have zA : A.size ≤ 4294967296 := Nat.le_trans (cut_sizes2 (c := 32) (s := l) (by rw [hAB]; simp)) zl
        have zB : B.size ≤ 4294967296 := Nat.le_trans (cut_sizes2 (c := 32) (s := l) (by rw [hAB]; simp)) zl
        clear h2 hc1 hAB
        go_wp2_with fail
        refine (ssplit l 32 _ zl).mono ?_
        rintro e w2 ⟨v, rfl, hW, C⟩
        rw [HAB.out] at hW
        obtain ⟨g7, cp7, rfl, lg, ltg⟩ := hW.form (by simp)
        have d0 := row_cell hW (k := 0) (by simp)
        have d1 := row_cell hW (k := 1) (by simp)
        have d0 : w2.cell? ⟨g7, 0, none⟩ = some (.string A) := d0
        have d1 : w2.cell? ⟨g7, 1, none⟩ = some (.string B) := d1
        have O2 := ownH_next HOO.out C
        have R2 := row_next HRR.out C
        have B2 := bel_tr hB C
        have hne7 : (Value.slice b k cap).ownBlock ≠ some g7 := fun c => by have := (World.ownsRow.lt HOO.out g7 c).2; omega
        have ltL : gL < wr.heap.size := (World.ownsRow.lt HRR.out gL rfl).2
        have ltL2 : gL < w2.heap.size := by have := C.size; omega
        clear C hW HOO HRR c0 lg ltL
        simp only [List.length_cons, List.length_nil]
        go_wp2_with fail
        refine (sparse B _ zB).mono ?_
        rintro e w3 ⟨rfl, C⟩
        have d0 := (C.cell (World.block_lt_of_cell? w2 _ d0)).trans d0
        have O3 := ownH_next O2 C
        have R3 := row_next R2 C
        have B3 := bel_tr B2 C
        have lt7 : g7 < w3.heap.size := by have := C.size; omega
        have ltL3 : gL < w3.heap.size := by have := C.size; omega
        clear C O2 R2 B2 d1
        cases hp : pok B with
        | false =>
          have HN := Lib.hid (HNO.out (by rw [wd1]; exact hp))
          rw [(frV_cases false _ _).2 rfl]
          have hz3 := B3.size
          clear wd1 wd2 hp
          go_wp2_with fail
          go_returns
          exact parL_no HN.out (by go_grown)
        | true =>
          have HHd := Lib.hid (wd2 hp)
          have HY := Lib.hid (HYE.out (by rw [wd1]; exact hp))
          rw [(frV_cases true _ _).1 rfl]
          clear wd1 wd2 hp HNO HYE
          generalize pnum B = n at *
          generalize pden B = d at *
          have hne8 : (Value.slice b k cap).ownBlock ≠ some w3.heap.size := fun c => by have := (World.ownsRow.lt O3 _ c).2; omega
          have J := Blk.new w3 36 #[.int .i64 n, .int .i64 d]
          have O4 := (show w3.ownsRow w.heap.size 85 3 (.slice b k cap) k (valsH (((lnA s).take k).map (hdS 1000000))) from by have := O3; unfold OwnH at this; rw [hl] at this; exact this).alloc (.cells #[.int .i64 n, .int .i64 d] 36)
          have R4 := R3.alloc (.cells #[.int .i64 n, .int .i64 d] 36)
          have B4 := B3.alloc B3.size (.cells #[.int .i64 n, .int .i64 d] 36)
          have d0 : (w3.alloc (.cells #[.int .i64 n, .int .i64 d] 36)).cell? ⟨g7, 0, none⟩ = some (.string A) := (((Below.refl _ w3).alloc (Nat.le_refl _) (.cells #[.int .i64 n, .int .i64 d] 36)).cell (p := ⟨g7, 0, none⟩) lt7).trans d0
          have ltU : g7 < (w3.alloc (.cells #[.int .i64 n, .int .i64 d] 36)).heap.size := by rw [World.size_alloc]; omega
          have hg8 : w3.heap.size < (w3.alloc (.cells #[.int .i64 n, .int .i64 d] 36)).heap.size := by simp
          have ltU3 : gL < (w3.alloc (.cells #[.int .i64 n, .int .i64 d] 36)).heap.size := by rw [World.size_alloc]; omega
          clear O3 R3 B3
          go_wp2_with fail
          generalize w3.alloc (.cells #[.int .i64 n, .int .i64 d] 36) = U at *
          generalize w3.heap.size = g8 at *
          obtain ⟨j0, j1, j2, j3, j4⟩ := blk_two J
          have HRD : Hid (∀ W, Calls Try.prog 77 #[.string A] W fun e w' => e = .returned (.int .i64 (rdS 1000000 A)) ∧ W = w') := Lib.hid (fun W => sread A W zA)
          generalize rdS 1000000 A = oA at *
          have hBd : Below w.heap.size w U.drew := B4.drew
          have hbz : w.heap.size ≤ (U.alloc (.cells #[.int .i64 oA, .int .i64 n, .int .i64 d] 85)).drew.heap.size := by have := B4.size; simp at this ⊢; omega
          have HOZ := Lib.hid (World.ownsRow.drew (O4.alloc (.cells #[.int .i64 oA, .int .i64 n, .int .i64 d] 85)))
          have hnz : Reads ((U.alloc (.cells #[.int .i64 oA, .int .i64 n, .int .i64 d] 85)).drew) (U.heap.size + 1) 3 (some ⟨U.heap.size, 0, none⟩) 1 [.int .i64 oA, .int .i64 n, .int .i64 d] := ⟨rfl, fun _ => ⟨_, rfl, by simp, fun j u hu => new_cells U [.int .i64 oA, .int .i64 n, .int .i64 d] 85 j u hu⟩⟩
          have hsU : (U.alloc (.cells #[.int .i64 oA, .int .i64 n, .int .i64 d] 85)).drew.heap.size = U.heap.size + 1 := by show (U.alloc (.cells #[.int .i64 oA, .int .i64 n, .int .i64 d] 85)).heap.size = _; rw [World.size_alloc]
          have R6 := Lib.hid (World.ownsRow.drew (R4.alloc (.cells #[.int .i64 oA, .int .i64 n, .int .i64 d] 85)))
          have HMK : Hid (∀ W : World, Below U.heap.size U W → Below w.heap.size w W → W.cell? ⟨g7, 0, none⟩ = some (.string A) ∧ W.cell? ⟨g8, 0, none⟩ = some (.int .i64 n) ∧ W.cell? ⟨g8, 1, none⟩ = some (.int .i64 d) ∧ Below w.heap.size w W) := Lib.hid (fun W hW hw => ⟨(hW.cell (p := ⟨g7, 0, none⟩) ltU).trans d0, (hW.cell (p := ⟨g8, 0, none⟩) hg8).trans j0, (hW.cell (p := ⟨g8, 1, none⟩) hg8).trans j1, hw⟩)
          have hBu : Below U.heap.size U U.drew := (Below.refl _ U).drew
          have HGR : Hid (∀ W : World, ((U.alloc (.cells #[.int .i64 oA, .int .i64 n, .int .i64 d] 85)).drew).grownBy W (Value.slice b k cap).ownBlock → W.cell? ⟨g7, 0, none⟩ = some (.string A) ∧ W.cell? ⟨g8, 0, none⟩ = some (.int .i64 n) ∧ W.cell? ⟨g8, 1, none⟩ = some (.int .i64 d) ∧ Below w.heap.size w W) := Lib.hid (fun W hG => by
            have Z := HMK.out (U.alloc (.cells #[.int .i64 oA, .int .i64 n, .int .i64 d] 85)).drew ((Below.refl _ U).alloc (Nat.le_refl _) _).drew (B4.alloc B4.size _).drew
            have z1 : U.heap.size < (U.alloc (.cells #[.int .i64 oA, .int .i64 n, .int .i64 d] 85)).drew.heap.size := by simp
            exact ⟨(hG.cell_far ⟨g7, 0, none⟩ (by show g7 < _; omega) (fun e => hne7 e.symm)).trans Z.1, (hG.cell_far ⟨g8, 0, none⟩ (by show g8 < _; omega) (fun e => hne8 e.symm)).trans Z.2.1, (hG.cell_far ⟨g8, 1, none⟩ (by show g8 < _; omega) (fun e => hne8 e.symm)).trans Z.2.2.1, (B4.alloc B4.size (.cells #[.int .i64 oA, .int .i64 n, .int .i64 d] 85)).drew.grown hG (B4.alloc B4.size (.cells #[.int .i64 oA, .int .i64 n, .int .i64 d] 85)).drew.size (fun q hq => (World.ownsRow.lt HOZ.out q hq).1)⟩)
          refine wp_region_held_drew (S := (fun w' => w'.cell? ⟨g7, 0, none⟩ = some (.string A) ∧ w'.cell? ⟨g8, 0, none⟩ = some (.int .i64 n) ∧ w'.cell? ⟨g8, 1, none⟩ = some (.int .i64 d) ∧ Below w.heap.size w w')) (by kernel_rfl) ?_ (fun hHeld => ?_)
          · exact ⟨d0, j0, j1, hBd⟩
          refine wpAnyH_take (i := 0) (oi := ?ooa0) (v := ?vva0) ?hia0 (by kernel_rfl) ?h3a0 ?h4a0 ?h5a0 ?h6a0 (by assumption) ?h8a0
          case hia0 => (simp only [List.getElem?_toArray, List.getElem?_cons_succ, List.getElem?_cons_zero]; rfl)
          case h3a0 => kernel_rfl
          case h4a0 => kernel_rfl
          case h6a0 => (refine Or.inl ⟨by rfl, ?_⟩; intro w hSw; (try dsimp only at hSw); (go_simp <;> with_reducible rfl))
          case h5a0 => exact fun _ _ _ h => h
          try simp only [Act.put, List.setIfInBounds_toArray, List.set_cons_zero, List.set_cons_succ]
          refine wpAnyH_take (i := 1) (oi := ?ooa1) (v := ?vva1) ?hia1 (by kernel_rfl) ?h3a1 ?h4a1 ?h5a1 ?h6a1 (by assumption) ?h8a1
          case hia1 => (simp only [List.getElem?_toArray, List.getElem?_cons_succ, List.getElem?_cons_zero]; rfl)
          case h3a1 => kernel_rfl
          case h4a1 => kernel_rfl
          case h6a1 => (refine Or.inl ⟨by rfl, ?_⟩; intro w hSw; (try dsimp only at hSw); (go_simp <;> with_reducible rfl))
          case h5a1 => exact fun _ _ _ h => h
          try simp only [Act.put, List.setIfInBounds_toArray, List.set_cons_zero, List.set_cons_succ]
          refine wpAnyH_take (i := 2) (oi := ?ooa2) (v := ?vva2) ?hia2 (by kernel_rfl) ?h3a2 ?h4a2 ?h5a2 ?h6a2 (by assumption) ?h8a2
          case hia2 => (simp only [List.getElem?_toArray, List.getElem?_cons_succ, List.getElem?_cons_zero]; rfl)
          case h3a2 => kernel_rfl
          case h4a2 => kernel_rfl
          case h6a2 => (refine Or.inl ⟨by rfl, ?_⟩; intro w hSw; (try dsimp only at hSw); (go_simp <;> with_reducible rfl))
          case h5a2 => exact fun _ _ _ h => h
          try simp only [Act.put, List.setIfInBounds_toArray, List.set_cons_zero, List.set_cons_succ]
          refine wpAnyH_take (i := 3) (oi := ?ooa3) (v := ?vva3) ?hia3 (by kernel_rfl) ?h3a3 ?h4a3 ?h5a3 ?h6a3 (by assumption) ?h8a3
          case hia3 => (simp only [List.getElem?_toArray, List.getElem?_cons_succ, List.getElem?_cons_zero]; rfl)
          case h3a3 => kernel_rfl
          case h4a3 => kernel_rfl
          case h6a3 => (refine Or.inl ⟨by rfl, ?_⟩; intro w hSw; (try dsimp only at hSw); (go_simp <;> with_reducible rfl))
          case h5a3 => exact fun _ _ _ h => h
          try simp only [Act.put, List.setIfInBounds_toArray, List.set_cons_zero, List.set_cons_succ]
          refine wpAnyH_take (i := 5) (oi := ?ooa5) (v := ?vva5) ?hia5 (by kernel_rfl) ?h3a5 ?h4a5 ?h5a5 ?h6a5 (by assumption) ?h8a5
          case hia5 => (simp only [List.getElem?_toArray, List.getElem?_cons_succ, List.getElem?_cons_zero]; rfl)
          case h3a5 => kernel_rfl
          case h4a5 => kernel_rfl
          case h6a5 => (refine Or.inl ⟨by rfl, ?_⟩; intro w hSw; (try dsimp only at hSw); (go_simp <;> with_reducible rfl))
          case h5a5 => exact fun _ _ _ h => h
          try simp only [Act.put, List.setIfInBounds_toArray, List.set_cons_zero, List.set_cons_succ]
          refine wpAnyH_ready (rs := [4]) (by kernel_rfl) (by simp) (AllReadyH.cons (o := ?ooa4) ?hia4 (fun K hK => ?hka4) AllReadyH.nil)
          rotate_left
          case hia4 => (simp only [List.getElem?_toArray, List.getElem?_cons_succ, List.getElem?_cons_zero]; rfl)
          (rw [if_pos (by rfl)]; go_simp; refine (HRD.out _).mono ?_; rintro e w' ⟨rfl, rfl⟩; go_wp2_with fail; refine hK.out _ _ (hHeld) (fun hHeld => ?_); clear hK K)
          try simp only [Act.put, List.setIfInBounds_toArray, List.set_cons_zero, List.set_cons_succ]
          refine wpAnyH_take (i := 6) (oi := ?ooa6) (v := ?vva6) ?hia6 (by kernel_rfl) ?h3a6 ?h4a6 ?h5a6 ?h6a6 (by assumption) ?h8a6
          case hia6 => (simp only [List.getElem?_toArray, List.getElem?_cons_succ, List.getElem?_cons_zero]; rfl)
          case h3a6 => kernel_rfl
          case h4a6 => kernel_rfl
          case h6a6 => (refine Or.inl ⟨by rfl, ?_⟩; intro w hSw; (try dsimp only at hSw); (go_simp <;> with_reducible rfl))
          case h5a6 => exact fun _ _ _ h => h
          try simp only [Act.put, List.setIfInBounds_toArray, List.set_cons_zero, List.set_cons_succ]
          refine wpAnyH_ready (rs := [7]) (by kernel_rfl) (by simp) (AllReadyH.cons (o := ?ooa7) ?hia7 (fun K hK => ?hka7) AllReadyH.nil)
          rotate_left
          case hia7 => (simp only [List.getElem?_toArray, List.getElem?_cons_succ, List.getElem?_cons_zero]; rfl)
          (rw [if_pos (by rfl)]; go_simp; refine hK.out _ _ (HMK.out _ ((Below.refl _ U).alloc (Nat.le_refl _) _).drew (B4.alloc B4.size _).drew) (fun hHeld => ?_); clear hK K)
          try simp only [Act.put, List.setIfInBounds_toArray, List.set_cons_zero, List.set_cons_succ]
          refine wpAnyH_ready (rs := [8]) (by kernel_rfl) (by simp) (AllReadyH.cons (o := ?ooa8) ?hia8 (fun K hK => ?hka8) AllReadyH.nil)
          rotate_left
          case hia8 => (simp only [List.getElem?_toArray, List.getElem?_cons_succ, List.getElem?_cons_zero]; rfl)
          (rw [if_pos (by rfl)]; refine wp_append_any (P := Try.prog) _ (.tmp 37) (.tmp 44) 23 rfl w.heap.size 85 i0 (.agg #[.int .i64 0, .int .i64 0, .int .i64 0]) 3 24 Try.underlying23 hi0 hz0 hzz hz2 rfl (by decide) _ k (valsH (((lnA s).take k).map (hdS 1000000))) rfl HOZ.out (U.heap.size + 1) (some ⟨U.heap.size, 0, none⟩) 1 1 [.int .i64 oA, .int .i64 n, .int .i64 d] rfl hnz (vals_one [(oA, n, d)]) (by unfold maxLen; omega) (by omega) hbz ?_; intro v' w5 hown' hg3 hat3; refine hK.out _ _ (HGR.out _ hg3) (fun hHeld => ?_); clear hK K)
          try simp only [Act.put, List.setIfInBounds_toArray, List.set_cons_zero, List.set_cons_succ]
          refine wpAnyH_take (i := 9) (oi := ?ooa9) (v := ?vva9) ?hia9 (by kernel_rfl) ?h3a9 ?h4a9 ?h5a9 ?h6a9 (by assumption) ?h8a9
          case hia9 => (simp only [List.getElem?_toArray, List.getElem?_cons_succ, List.getElem?_cons_zero]; rfl)
          case h3a9 => kernel_rfl
          case h4a9 => kernel_rfl
          case h6a9 => (refine Or.inl ⟨by rfl, ?_⟩; intro w hSw; (try dsimp only at hSw); (go_simp <;> with_reducible rfl))
          case h5a9 => exact fun _ _ _ h => h
          try simp only [Act.put, List.setIfInBounds_toArray, List.set_cons_zero, List.set_cons_succ]
          refine wpAnyH_done (by kernel_rfl) ?_ _
          have OF : OwnH w5 w.heap.size v' (((lnA s).take (k + 1)).map (hdS 1000000)) := by
            unfold OwnH
            rw [HTK.out, HHd.out, List.length_append, vals_append, hl]
            exact hown'
          have hneF : v'.ownBlock ≠ some gL := by
            rcases hat3 with e | e
            · rw [e]; exact hne
            · rw [e, hsU]; intro c; injection c with c; omega
          have RF := World.ownsRow.kept R6.out hg3 (.inr (fun c => hne c.symm))
          have BF := hHeld.2.2.2
          have HOF := Lib.hid (And.intro OF (And.intro RF BF))
          clear OF RF BF hHeld hown' hg3 hat3 HOZ hnz HGR HMK R6 O4 R4 B4 hBd hBu
          go_wp2_with fail
          go_roundw
          case rel => exact ⟨k + 1, by omega, by go_num, HY.out, HOF.out.1, hneF, HOF.out.2.1, HOF.out.2.2⟩
          case measure => simp [intOf]; omega
      · have HN := Lib.hid (HNO.out (hok_no h2))
        have h21 : (((cutS 32 l).length : Int) == 2) = false := beq_eq_false_iff_ne.2 (by omega)
        go_wp2_with fail
        refine (ssplit l 32 _ zl).mono ?_
        rintro e w2 ⟨v, rfl, hW, C⟩
        obtain ⟨g7, cp7, rfl, lg, ltg⟩ := hW.form hc1
        have B2 := bel_tr hB C
        clear C hW
        generalize (cutS 32 l).length = q at *
        go_wp2_with fail
        go_returns
        exact parL_no HN.out B2
    · obtain rfl : k = m := by omega
      have e0 : decide ((k : Int) + 1 < ((k + 1 : Nat) : Int)) = false := decide_eq_false (by omega)
      have hall : ((lnA s).take k).map (hdS 1000000) = plL s := by rw [List.take_of_length_le (by rw [HM.out]; exact Nat.le_refl _)]; rfl
      rw [hall] at hO hI hl
      have c0 := row_cell hR (k := k) (by omega)
      rw [HLL.out] at c0
      have t2 : IntKind.i64.wrap (((k + 1 : Nat) : Int) - 1) = (k : Int) := by rw [IntKind.wrap_i64]; omega
      have t3 : IntKind.i64.wrap ((k : Int) + 1 - 1) = (k : Int) := by rw [IntKind.wrap_i64]; omega
      have k0 : (0 : Int) ≤ (k : Int) := by omega
      have k1 : (k : Int) < ((k + 1 : Nat) : Int) := by omega
      have CV := fun W c => svl b cap (plL s) W c (by rw [hl]; omega)
      rw [hl] at CV
      have HOO := Lib.hid hO
      have P1 := pl_last (s := s)
      have P2 := pl_all (s := s)
      generalize lastE s = z at *
      clear hO hR hall HLC HLL HSZ hne
      by_cases hz : z.size = 0
      · have he := isE_yes hz
        have P3 := P2 hz (fun j hj => HK.out j (by rw [HM.out] at hj; exact hj))
        clear P1 P2
        cases hv : vlR (plL s) with
        | false =>
          have HN : Hid (plB s = false) := Lib.hid (by rw [P3]; exact hv)
          rw [hv] at CV
          clear P3 hv
          go_wp2_with fail
          refine (CV _ hI).mono ?_
          rintro e3 w1 ⟨rfl, C⟩
          go_wp2_with fail
          go_returns
          exact parL_no HN.out (bel_tr hB C)
        | true =>
          have HY : Hid (plB s = true) := Lib.hid (by rw [P3]; exact hv)
          have HVV := Lib.hid hv
          rw [hv] at CV
          clear P3 hv
          go_wp2_with fail
          refine (CV _ hI).mono ?_
          rintro e3 w1 ⟨rfl, C⟩
          go_wp2_with fail
          go_returns
          exact parL_yes HY.out rfl HVV.out (ownH_next HOO.out C) (bel_tr hB C)
      · have he := isE_no hz
        have HN := Lib.hid (P1 hz)
        clear P1 P2 CV
        go_wp2_with fail
        go_returns
        exact parL_no HN.out hB
end Go.Proofs.Ytdlbjmhjaljlfaa
