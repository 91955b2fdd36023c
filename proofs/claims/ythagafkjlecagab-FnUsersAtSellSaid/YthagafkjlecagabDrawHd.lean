/- The ledgers that the laws draw. Condition: the reader has read at most 80000 numbers before. -/
import Derived.Test.YthagafkjlecagabGrB
import Derived.Test.YthagafkjlecagabDrawF
import Derived.Test.YthagafkjlecagabGrA
namespace Go.Proofs.Ythagafkjlecagab
open Go.RowKit
set_option linter.unusedSimpArgs false
set_option linter.unusedVariables false

/-- what someLedger leaves -/
def SomeHd (w : World) (b : Nat) (P : Int) (e : Ending) (w' : World) : Prop := ∃ (v : Value) (k : Nat) (hs : List Hd), e = .returned v ∧ 1 ≤ k ∧ k ≤ 6 ∧ w'.ownsRow w.heap.size 64 3 v k (valsH hs) ∧ hs.length = k ∧ Rd w' b (P + 13) ∧ w.grownBy w' (some b)

theorem sum_low : ∀ {zs : List Int}, (∀ z ∈ zs, 1 ≤ z ∧ z ≤ 6) → (zs.length : Int) ≤ zs.sum ∧ zs.sum ≤ 6 * (zs.length : Int) := by
  intro zs
  induction zs with
  | nil => intro _; exact ⟨Int.le_refl _, Int.le_refl _⟩
  | cons h t ih =>
    intro hz
    have a := hz h (List.mem_cons_self ..)
    have b := ih fun z hz' => hz z (List.mem_cons_of_mem _ hz')
    rw [List.sum_cons, List.length_cons]
    omega
theorem keepOne {W wq v : World} {u : Value} {q : Addr} (hb : Below W.heap.size W wq) (h : W.cell? q = some u ∧ Below v.heap.size v W) : wq.cell? q = some u ∧ Below v.heap.size v wq :=
  ⟨(hb.cell (World.block_lt_of_cell? W _ h.1)).trans h.1, bel_tr h.2 hb⟩
theorem c2_set {w : World} {g : Nat} {x y : Value} (h : Cell2 w g x y) (x' y' : Value) : Cell2 ((w.setCell ⟨g, 0, none⟩ x').setCell ⟨g, 1, none⟩ y') g x' y' := by
  obtain ⟨c0, c1, f0, f1, hz⟩ := h
  have hne : (⟨g, 1, none⟩ : Addr) ≠ ⟨g, 0, none⟩ := by intro e; injection e with _ e; cases e
  have hne2 : (⟨g, 0, none⟩ : Addr) ≠ ⟨g, 1, none⟩ := fun e => hne e.symm
  refine ⟨so hne ?_, ?_, ?_, ?_, by simpa [World.setCell] using hz⟩
  · exact World.cell?_setCell_same' _ _ _ (by rw [c0]; rfl)
  · exact World.cell?_setCell_same' _ _ _ (by rw [so hne2 c1]; rfl)
  · rw [World.frozen?_setCell, World.frozen?_setCell]; exact f0
  · rw [World.frozen?_setCell, World.frozen?_setCell]; exact f1
theorem keepOut {W v : World} {g h k : Nat} {u x : Value} (hb : Below v.heap.size v (W.setCell ⟨g, 0, none⟩ x)) (hg : v.heap.size ≤ g) (hgy : Value) (hne : h ≠ g) (hc : W.cell? ⟨h, k, none⟩ = some u) : ((W.setCell ⟨g, 0, none⟩ x).setCell ⟨g, 1, none⟩ hgy).cell? ⟨h, k, none⟩ = some u ∧ Below v.heap.size v ((W.setCell ⟨g, 0, none⟩ x).setCell ⟨g, 1, none⟩ hgy) :=
  ⟨so (fun e => hne (by injection e with e; exact e.symm)) (so (fun e => hne (by injection e with e; exact e.symm)) hc), hb.setCell hg _⟩
theorem own_lowerR {w : World} {base base' n size : Nat} {t : TypeId} {v : Value} {xs : List Value} (h : w.ownsRow base t size v n xs) (hb : base' ≤ base) : w.ownsRow base' t size v n xs := by
  obtain ⟨hl, h | ⟨g, cap, cur, hv, hg, r⟩⟩ := h
  · exact ⟨hl, .inl h⟩
  · exact ⟨hl, .inr ⟨g, cap, cur, hv, Nat.le_trans hb hg, r⟩⟩
theorem own_ints0 {w : World} {base g cp k : Nat} {zs : List Int} (h : w.ownsRow base 3 1 (.slice (some ⟨g, 0, none⟩) k cp) k (zs.map (Value.int .i64))) : IsInts w (some ⟨g, 0, none⟩) zs := by
  refine .inr ⟨g, 0, rfl, fun i hi => ?_⟩
  have := h.cells (g := g) rfl i (.int .i64 (zs.getD i 0)) (by rw [List.getElem?_map, List.getD_eq_getElem?_getD, List.getElem?_eq_getElem hi]; rfl)
  rwa [add_off] at this

set_option maxRecDepth 100000 in
set_option maxHeartbeats 4000000 in
theorem someHd (b : Nat) (P : Int) (w : World) (h : Rd w b P) (hP : P ≤ 80000) (hb : b < w.heap.size) :
    Calls Try.prog 85 #[.pointer (some ⟨b, 0, none⟩)] w (SomeHd w b P) := by
  obtain ⟨i0, hi, hz0, hz1, hz2⟩ := info_parts infoInt
  obtain ⟨j0, hj, hy0, hy1, hy2⟩ := info_parts infoH
  go_enter Try.func85, Try.ntmps85
  go_wp2_with fail
  refine (one_lit b 6 P 1 6 [3, 4, 2, 5, 1, 6] _ w h (by omega) hb rfl (by omega) (by omega) (by simp)).mono ?_
  rintro e w0 ⟨m, rfl, m0, m1, hR0, hG0⟩
  have hb0 := Nat.lt_of_lt_of_le hb hG0.size
  go_wp2_with fail
  have hO : (w0.alloc (.cells #[] 3)).ownsRow w0.heap.size 3 1 (.slice (some ⟨w0.heap.size, 0, none⟩) 0 0) 0 [] := ⟨by simp, .inr ⟨w0.heap.size, 0, #[], rfl, Nat.le_refl _, Go.Deep.blk_alloc_new _ _, Nat.le_refl _, by unfold maxLen; omega, rfl, rfl⟩⟩
  have HO := Lib.hid hO
  have HR := Lib.hid (rd_alloc hR0 hb0 (.cells #[] 3))
  have HG := Lib.hid (g_trans hG0 (World.grownBy_alloc w0 (.cells #[] 3) (some b)))
  have hsz0 := hG0.size
  clear hO h hR0 hG0
  have hs1 : w0.heap.size < (w0.alloc (.cells #[] 3)).heap.size := by simp
  generalize w0.alloc (.cells #[] 3) = w1 at *
  have hb1 : b < w1.heap.size := by have := HG.out.size; omega
  go_loopw [4, 5] (fun v l wr => ∃ (k : Nat) (xs : List Int), (k : Int) ≤ m ∧ l = .int .i64 (k : Int) ∧ wr.ownsRow w0.heap.size 3 1 v k (xs.map (Value.int .i64)) ∧ xs.length = k ∧ (∀ z ∈ xs, 1 ≤ z ∧ z ≤ 6) ∧ Rd wr b (P + 1 + (k : Int)) ∧ w.grownBy wr (some b) ∧ w0.heap.size < wr.heap.size) (fun _ l _ => (m - intOf l).toNat)
  case atStart => exact ⟨0, [], by omega, rfl, HO.out, rfl, by simp, by simpa using HR.out, HG.out, hs1⟩
  case round =>
    obtain ⟨k, xs, hk, rfl, hown, hxl, hxs, hR, hG, hsz⟩ := hrel
    by_cases hlt : (k : Int) < m
    · have HX := Lib.hid (And.intro hxl hxs)
      have HO := Lib.hid hown
      have HG := Lib.hid hG
      have HR := Lib.hid hR
      clear hown hxl hxs hG hR
      go_wp2_with fail
      have hbr : b < wr.heap.size := by omega
      refine (pick_any b _ 6 _ HR.out (by omega)).mono ?_
      rintro e w3 ⟨v, rfl, hv, hR3, hG3⟩
      have hb3 := Nat.lt_of_lt_of_le hbr hG3.size
      have hv6 : (v : Int) < 6 := by omega
      clear hv
      have hO3 := HO.out.kept hG3 (.inr (by intro h; have := (HO.out.lt b h).1; omega))
      have G3 := g_trans HG.out hG3
      have hs3 : w0.heap.size < w3.heap.size := by have := hG3.size; omega
      have hs3' : w.heap.size ≤ w3.heap.size := G3.size
      have wv : IntKind.i64.wrap (1 + (v : Int)) = 1 + (v : Int) := by rw [IntKind.wrap_i64]; omega
      have HO3 := Lib.hid hO3
      have HR3 := Lib.hid hR3
      have HG3 := Lib.hid G3
      clear hG3 HO HR HG hO3 hR3 G3
      go_wp2_with (first | (at_builtin; refine wpList_append_own _ rfl (.tmp 20) (.tmp 24) 87 rfl w0.heap.size 3 i0 (.int .i64 0) 1 8 Try.underlying87 hi hz0 hz1 hz2 rfl (by decide) _ _ _ rfl (HO3.out.alloc _) ⟨w3.heap.size, 0, none⟩ 1 1 [.int .i64 (1 + (v : Int))] rfl rfl (cell_one_new _ _ _) (fun x hx => by simp at hx; subst hx; rfl) (by unfold maxLen; omega) (by omega) (by simp; omega) ?_; intro v' w5 hown' hgrow5 hnil5))
      have hB5 : Below w.heap.size w3 w5 := ((Below.refl _ w3).alloc hs3' _).grown hgrow5 (by simp; omega) (fun q hq => by have := (HO3.out.lt q hq).1; omega)
      clear hgrow5 hnil5
      obtain ⟨R5, G5⟩ := rd_end (P := P + 1 + ((k + 1 : Nat) : Int)) hb (rd_up (P' := P + 1 + ((k + 1 : Nat) : Int)) HR3.out (by omega)) rfl HG3.out hB5
      refine ⟨⟨k + 1, xs ++ [1 + (v : Int)], by omega, by go_num, ?_, by simp [HX.out.1], fun z hz => ?_, R5, G5, by have := hB5.size; omega⟩, by simp [intOf]; omega⟩
      · rw [List.map_append]; exact hown'
      · rcases List.mem_append.1 hz with h | h
        · exact HX.out.2 z h
        · simp at h; omega
    · have e : (k : Int) = m := by omega
      subst hxl
      subst e
      obtain ⟨g, cp, rfl, lg, ltg⟩ := hown.form (by omega)
      have HW := Lib.hid hown
      have HXB := Lib.hid (fun z hz => (by have := hxs z hz; omega : (-1000000 : Int) ≤ z ∧ z ≤ 1000000))
      have HX6 := Lib.hid hxs
      have hsum := sum_low hxs
      have hbA : b < wr.heap.size := by omega
      have GA := Lib.hid hG
      have RA := Lib.hid hR
      clear hown hxs HO HR HG hG hR
      go_wp2_with fail
      have hOh : (wr.alloc (.cells #[] 64)).ownsRow wr.heap.size 64 3 (.slice (some ⟨wr.heap.size, 0, none⟩) 0 0) 0 [] := ⟨by simp, .inr ⟨wr.heap.size, 0, #[], rfl, Nat.le_refl _, Go.Deep.blk_alloc_new _ _, Nat.le_refl _, by unfold maxLen; omega, rfl, rfl⟩⟩
      have hRh := rd_alloc RA.out hbA (.cells #[] 64)
      have hGh := World.grownBy_alloc wr (.cells #[] 64) (some b)
      have hsh : wr.heap.size < (wr.alloc (.cells #[] 64)).heap.size := by simp
      obtain ⟨A, hAe⟩ : ∃ A, A = wr := ⟨_, rfl⟩
      subst hAe
      generalize A.alloc (.cells #[] 64) = A1 at hOh hRh hGh hsh ⊢
      go_loopw [6, 7, 8] (fun v ow l wr => ∃ (k2 : Nat) (hs : List Hd) (o : Int), k2 ≤ xs.length ∧ l = .int .i64 (k2 : Int) ∧ ow = .int .i64 o ∧ 0 ≤ o ∧ o ≤ 3 * (k2 : Int) ∧ wr.ownsRow A.heap.size 64 3 v k2 (valsH hs) ∧ hs.length = k2 ∧ Rd wr b (P + 1 + (xs.length : Int) + (k2 : Int)) ∧ A.grownBy wr (some b) ∧ A.heap.size < wr.heap.size) (fun _ _ l _ => ((xs.length : Int) - intOf l).toNat)
      case atStart => exact ⟨0, [], 0, by omega, rfl, rfl, by omega, by omega, hOh, rfl, by simpa using hRh, hGh, hsh⟩
      case round =>
        clear hOh hRh hGh hsh
        obtain ⟨k2, hs, o, hk2, rfl, rfl, o0, o1, hown, hhl, hR, hG, hsz⟩ := hrel
        by_cases hlt2 : k2 < xs.length
        · have HHL := Lib.hid hhl
          have HO := Lib.hid hown
          have HG := Lib.hid hG
          have HR := Lib.hid hR
          clear hown hhl hG hR
          have w1o : IntKind.i64.wrap (o + 1) = o + 1 := by rw [IntKind.wrap_i64]; omega
          go_wp2_with fail
          have hbr : b < wr.heap.size := by omega
          refine (pick_any b _ 3 _ HR.out (by omega)).mono ?_
          rintro e w3 ⟨v3, rfl, hv, hR3, hG3⟩
          have hb3 := Nat.lt_of_lt_of_le hbr hG3.size
          have hv6 : (v3 : Int) < 3 := by omega
          clear hv
          have HO3 := Lib.hid (HO.out.kept hG3 (.inr (by intro h; have := (HO.out.lt b h).1; omega)))
          have HG3 := Lib.hid (g_trans HG.out hG3)
          have HR3 := Lib.hid hR3
          have hs3 : A.heap.size < w3.heap.size := by have := hG3.size; omega
          have hW3 := HW.out.kept HG3.out (.inr (by simp [Value.ownBlock]; omega))
          have HIW := Lib.hid (own_ints0 hW3)
          have c0 : w3.cell? ⟨g, k2, none⟩ = some (.int .i64 (xs.getD k2 0)) := by
            have := hW3.cells (g := g) rfl k2 (.int .i64 (xs.getD k2 0)) (by rw [List.getElem?_map, List.getD_eq_getElem?_getD, List.getElem?_eq_getElem hlt2]; rfl)
            rwa [add_off, Nat.zero_add] at this
          have hx6 := HX6.out (xs.getD k2 0) (by rw [List.getD_eq_getElem?_getD, List.getElem?_eq_getElem hlt2]; exact List.getElem_mem _)
          generalize xs.getD k2 0 = x at c0 hx6
          have w2o : IntKind.i64.wrap (o + 1 + (v3 : Int)) = o + 1 + (v3 : Int) := by rw [IntKind.wrap_i64]; omega
          have k0 : (0 : Int) ≤ (k2 : Int) := by omega
          have k1 : (k2 : Int) < (xs.length : Int) := by omega
          clear hG3 hR3 HO HR HG hW3
          go_wp2_with fail
          refine wp_region_held_drew (S := (fun w' => w'.cell? ⟨g, k2, none⟩ = some (.int .i64 x) ∧ Below w3.heap.size w3 w')) (by kernel_rfl) ?_ (fun hHeld => ?_)
          · exact ⟨c0, (Below.refl _ _).drew⟩
          refine wpAnyH_take (i := 0) (oi := ?oot1) (v := ?vvt1) ?hit1 (by kernel_rfl) ?h3t1 ?h4t1 ?h5t1 ?h6t1 (by assumption) ?h8t1
          case hit1 => (simp only [List.getElem?_toArray, List.getElem?_cons_succ, List.getElem?_cons_zero]; rfl)
          case h3t1 => kernel_rfl
          case h4t1 => kernel_rfl
          case h6t1 => (refine Or.inl ⟨by rfl, ?_⟩; intro w hSw; (try dsimp only at hSw); (go_simp <;> with_reducible rfl))
          case h5t1 => exact fun _ _ _ h => h
          try simp only [Act.put, List.setIfInBounds_toArray, List.set_cons_zero, List.set_cons_succ]
          refine wpAnyH_take (i := 1) (oi := ?oot2) (v := ?vvt2) ?hit2 (by kernel_rfl) ?h3t2 ?h4t2 ?h5t2 ?h6t2 (by assumption) ?h8t2
          case hit2 => (simp only [List.getElem?_toArray, List.getElem?_cons_succ, List.getElem?_cons_zero]; rfl)
          case h3t2 => kernel_rfl
          case h4t2 => kernel_rfl
          case h6t2 => (refine Or.inl ⟨by rfl, ?_⟩; intro w hSw; (try dsimp only at hSw); (go_simp <;> with_reducible rfl))
          case h5t2 => exact fun _ _ _ h => h
          try simp only [Act.put, List.setIfInBounds_toArray, List.set_cons_zero, List.set_cons_succ]
          refine wpAnyH_take (i := 2) (oi := ?oot3) (v := ?vvt3) ?hit3 (by kernel_rfl) ?h3t3 ?h4t3 ?h5t3 ?h6t3 (by assumption) ?h8t3
          case hit3 => (simp only [List.getElem?_toArray, List.getElem?_cons_succ, List.getElem?_cons_zero]; rfl)
          case h3t3 => kernel_rfl
          case h4t3 => kernel_rfl
          case h6t3 => (refine Or.inl ⟨by rfl, ?_⟩; intro w hSw; (try dsimp only at hSw); (go_simp <;> with_reducible rfl))
          case h5t3 => exact fun _ _ _ h => h
          try simp only [Act.put, List.setIfInBounds_toArray, List.set_cons_zero, List.set_cons_succ]
          refine wpAnyH_take (i := 3) (oi := ?oot4) (v := ?vvt4) ?hit4 (by kernel_rfl) ?h3t4 ?h4t4 ?h5t4 ?h6t4 (by assumption) ?h8t4
          case hit4 => (simp only [List.getElem?_toArray, List.getElem?_cons_succ, List.getElem?_cons_zero]; rfl)
          case h3t4 => kernel_rfl
          case h4t4 => kernel_rfl
          case h6t4 => (refine Or.inl ⟨by rfl, ?_⟩; intro w hSw; (try dsimp only at hSw); (go_simp <;> with_reducible rfl))
          case h5t4 => exact fun _ _ _ h => h
          try simp only [Act.put, List.setIfInBounds_toArray, List.set_cons_zero, List.set_cons_succ]
          refine wpAnyH_take (i := 4) (oi := ?oot5) (v := ?vvt5) ?hit5 (by kernel_rfl) ?h3t5 ?h4t5 ?h5t5 ?h6t5 (by assumption) ?h8t5
          case hit5 => (simp only [List.getElem?_toArray, List.getElem?_cons_succ, List.getElem?_cons_zero]; rfl)
          case h3t5 => kernel_rfl
          case h4t5 => kernel_rfl
          case h6t5 => (refine Or.inl ⟨by rfl, ?_⟩; intro w hSw; (try dsimp only at hSw); (go_simp <;> with_reducible rfl))
          case h5t5 => exact fun _ _ _ h => h
          try simp only [Act.put, List.setIfInBounds_toArray, List.set_cons_zero, List.set_cons_succ]
          refine wpAnyH_ready (rs := [5, 10]) (by kernel_rfl) (by simp) (AllReadyH.cons (o := ?oot6q0) ?hit6q0 (fun K hK => ?hkt6q0) (AllReadyH.cons (o := ?oot6q1) ?hit6q1 (fun K hK => ?hkt6q1) AllReadyH.nil))
          case hit6q0 => (simp only [List.getElem?_toArray, List.getElem?_cons_succ, List.getElem?_cons_zero]; rfl)
          case hit6q1 => (simp only [List.getElem?_toArray, List.getElem?_cons_succ, List.getElem?_cons_zero]; rfl)
          case hkt6q0 =>
            (rw [if_pos (by rfl)]; go_simp; refine (stotal (some ⟨g, 0, none⟩) cp xs _ (ints_below HIW.out hHeld.2) (by omega) HXB.out).mono ?_; rintro e W5 ⟨rfl, rfl⟩; go_wp2_with fail; refine hK.out _ _ (hHeld) (fun hHeld => ?_); clear hK K)
            try simp only [Act.put, List.setIfInBounds_toArray, List.set_cons_zero, List.set_cons_succ]
            refine wpAnyH_ready (rs := [6, 10]) (by kernel_rfl) (by simp) (AllReadyH.cons (o := ?oot7q0) ?hit7q0 (fun K hK => ?hkt7q0) (AllReadyH.cons (o := ?oot7q1) ?hit7q1 (fun K hK => ?hkt7q1) AllReadyH.nil))
            case hit7q0 => (simp only [List.getElem?_toArray, List.getElem?_cons_succ, List.getElem?_cons_zero]; rfl)
            case hit7q1 => (simp only [List.getElem?_toArray, List.getElem?_cons_succ, List.getElem?_cons_zero]; rfl)
            case hkt7q0 =>
              (rw [if_pos (by rfl)]; go_simp; refine (sred x xs.sum _ (by omega) (by omega) (by omega) (by omega)).mono ?_; rintro e W6 ⟨rfl, hb6⟩; obtain ⟨fn, fd, fb, hfr⟩ : ∃ n d b, frV (Wsh.redB x xs.sum) (Wsh.rn x xs.sum) (Wsh.rd x xs.sum) = .tuple #[.agg #[.int .i64 n, .int .i64 d], .bool b] := ⟨_, _, _, rfl⟩; rw [hfr]; go_wp2_with fail; refine hK.out _ _ (keepOne hb6 hHeld) (fun hHeld => ?_); clear hK K)
              try simp only [Act.put, List.setIfInBounds_toArray, List.set_cons_zero, List.set_cons_succ]
              refine wpAnyH_take (i := 7) (oi := ?oot8) (v := ?vvt8) ?hit8 (by kernel_rfl) ?h3t8 ?h4t8 ?h5t8 ?h6t8 (by assumption) ?h8t8
              case hit8 => (simp only [List.getElem?_toArray, List.getElem?_cons_succ, List.getElem?_cons_zero]; rfl)
              case h3t8 => kernel_rfl
              case h4t8 => kernel_rfl
              case h6t8 => (refine Or.inl ⟨by rfl, ?_⟩; intro w hSw; (try dsimp only at hSw); (go_simp <;> with_reducible rfl))
              case h5t8 => exact fun _ _ _ h => h
              try simp only [Act.put, List.setIfInBounds_toArray, List.set_cons_zero, List.set_cons_succ]
              refine wpAnyH_take (i := 8) (oi := ?oot9) (v := ?vvt9) ?hit9 (by kernel_rfl) ?h3t9 ?h4t9 ?h5t9 ?h6t9 (by assumption) ?h8t9
              case hit9 => (simp only [List.getElem?_toArray, List.getElem?_cons_succ, List.getElem?_cons_zero]; rfl)
              case h3t9 => kernel_rfl
              case h4t9 => kernel_rfl
              case h6t9 => (refine Or.inl ⟨by rfl, ?_⟩; intro w hSw; (try dsimp only at hSw); (go_simp <;> with_reducible rfl))
              case h5t9 => exact fun _ _ _ h => h
              try simp only [Act.put, List.setIfInBounds_toArray, List.set_cons_zero, List.set_cons_succ]
              refine wpAnyH_take (i := 9) (oi := ?oot10) (v := ?vvt10) ?hit10 (by kernel_rfl) ?h3t10 ?h4t10 ?h5t10 ?h6t10 (by assumption) ?h8t10
              case hit10 => (simp only [List.getElem?_toArray, List.getElem?_cons_succ, List.getElem?_cons_zero]; rfl)
              case h3t10 => kernel_rfl
              case h4t10 => kernel_rfl
              case h6t10 => (refine Or.inl ⟨by rfl, ?_⟩; intro w hSw; (try dsimp only at hSw); (go_simp <;> with_reducible rfl))
              case h5t10 => exact fun _ _ _ h => h
              try simp only [Act.put, List.setIfInBounds_toArray, List.set_cons_zero, List.set_cons_succ]
              refine wpAnyH_ready (rs := [10]) (by kernel_rfl) (by simp) (AllReadyH.cons (o := ?oot11) ?hit11 (fun K hK => ?hkt11) AllReadyH.nil)
              rotate_left
              case hit11 => (simp only [List.getElem?_toArray, List.getElem?_cons_succ, List.getElem?_cons_zero]; rfl)
              (rw [if_pos (by rfl)]; go_simp; have F7 := Lib.hid (c2_new W6 (.int .i64 0) (.int .i64 0) 46); have E7 := keepOne ((Below.refl _ W6).alloc (Nat.le_refl _) (.cells #[.int .i64 0, .int .i64 0] 46)) hHeld; have L6 := hHeld.2.size; generalize W6.alloc (.cells #[.int .i64 0, .int .i64 0] 46) = W7 at F7 E7 ⊢; generalize W6.heap.size = gf at F7 L6 ⊢; refine hK.out _ _ (E7) (fun hHeld => ?_); clear hK K)
              try simp only [Act.put, List.setIfInBounds_toArray, List.set_cons_zero, List.set_cons_succ]
              refine wpAnyH_ready (rs := [11]) (by kernel_rfl) (by simp) (AllReadyH.cons (o := ?oot12) ?hit12 (fun K hK => ?hkt12) AllReadyH.nil)
              rotate_left
              case hit12 => (simp only [List.getElem?_toArray, List.getElem?_cons_succ, List.getElem?_cons_zero]; rfl)
              (rw [if_pos (by rfl)]; obtain ⟨fc0, fc1, ff0, ff1, fz⟩ := F7.out; go_simp; have F8 := Lib.hid (c2_set F7.out (.int .i64 fn) (.int .i64 fd)); have E8 := keepOut (hHeld.2.setCell (p := ⟨gf, 0, none⟩) L6 (.int .i64 fn)) L6 (.int .i64 fd) (by omega) hHeld.1; generalize World.setCell (World.setCell _ ⟨gf, 0, none⟩ (.int .i64 fn)) ⟨gf, 1, none⟩ (.int .i64 fd) = W8 at F8 E8 ⊢; clear fc0 fc1 ff0 ff1 fz F7; refine hK.out _ _ (E8) (fun hHeld => ?_); clear hK K)
              try simp only [Act.put, List.setIfInBounds_toArray, List.set_cons_zero, List.set_cons_succ]
              refine wpAnyH_take (i := 12) (oi := ?oot13) (v := ?vvt13) ?hit13 (by kernel_rfl) ?h3t13 ?h4t13 ?h5t13 ?h6t13 (by assumption) ?h8t13
              case hit13 => (simp only [List.getElem?_toArray, List.getElem?_cons_succ, List.getElem?_cons_zero]; rfl)
              case h3t13 => kernel_rfl
              case h4t13 => kernel_rfl
              case h6t13 => (refine Or.inl ⟨by rfl, ?_⟩; intro w hSw; (try dsimp only at hSw); (go_simp <;> with_reducible rfl))
              case h5t13 => exact fun _ _ _ h => h
              try simp only [Act.put, List.setIfInBounds_toArray, List.set_cons_zero, List.set_cons_succ]
              refine wpAnyH_done (by kernel_rfl) ?_ _
              obtain ⟨fc0, fc1, ff0, ff1, fz⟩ := F8.out
              have hB8 : Below w3.heap.size w3 W8 := E8.2
              have hO8 : W8.ownsRow A.heap.size 64 3 u6 k2 (valsH hs) := HO3.out.kept (g_below hB8 (some b)) (.inr (by intro h; have := (HO3.out.lt b h).1; omega))
              have HO8 := Lib.hid hO8
              have HB8 := Lib.hid hB8
              have hs8 : A.heap.size ≤ W8.heap.size := by have := hB8.size; omega
              clear hHeld hO8 hB8 E8 HIW c0
              go_wp2_with (first | (at_builtin; refine wpList_append_own _ rfl (.tmp 47) (.tmp 51) _ rfl A.heap.size 64 j0 _ 3 24 Try.underlying26 hj hy0 hy1 hy2 rfl (by decide) _ _ _ rfl (HO8.out.alloc _) ⟨W8.heap.size, 0, none⟩ 1 1 [.int .i64 (o + 1 + (v3 : Int)), .int .i64 fn, .int .i64 fd] rfl rfl (new_cells W8 _ _) (vals_one [(o + 1 + (v3 : Int), fn, fd)]) (by unfold maxLen; omega) (by omega) (by simp; omega) ?_; intro v' W9 hown' hgrow9 hnil9))
              have hB9 : Below A.heap.size W8 W9 := ((Below.refl _ W8).alloc hs8 _).grown hgrow9 (by simp; omega) (fun q hq => (HO8.out.lt q hq).1)
              have hG8 := g_trans HG3.out (g_below HB8.out (some b))
              obtain ⟨R9, G9⟩ := rd_end (P := P + 1 + (xs.length : Int) + ((k2 + 1 : Nat) : Int)) hbA (rd_up (P' := P + 1 + (xs.length : Int) + ((k2 + 1 : Nat) : Int)) (rd_below HR3.out hb3 HB8.out) (by omega)) rfl hG8 hB9
              refine ⟨⟨k2 + 1, hs ++ [(o + 1 + (v3 : Int), fn, fd)], o + 1 + (v3 : Int), by omega, by go_num, rfl, by omega, by omega, ?_, by simp [HHL.out], R9, G9, by have := hB9.size; omega⟩, by simp [intOf]; omega⟩
              rw [vals_append]; exact hown'
            case hkt7q1 =>
              (rw [if_pos (by rfl)]; go_simp; have F7 : Hid (Cell2 (w3.alloc (.cells #[.int .i64 0, .int .i64 0] 46)).drew w3.heap.size (.int .i64 0) (.int .i64 0)) := c2_new w3 (.int .i64 0) (.int .i64 0) 46; have E7 : (w3.alloc (.cells #[.int .i64 0, .int .i64 0] 46)).drew.cell? ⟨g, k2, none⟩ = some (.int .i64 x) ∧ Below w3.heap.size w3 (w3.alloc (.cells #[.int .i64 0, .int .i64 0] 46)).drew := ⟨(keepOne ((Below.refl _ w3).alloc (Nat.le_refl _) (.cells #[.int .i64 0, .int .i64 0] 46)) (And.intro c0 (Below.refl _ w3))).1, ((Below.refl _ w3).alloc (Nat.le_refl _) (.cells #[.int .i64 0, .int .i64 0] 46)).drew⟩; have L6 : w3.heap.size ≤ w3.heap.size := Nat.le_refl _; generalize (w3.alloc (.cells #[.int .i64 0, .int .i64 0] 46)).drew = W7 at F7 E7 ⊢; obtain ⟨gf, hgf⟩ : ∃ gf, gf = w3.heap.size := ⟨_, rfl⟩; rw [← hgf] at F7 ⊢; replace L6 : w3.heap.size ≤ gf := (by omega); clear hgf; refine hK.out _ _ (E7) (fun hHeld => ?_); clear hK K)
              try simp only [Act.put, List.setIfInBounds_toArray, List.set_cons_zero, List.set_cons_succ]
              refine wpAnyH_ready (rs := [6]) (by kernel_rfl) (by simp) (AllReadyH.cons (o := ?oot15) ?hit15 (fun K hK => ?hkt15) AllReadyH.nil)
              rotate_left
              case hit15 => (simp only [List.getElem?_toArray, List.getElem?_cons_succ, List.getElem?_cons_zero]; rfl)
              (rw [if_pos (by rfl)]; go_simp; refine (sred x xs.sum _ (by omega) (by omega) (by omega) (by omega)).mono ?_; rintro e W6 ⟨rfl, hb6⟩; obtain ⟨fn, fd, fb, hfr⟩ : ∃ n d b, frV (Wsh.redB x xs.sum) (Wsh.rn x xs.sum) (Wsh.rd x xs.sum) = .tuple #[.agg #[.int .i64 n, .int .i64 d], .bool b] := ⟨_, _, _, rfl⟩; rw [hfr]; replace F7 := Lib.hid (c2_below F7.out hb6); go_wp2_with fail; refine hK.out _ _ (keepOne hb6 hHeld) (fun hHeld => ?_); clear hK K)
              try simp only [Act.put, List.setIfInBounds_toArray, List.set_cons_zero, List.set_cons_succ]
              refine wpAnyH_take (i := 7) (oi := ?oot16) (v := ?vvt16) ?hit16 (by kernel_rfl) ?h3t16 ?h4t16 ?h5t16 ?h6t16 (by assumption) ?h8t16
              case hit16 => (simp only [List.getElem?_toArray, List.getElem?_cons_succ, List.getElem?_cons_zero]; rfl)
              case h3t16 => kernel_rfl
              case h4t16 => kernel_rfl
              case h6t16 => (refine Or.inl ⟨by rfl, ?_⟩; intro w hSw; (try dsimp only at hSw); (go_simp <;> with_reducible rfl))
              case h5t16 => exact fun _ _ _ h => h
              try simp only [Act.put, List.setIfInBounds_toArray, List.set_cons_zero, List.set_cons_succ]
              refine wpAnyH_take (i := 8) (oi := ?oot17) (v := ?vvt17) ?hit17 (by kernel_rfl) ?h3t17 ?h4t17 ?h5t17 ?h6t17 (by assumption) ?h8t17
              case hit17 => (simp only [List.getElem?_toArray, List.getElem?_cons_succ, List.getElem?_cons_zero]; rfl)
              case h3t17 => kernel_rfl
              case h4t17 => kernel_rfl
              case h6t17 => (refine Or.inl ⟨by rfl, ?_⟩; intro w hSw; (try dsimp only at hSw); (go_simp <;> with_reducible rfl))
              case h5t17 => exact fun _ _ _ h => h
              try simp only [Act.put, List.setIfInBounds_toArray, List.set_cons_zero, List.set_cons_succ]
              refine wpAnyH_take (i := 9) (oi := ?oot18) (v := ?vvt18) ?hit18 (by kernel_rfl) ?h3t18 ?h4t18 ?h5t18 ?h6t18 (by assumption) ?h8t18
              case hit18 => (simp only [List.getElem?_toArray, List.getElem?_cons_succ, List.getElem?_cons_zero]; rfl)
              case h3t18 => kernel_rfl
              case h4t18 => kernel_rfl
              case h6t18 => (refine Or.inl ⟨by rfl, ?_⟩; intro w hSw; (try dsimp only at hSw); (go_simp <;> with_reducible rfl))
              case h5t18 => exact fun _ _ _ h => h
              try simp only [Act.put, List.setIfInBounds_toArray, List.set_cons_zero, List.set_cons_succ]
              refine wpAnyH_ready (rs := [11]) (by kernel_rfl) (by simp) (AllReadyH.cons (o := ?oot19) ?hit19 (fun K hK => ?hkt19) AllReadyH.nil)
              rotate_left
              case hit19 => (simp only [List.getElem?_toArray, List.getElem?_cons_succ, List.getElem?_cons_zero]; rfl)
              (rw [if_pos (by rfl)]; obtain ⟨fc0, fc1, ff0, ff1, fz⟩ := F7.out; go_simp; have F8 := Lib.hid (c2_set F7.out (.int .i64 fn) (.int .i64 fd)); have E8 := keepOut (hHeld.2.setCell (p := ⟨gf, 0, none⟩) L6 (.int .i64 fn)) L6 (.int .i64 fd) (by omega) hHeld.1; generalize World.setCell (World.setCell _ ⟨gf, 0, none⟩ (.int .i64 fn)) ⟨gf, 1, none⟩ (.int .i64 fd) = W8 at F8 E8 ⊢; clear fc0 fc1 ff0 ff1 fz F7; refine hK.out _ _ (E8) (fun hHeld => ?_); clear hK K)
              try simp only [Act.put, List.setIfInBounds_toArray, List.set_cons_zero, List.set_cons_succ]
              refine wpAnyH_take (i := 12) (oi := ?oot20) (v := ?vvt20) ?hit20 (by kernel_rfl) ?h3t20 ?h4t20 ?h5t20 ?h6t20 (by assumption) ?h8t20
              case hit20 => (simp only [List.getElem?_toArray, List.getElem?_cons_succ, List.getElem?_cons_zero]; rfl)
              case h3t20 => kernel_rfl
              case h4t20 => kernel_rfl
              case h6t20 => (refine Or.inl ⟨by rfl, ?_⟩; intro w hSw; (try dsimp only at hSw); (go_simp <;> with_reducible rfl))
              case h5t20 => exact fun _ _ _ h => h
              try simp only [Act.put, List.setIfInBounds_toArray, List.set_cons_zero, List.set_cons_succ]
              refine wpAnyH_done (by kernel_rfl) ?_ _
              obtain ⟨fc0, fc1, ff0, ff1, fz⟩ := F8.out
              have hB8 : Below w3.heap.size w3 W8 := E8.2
              have hO8 : W8.ownsRow A.heap.size 64 3 u6 k2 (valsH hs) := HO3.out.kept (g_below hB8 (some b)) (.inr (by intro h; have := (HO3.out.lt b h).1; omega))
              have HO8 := Lib.hid hO8
              have HB8 := Lib.hid hB8
              have hs8 : A.heap.size ≤ W8.heap.size := by have := hB8.size; omega
              clear hHeld hO8 hB8 E8 HIW c0
              go_wp2_with (first | (at_builtin; refine wpList_append_own _ rfl (.tmp 47) (.tmp 51) _ rfl A.heap.size 64 j0 _ 3 24 Try.underlying26 hj hy0 hy1 hy2 rfl (by decide) _ _ _ rfl (HO8.out.alloc _) ⟨W8.heap.size, 0, none⟩ 1 1 [.int .i64 (o + 1 + (v3 : Int)), .int .i64 fn, .int .i64 fd] rfl rfl (new_cells W8 _ _) (vals_one [(o + 1 + (v3 : Int), fn, fd)]) (by unfold maxLen; omega) (by omega) (by simp; omega) ?_; intro v' W9 hown' hgrow9 hnil9))
              have hB9 : Below A.heap.size W8 W9 := ((Below.refl _ W8).alloc hs8 _).grown hgrow9 (by simp; omega) (fun q hq => (HO8.out.lt q hq).1)
              have hG8 := g_trans HG3.out (g_below HB8.out (some b))
              obtain ⟨R9, G9⟩ := rd_end (P := P + 1 + (xs.length : Int) + ((k2 + 1 : Nat) : Int)) hbA (rd_up (P' := P + 1 + (xs.length : Int) + ((k2 + 1 : Nat) : Int)) (rd_below HR3.out hb3 HB8.out) (by omega)) rfl hG8 hB9
              refine ⟨⟨k2 + 1, hs ++ [(o + 1 + (v3 : Int), fn, fd)], o + 1 + (v3 : Int), by omega, by go_num, rfl, by omega, by omega, ?_, by simp [HHL.out], R9, G9, by have := hB9.size; omega⟩, by simp [intOf]; omega⟩
              rw [vals_append]; exact hown'
          case hkt6q1 =>
            (rw [if_pos (by rfl)]; go_simp; have F7 : Hid (Cell2 (w3.alloc (.cells #[.int .i64 0, .int .i64 0] 46)).drew w3.heap.size (.int .i64 0) (.int .i64 0)) := c2_new w3 (.int .i64 0) (.int .i64 0) 46; have E7 : (w3.alloc (.cells #[.int .i64 0, .int .i64 0] 46)).drew.cell? ⟨g, k2, none⟩ = some (.int .i64 x) ∧ Below w3.heap.size w3 (w3.alloc (.cells #[.int .i64 0, .int .i64 0] 46)).drew := ⟨(keepOne ((Below.refl _ w3).alloc (Nat.le_refl _) (.cells #[.int .i64 0, .int .i64 0] 46)) (And.intro c0 (Below.refl _ w3))).1, ((Below.refl _ w3).alloc (Nat.le_refl _) (.cells #[.int .i64 0, .int .i64 0] 46)).drew⟩; have L6 : w3.heap.size ≤ w3.heap.size := Nat.le_refl _; generalize (w3.alloc (.cells #[.int .i64 0, .int .i64 0] 46)).drew = W7 at F7 E7 ⊢; obtain ⟨gf, hgf⟩ : ∃ gf, gf = w3.heap.size := ⟨_, rfl⟩; rw [← hgf] at F7 ⊢; replace L6 : w3.heap.size ≤ gf := (by omega); clear hgf; refine hK.out _ _ (E7) (fun hHeld => ?_); clear hK K)
            try simp only [Act.put, List.setIfInBounds_toArray, List.set_cons_zero, List.set_cons_succ]
            refine wpAnyH_ready (rs := [5]) (by kernel_rfl) (by simp) (AllReadyH.cons (o := ?oot22) ?hit22 (fun K hK => ?hkt22) AllReadyH.nil)
            rotate_left
            case hit22 => (simp only [List.getElem?_toArray, List.getElem?_cons_succ, List.getElem?_cons_zero]; rfl)
            (rw [if_pos (by rfl)]; go_simp; refine (stotal (some ⟨g, 0, none⟩) cp xs _ (ints_below HIW.out hHeld.2) (by omega) HXB.out).mono ?_; rintro e W5 ⟨rfl, rfl⟩; go_wp2_with fail; refine hK.out _ _ (hHeld) (fun hHeld => ?_); clear hK K)
            try simp only [Act.put, List.setIfInBounds_toArray, List.set_cons_zero, List.set_cons_succ]
            refine wpAnyH_ready (rs := [6]) (by kernel_rfl) (by simp) (AllReadyH.cons (o := ?oot23) ?hit23 (fun K hK => ?hkt23) AllReadyH.nil)
            rotate_left
            case hit23 => (simp only [List.getElem?_toArray, List.getElem?_cons_succ, List.getElem?_cons_zero]; rfl)
            (rw [if_pos (by rfl)]; go_simp; refine (sred x xs.sum _ (by omega) (by omega) (by omega) (by omega)).mono ?_; rintro e W6 ⟨rfl, hb6⟩; obtain ⟨fn, fd, fb, hfr⟩ : ∃ n d b, frV (Wsh.redB x xs.sum) (Wsh.rn x xs.sum) (Wsh.rd x xs.sum) = .tuple #[.agg #[.int .i64 n, .int .i64 d], .bool b] := ⟨_, _, _, rfl⟩; rw [hfr]; replace F7 := Lib.hid (c2_below F7.out hb6); go_wp2_with fail; refine hK.out _ _ (keepOne hb6 hHeld) (fun hHeld => ?_); clear hK K)
            try simp only [Act.put, List.setIfInBounds_toArray, List.set_cons_zero, List.set_cons_succ]
            refine wpAnyH_take (i := 7) (oi := ?oot24) (v := ?vvt24) ?hit24 (by kernel_rfl) ?h3t24 ?h4t24 ?h5t24 ?h6t24 (by assumption) ?h8t24
            case hit24 => (simp only [List.getElem?_toArray, List.getElem?_cons_succ, List.getElem?_cons_zero]; rfl)
            case h3t24 => kernel_rfl
            case h4t24 => kernel_rfl
            case h6t24 => (refine Or.inl ⟨by rfl, ?_⟩; intro w hSw; (try dsimp only at hSw); (go_simp <;> with_reducible rfl))
            case h5t24 => exact fun _ _ _ h => h
            try simp only [Act.put, List.setIfInBounds_toArray, List.set_cons_zero, List.set_cons_succ]
            refine wpAnyH_take (i := 8) (oi := ?oot25) (v := ?vvt25) ?hit25 (by kernel_rfl) ?h3t25 ?h4t25 ?h5t25 ?h6t25 (by assumption) ?h8t25
            case hit25 => (simp only [List.getElem?_toArray, List.getElem?_cons_succ, List.getElem?_cons_zero]; rfl)
            case h3t25 => kernel_rfl
            case h4t25 => kernel_rfl
            case h6t25 => (refine Or.inl ⟨by rfl, ?_⟩; intro w hSw; (try dsimp only at hSw); (go_simp <;> with_reducible rfl))
            case h5t25 => exact fun _ _ _ h => h
            try simp only [Act.put, List.setIfInBounds_toArray, List.set_cons_zero, List.set_cons_succ]
            refine wpAnyH_take (i := 9) (oi := ?oot26) (v := ?vvt26) ?hit26 (by kernel_rfl) ?h3t26 ?h4t26 ?h5t26 ?h6t26 (by assumption) ?h8t26
            case hit26 => (simp only [List.getElem?_toArray, List.getElem?_cons_succ, List.getElem?_cons_zero]; rfl)
            case h3t26 => kernel_rfl
            case h4t26 => kernel_rfl
            case h6t26 => (refine Or.inl ⟨by rfl, ?_⟩; intro w hSw; (try dsimp only at hSw); (go_simp <;> with_reducible rfl))
            case h5t26 => exact fun _ _ _ h => h
            try simp only [Act.put, List.setIfInBounds_toArray, List.set_cons_zero, List.set_cons_succ]
            refine wpAnyH_ready (rs := [11]) (by kernel_rfl) (by simp) (AllReadyH.cons (o := ?oot27) ?hit27 (fun K hK => ?hkt27) AllReadyH.nil)
            rotate_left
            case hit27 => (simp only [List.getElem?_toArray, List.getElem?_cons_succ, List.getElem?_cons_zero]; rfl)
            (rw [if_pos (by rfl)]; obtain ⟨fc0, fc1, ff0, ff1, fz⟩ := F7.out; go_simp; have F8 := Lib.hid (c2_set F7.out (.int .i64 fn) (.int .i64 fd)); have E8 := keepOut (hHeld.2.setCell (p := ⟨gf, 0, none⟩) L6 (.int .i64 fn)) L6 (.int .i64 fd) (by omega) hHeld.1; generalize World.setCell (World.setCell _ ⟨gf, 0, none⟩ (.int .i64 fn)) ⟨gf, 1, none⟩ (.int .i64 fd) = W8 at F8 E8 ⊢; clear fc0 fc1 ff0 ff1 fz F7; refine hK.out _ _ (E8) (fun hHeld => ?_); clear hK K)
            try simp only [Act.put, List.setIfInBounds_toArray, List.set_cons_zero, List.set_cons_succ]
            refine wpAnyH_take (i := 12) (oi := ?oot28) (v := ?vvt28) ?hit28 (by kernel_rfl) ?h3t28 ?h4t28 ?h5t28 ?h6t28 (by assumption) ?h8t28
            case hit28 => (simp only [List.getElem?_toArray, List.getElem?_cons_succ, List.getElem?_cons_zero]; rfl)
            case h3t28 => kernel_rfl
            case h4t28 => kernel_rfl
            case h6t28 => (refine Or.inl ⟨by rfl, ?_⟩; intro w hSw; (try dsimp only at hSw); (go_simp <;> with_reducible rfl))
            case h5t28 => exact fun _ _ _ h => h
            try simp only [Act.put, List.setIfInBounds_toArray, List.set_cons_zero, List.set_cons_succ]
            refine wpAnyH_done (by kernel_rfl) ?_ _
            obtain ⟨fc0, fc1, ff0, ff1, fz⟩ := F8.out
            have hB8 : Below w3.heap.size w3 W8 := E8.2
            have hO8 : W8.ownsRow A.heap.size 64 3 u6 k2 (valsH hs) := HO3.out.kept (g_below hB8 (some b)) (.inr (by intro h; have := (HO3.out.lt b h).1; omega))
            have HO8 := Lib.hid hO8
            have HB8 := Lib.hid hB8
            have hs8 : A.heap.size ≤ W8.heap.size := by have := hB8.size; omega
            clear hHeld hO8 hB8 E8 HIW c0
            go_wp2_with (first | (at_builtin; refine wpList_append_own _ rfl (.tmp 47) (.tmp 51) _ rfl A.heap.size 64 j0 _ 3 24 Try.underlying26 hj hy0 hy1 hy2 rfl (by decide) _ _ _ rfl (HO8.out.alloc _) ⟨W8.heap.size, 0, none⟩ 1 1 [.int .i64 (o + 1 + (v3 : Int)), .int .i64 fn, .int .i64 fd] rfl rfl (new_cells W8 _ _) (vals_one [(o + 1 + (v3 : Int), fn, fd)]) (by unfold maxLen; omega) (by omega) (by simp; omega) ?_; intro v' W9 hown' hgrow9 hnil9))
            have hB9 : Below A.heap.size W8 W9 := ((Below.refl _ W8).alloc hs8 _).grown hgrow9 (by simp; omega) (fun q hq => (HO8.out.lt q hq).1)
            have hG8 := g_trans HG3.out (g_below HB8.out (some b))
            obtain ⟨R9, G9⟩ := rd_end (P := P + 1 + (xs.length : Int) + ((k2 + 1 : Nat) : Int)) hbA (rd_up (P' := P + 1 + (xs.length : Int) + ((k2 + 1 : Nat) : Int)) (rd_below HR3.out hb3 HB8.out) (by omega)) rfl hG8 hB9
            refine ⟨⟨k2 + 1, hs ++ [(o + 1 + (v3 : Int), fn, fd)], o + 1 + (v3 : Int), by omega, by go_num, rfl, by omega, by omega, ?_, by simp [HHL.out], R9, G9, by have := hB9.size; omega⟩, by simp [intOf]; omega⟩
            rw [vals_append]; exact hown'
        · have ek : k2 = xs.length := by omega
          have HF := Lib.hid (g_trans GA.out hG)
          have HRR := Lib.hid (rd_up (P' := P + 13) hR (by omega))
          have hO0 := own_lowerR hown (Nat.le_of_lt (Nat.lt_of_le_of_lt hsz0 (by assumption)))
          clear hown hG hR
          go_wp2_with fail
          go_ret
          exact ⟨_, k2, hs, rfl, by omega, by omega, hO0, hhl, HRR.out, HF.out⟩
end Go.Proofs.Ythagafkjlecagab
