/- The lists of wishes that the laws draw. Condition: the reader has read at most 60000 numbers before. -/
import Derived.Test.YtdlbjmhjaljlfabDrawWa
namespace Go.Proofs.Ytdlbjmhjaljlfab
open Go.RowKit
set_option linter.unusedSimpArgs false
set_option linter.unusedVariables false
theorem own_anyW {w : World} {base k : Nat} {v : Value} {zs : List Int} (h : w.ownsRow base 3 1 v k (zs.map (Value.int .i64))) (hl : zs.length = k) : ∃ a cap, v = .slice a k cap ∧ k ≤ cap ∧ IsInts w a zs ∧ ∀ ad, a = some ad → base ≤ ad.block := by
  subst hl
  obtain ⟨hlen, h | ⟨g, cap, cur, hv, hg, r⟩⟩ := h
  · refine ⟨none, 0, ?_, ?_, .inl ?_, fun ad e => by cases e⟩
    · rw [h.1]; rw [h.2]
    · rw [h.2]; exact Nat.le_refl _
    · exact List.eq_nil_of_length_eq_zero h.2
  · subst hv
    refine ⟨_, cap, rfl, r.2.1, .inr ⟨g, 0, rfl, fun i hi => ?_⟩, fun ad e => by injection e with e; subst e; exact hg⟩
    have := World.ownsRow.cells (g := g) (show w.ownsRow base 3 1 (.slice (some ⟨g, 0, none⟩) zs.length cap) zs.length (zs.map (Value.int .i64)) from ⟨hlen, .inr ⟨g, cap, cur, rfl, hg, r⟩⟩) rfl i (.int .i64 (zs.getD i 0)) (by rw [List.getElem?_map, List.getD_eq_getElem?_getD, List.getElem?_eq_getElem hi]; rfl)
    rwa [add_off] at this
theorem row_facts {w5 w7 : World} {base base2 g cp u k rc : Nat} {ra : Option Addr} {v7 : Value} {xs ys : List Int} {O : Obj} {x : Int} (h5 : w5.ownsRow base 3 1 (.slice (some ⟨g, 0, none⟩) u cp) u (xs.map (Value.int .i64))) (hr : w5.ownsRow base2 3 1 (.slice ra k rc) k (ys.map (Value.int .i64))) (h7 : w7.ownsRow base 3 1 v7 (u + 1) (xs.map (Value.int .i64) ++ [.int .i64 x])) (g7 : (w5.alloc O).grownBy w7 (Value.ownBlock (.slice (some ⟨g, 0, none⟩) u cp))) (hb : base ≤ w5.heap.size) (hg : g < base2) :
    w7.ownsRow base 3 1 v7 (u + 1) ((xs ++ [x]).map (Value.int .i64)) ∧ Reads w7 w7.heap.size 1 ra k (ys.map (Value.int .i64)) ∧ Below base w5 w7 ∧ w5.heap.size ≤ w7.heap.size := by
  have hgg := (h5.lt g rfl)
  have hk : w7.ownsRow base2 3 1 (.slice ra k rc) k (ys.map (Value.int .i64)) := (hr.alloc O).kept g7 (.inr (fun e => by
    have := (hr.lt g e).1; omega))
  have hB : Below base w5 w7 := ((Below.refl base w5).alloc hb O).grown g7 (by simp; omega) (fun q hq => by
    have e : g = q := Option.some.inj hq
    omega)
  exact ⟨by rw [List.map_append]; exact h7, Reads.of_own hk, hB, hB.size⟩
theorem row_facts2 {w7 w9 : World} {base u k n : Nat} {v7 v9 : Value} {xs : List Int} {x : Int} (h7 : w7.ownsRow base 3 1 v7 (u + 1) ((xs.take u ++ [x]).map (Value.int .i64))) (h9 : w9.ownsRow base 3 1 v9 n ((xs.take u ++ [x]).map (Value.int .i64) ++ (xs.drop u).map (Value.int .i64))) (g9 : w7.grownBy w9 v7.ownBlock) (hn : n = u + 1 + (k - u)) (hu : u ≤ k) (hl : xs.length = k) (hb : base ≤ w7.heap.size) :
    (∃ ys : List Int, ys.length = k + 1 ∧ w9.ownsRow base 3 1 v9 (k + 1) (ys.map (Value.int .i64))) ∧ Below base w7 w9 := by
  have e : n = k + 1 := by omega
  subst e
  refine ⟨⟨xs.take u ++ [x] ++ xs.drop u, by simp [hl]; omega, by rw [List.map_append]; exact h9⟩, (Below.refl base w7).grown g9 hb (fun q hq => (h7.lt q hq).1)⟩

def RowOk (W : World) (lo b n : Nat) (v : Value) (ob : Option Nat) : Prop := ∃ xs : List Int, xs.length = n ∧ W.ownsRow lo 3 1 v n (xs.map (Value.int .i64)) ∧ v.ownBlock ≠ some b ∧ v.ownBlock ≠ ob
def SomeWs (w : World) (b : Nat) (P : Int) (e : Ending) (w' : World) : Prop := ∃ (v : Value) (n : Nat) (rv : List Value), e = .returned v ∧ n ≤ 8 ∧ w'.ownsRow w.heap.size 40 1 v n rv ∧ rv.length = n ∧ (∀ j, j < n → RowOk w' w.heap.size b n (rv.getD j undef) v.ownBlock) ∧ Rd w' b (P + 100) ∧ w.grownBy w' (some b)
theorem infoRow : (Try.prog.info? 40).map (fun i => (i.zero, i.size, i.bytes)) = some (some (.slice none 0 0), 1, 24) := by kernel_rfl

theorem own_lower2 {w : World} {base base' n size : Nat} {t : TypeId} {v : Value} {xs : List Value} (h : w.ownsRow base t size v n xs) (hb : base' ≤ base) : w.ownsRow base' t size v n xs := by
  obtain ⟨hl, h | ⟨g, cap, cur, hv, hg, r⟩⟩ := h
  · exact ⟨hl, .inl h⟩
  · exact ⟨hl, .inr ⟨g, cap, cur, hv, Nat.le_trans hb hg, r⟩⟩
theorem rowok_lower {W : World} {lo lo' b n : Nat} {v : Value} {ob : Option Nat} (h : RowOk W lo b n v ob) (hl : lo' ≤ lo) : RowOk W lo' b n v ob := by
  obtain ⟨xs, a, o, c, d⟩ := h
  exact ⟨xs, a, own_lower2 o hl, c, d⟩
theorem rowok_grow {W W' : World} {lo b n : Nat} {v : Value} {ob : Option Nat} (h : RowOk W lo b n v ob) (hG : W.grownBy W' (some b)) : RowOk W' lo b n v ob := by
  obtain ⟨xs, a, o, c, d⟩ := h
  exact ⟨xs, a, o.kept hG (.inr c), c, d⟩
theorem rowok_append {W w9 : World} {lo b n : Nat} {v : Value} {ob ob' : Option Nat} {O : Obj} (h : RowOk W lo b n v ob) (hG : (W.alloc O).grownBy w9 ob) (ho : ob' = ob ∨ ob' = some (W.alloc O).heap.size) : RowOk w9 lo b n v ob' := by
  obtain ⟨xs, a, o, c, d⟩ := h
  refine ⟨xs, a, (o.alloc O).kept hG (.inr d), c, ?_⟩
  rcases ho with rfl | rfl
  · exact d
  · intro e
    have := (o.lt _ e).2
    simp at this
    omega
theorem reads_new (w : World) (v : Value) (t : TypeId) : Reads (w.alloc (.cells #[v] t)) (w.alloc (.cells #[v] t)).heap.size 1 (some ⟨w.heap.size, 0, none⟩) 1 [v] :=
  ⟨rfl, fun _ => ⟨_, rfl, by simp, fun j u hu => new_cells w [v] t j u hu⟩⟩

set_option maxRecDepth 100000 in
set_option maxHeartbeats 6000000 in
theorem someWs (b : Nat) (P : Int) (w : World) (h : Rd w b P) (hP : P ≤ 60000) (hb : b < w.heap.size) :
    Calls Try.prog 74 #[.pointer (some ⟨b, 0, none⟩)] w (SomeWs w b P) := by
  obtain ⟨i0, hii, hz0, hz1, hz2⟩ := info_parts infoInt
  obtain ⟨j0, hjj, hy0, hy1, hy2⟩ := info_parts infoRow
  go_enter Try.func74, Try.ntmps74
  go_wp2_with fail
  refine (one_lit b 8 P 0 8 [4, 3, 5, 2, 6, 1, 0, 8] _ w h (by omega) hb rfl (by omega) (by omega) (by simp)).mono ?_
  rintro e w0 ⟨m, rfl, m0, m1, hR0, hG0⟩
  obtain ⟨n, rfl⟩ : ∃ n : Nat, m = (n : Int) := ⟨m.toNat, by omega⟩
  have hb0 := Nat.lt_of_lt_of_le hb hG0.size
  have hw0 := hG0.size
  clear h
  go_wp2_with fail
  have hOo : (w0.alloc (.cells #[] 40)).ownsRow w0.heap.size 40 1 (.slice (some ⟨w0.heap.size, 0, none⟩) 0 0) 0 [] := ⟨by simp, .inr ⟨w0.heap.size, 0, #[], rfl, Nat.le_refl _, Go.Deep.blk_alloc_new _ _, Nat.le_refl _, by unfold maxLen; omega, rfl, rfl⟩⟩
  have hR1 := rd_alloc hR0 hb0 (.cells #[] 40)
  have hG1 := g_trans hG0 (World.grownBy_alloc w0 (.cells #[] 40) (some b))
  have hs1 : w0.heap.size < (w0.alloc (.cells #[] 40)).heap.size := by simp
  clear hR0 hG0
  generalize w0.alloc (.cells #[] 40) = w1 at hOo hR1 hG1 hs1 ⊢
  go_loopw [4, 5] (fun ov l wr => ∃ (i : Nat) (rv : List Value), i ≤ n ∧ l = .int .i64 (i : Int) ∧ wr.ownsRow w0.heap.size 40 1 ov i rv ∧ rv.length = i ∧ (∀ j, j < i → RowOk wr w0.heap.size b n (rv.getD j undef) ov.ownBlock) ∧ Rd wr b (P + 1 + 9 * (i : Int)) ∧ w.grownBy wr (some b) ∧ w0.heap.size < wr.heap.size) (fun _ l _ => ((n : Int) - intOf l).toNat)
  case atStart => exact ⟨0, [], Nat.zero_le _, rfl, hOo, rfl, fun j hj => absurd hj (Nat.not_lt_zero _), by simpa using hR1, hG1, hs1⟩
  case round =>
    clear hOo hR1 hG1 hs1
    obtain ⟨i, rv, hi, rfl, hown, hrl, hrows, hR, hG, hsz⟩ := hrel
    by_cases hlt : i < n
    · obtain ⟨A, hAe⟩ : ∃ A, A = wr := ⟨_, rfl⟩
      subst hAe
      have HOUT := Lib.hid hown
      have HROWS := Lib.hid hrows
      have HRL := Lib.hid hrl
      have HGA := Lib.hid hG
      have hbA : b < A.heap.size := by omega
      have hRw := rd_alloc hR hbA (.cells #[] 3)
      have hGw := World.grownBy_alloc A (.cells #[] 3) (some b)
      have hsw : A.heap.size < (A.alloc (.cells #[] 3)).heap.size := by simp
      have hOr : (A.alloc (.cells #[] 3)).ownsRow A.heap.size 3 1 (.slice (some ⟨A.heap.size, 0, none⟩) 0 0) 0 [] := ⟨by simp, .inr ⟨A.heap.size, 0, #[], rfl, Nat.le_refl _, Go.Deep.blk_alloc_new _ _, Nat.le_refl _, by unfold maxLen; omega, rfl, rfl⟩⟩
      clear hown hrows hrl hG hR
      go_wp2_with fail
      generalize A.alloc (.cells #[] 3) = A1 at hRw hGw hsw hOr ⊢
      go_loopw [6, 7] (fun rvv kv wr => ∃ (k : Nat) (g cp : Nat) (xs : List Int), k ≤ n ∧ kv = .int .i64 (k : Int) ∧ rvv = .slice (some ⟨g, 0, none⟩) k cp ∧ xs.length = k ∧ wr.ownsRow A.heap.size 3 1 (.slice (some ⟨g, 0, none⟩) k cp) k (xs.map (Value.int .i64)) ∧ Rd wr b (P + 1 + 9 * (i : Int) + (k : Int)) ∧ A.grownBy wr (some b) ∧ A.heap.size < wr.heap.size) (fun _ kv _ => ((n : Int) - intOf kv).toNat)
      case atStart => exact ⟨0, A.heap.size, 0, [], Nat.zero_le _, rfl, rfl, rfl, hOr, by simpa using hRw, hGw, hsw⟩
      case round =>
        clear hOr hRw hGw hsw
        obtain ⟨k, g, cp, xs, hk, rfl, rfl, hxl, hown, hR, hG, hsz2⟩ := hrel
        by_cases hlk : k < n
        · have HXL := Lib.hid hxl
          have HO := Lib.hid hown
          have HG := Lib.hid hG
          have HR := Lib.hid hR
          have wk : IntKind.i64.wrap ((k : Int) + 1) = (k : Int) + 1 := by rw [IntKind.wrap_i64]; omega
          have hbr : b < wr.heap.size := by omega
          clear hown hG hR hxl
          go_wp2_with fail
          refine (pick_any b _ ((k : Int) + 1) _ HR.out (by omega)).mono ?_
          rintro e w4 ⟨u, rfl, hu', hR4, hG4⟩
          have hu : u ≤ k := by omega
          have hb4 := Nat.lt_of_lt_of_le hbr hG4.size
          have hs4 := hG4.size
          have hO4 := HO.out.kept hG4 (.inr (by intro h; have := (HO.out.lt b h).1; omega))
          have hcap : k ≤ cp := by
            obtain ⟨_, h | ⟨g', c', cur, hv, _, _, hc, _⟩⟩ := hO4
            · cases h.1
            · injection hv with e1 e2 e3; subst e3; exact hc
          have hltg : g < w4.heap.size := (hO4.lt g rfl).2
          have HO4 := Lib.hid hO4
          have HG4 := Lib.hid (g_trans HG.out hG4)
          have HR4 := Lib.hid hR4
          obtain ⟨_, _, hva, _, hia, _⟩ := own_anyW hO4 HXL.out
          have u0 : (0 : Int) ≤ (u : Int) := by omega
          have u1 : (u : Int) ≤ (k : Int) := by omega
          have u2' : (u : Int) ≤ (cp : Int) := by omega
          have hid := ints_drop (k := u) (cap := cp) (show IsInts w4 (some ⟨g, 0, none⟩) xs by injection hva with e1 e2 e3; rw [e1]; exact hia) (by rw [HXL.out]; exact hu) (by rw [HXL.out]; exact hcap)
          clear hu' hG4 hR4 HO HR HG hO4 hia hva
          by_cases hcu : cp = u
          · rw [if_pos hcu] at hid
            have HID := Lib.hid hid
            have e1 : k = u := by omega
            subst e1
            have e2 : k = cp := hcu.symm
            subst e2
            clear hid hcu
            go_wp2_with fail
            refine (scopyI (some ⟨g, 0, none⟩) (0) 0 (xs.drop k) w4 HID.out (by have := HXL.out; simp only [List.length_drop]; omega) (by omega)).mono ?_
            rintro e w5 ⟨rest, rfl, hrest, hb5⟩
            have hl5 : (xs.drop k).length = 0 := by have := HXL.out; simp only [List.length_drop]; omega
            rw [hl5] at hrest
            obtain ⟨ra, rc, rfl, hrc, hri, hrb⟩ := own_anyW hrest hl5
            have HRO := Lib.hid hrest
            have hO5 := HO4.out.kept (g_below hb5 (some b)) (.inr (by intro h; have := (HO4.out.lt b h).1; omega))
            have hs5 := hb5.size
            have hO5h := own_head hO5 hu
            rw [← List.map_take] at hO5h
            have HH5 := Lib.hid hO5h
            have G5 := Lib.hid (g_trans HG4.out (g_below hb5 (some b)))
            have R5 := Lib.hid (rd_below HR4.out hb4 hb5)
            have hb5s : b < w5.heap.size := by omega
            have hA5 : A.heap.size < w5.heap.size := by omega
            clear hrest hO5 hb5 hri hl5 hO5h
            go_wp2_with (first | (at_builtin; refine wpList_append_own _ rfl (.tmp 36) (.tmp 38) 40 rfl A.heap.size 3 i0 (.int .i64 0) 1 8 Try.underlying40 hii hz0 hz1 hz2 rfl (by decide) _ k _ rfl (HH5.out.alloc _) ⟨w5.heap.size, 0, none⟩ 1 1 [.int .i64 (k : Int)] rfl rfl (cell_one_new _ _ _) (fun x hx => by simp at hx; subst hx; rfl) (by unfold maxLen; omega) (by omega) (by simp; omega) ?_; intro v7 w7 own7 gr7 hnil7; obtain ⟨own8, HR8, B8, hs8⟩ := row_facts HH5.out HRO.out own7 gr7 (Nat.le_of_lt hA5) hltg; clear own7 gr7 hnil7) | (at_builtin; refine wpList_append_any _ rfl (.tmp 39) (.tmp 40) 40 rfl A.heap.size 3 i0 (.int .i64 0) 1 8 Try.underlying40 hii hz0 hz1 hz2 rfl (by decide) _ _ _ rfl own8 _ ra 0 rc _ rfl HR8 (ints_one _) (by unfold maxLen; omega) (by omega) (by omega) ?_; intro v9 w9 own9 gr9 hat9; obtain ⟨own10, B10⟩ := row_facts2 own8 own9 gr9 (by omega) hu HXL.out (by omega); clear own9 gr9 hat9 own8 HR8))
            obtain ⟨ys, hyl, own11⟩ := own10
            obtain ⟨g9, cp9, rfl, lg9, lt9⟩ := own11.form (by omega)
            have B11 := B8.trans B10
            obtain ⟨R11, G11⟩ := rd_end (P := P + 1 + 9 * (i : Int) + ((k + 1 : Nat) : Int)) hbA (rd_up (P' := P + 1 + 9 * (i : Int) + ((k + 1 : Nat) : Int)) R5.out (by omega)) rfl G5.out B11
            refine ⟨⟨k + 1, g9, cp9, ys, by omega, by go_num, rfl, hyl, own11, R11, G11, by have := B11.size; omega⟩, by simp [intOf]; omega⟩
          · rw [if_neg hcu] at hid
            have HID := Lib.hid hid
            clear hid
            go_wp2_with fail
            refine (scopyI (some ⟨g, u, none⟩) (cp - u) (k - u) (xs.drop u) w4 HID.out (by have := HXL.out; simp only [List.length_drop]; omega) (by omega)).mono ?_
            rintro e w5 ⟨rest, rfl, hrest, hb5⟩
            have hl5 : (xs.drop u).length = (k - u) := by have := HXL.out; simp only [List.length_drop]; omega
            rw [hl5] at hrest
            obtain ⟨ra, rc, rfl, hrc, hri, hrb⟩ := own_anyW hrest hl5
            have HRO := Lib.hid hrest
            have hO5 := HO4.out.kept (g_below hb5 (some b)) (.inr (by intro h; have := (HO4.out.lt b h).1; omega))
            have hs5 := hb5.size
            have hO5h := own_head hO5 hu
            rw [← List.map_take] at hO5h
            have HH5 := Lib.hid hO5h
            have G5 := Lib.hid (g_trans HG4.out (g_below hb5 (some b)))
            have R5 := Lib.hid (rd_below HR4.out hb4 hb5)
            have hb5s : b < w5.heap.size := by omega
            have hA5 : A.heap.size < w5.heap.size := by omega
            clear hrest hO5 hb5 hri hl5 hO5h
            go_wp2_with (first | (at_builtin; refine wpList_append_own _ rfl (.tmp 36) (.tmp 38) 40 rfl A.heap.size 3 i0 (.int .i64 0) 1 8 Try.underlying40 hii hz0 hz1 hz2 rfl (by decide) _ u _ rfl (HH5.out.alloc _) ⟨w5.heap.size, 0, none⟩ 1 1 [.int .i64 (k : Int)] rfl rfl (cell_one_new _ _ _) (fun x hx => by simp at hx; subst hx; rfl) (by unfold maxLen; omega) (by omega) (by simp; omega) ?_; intro v7 w7 own7 gr7 hnil7; obtain ⟨own8, HR8, B8, hs8⟩ := row_facts HH5.out HRO.out own7 gr7 (Nat.le_of_lt hA5) hltg; clear own7 gr7 hnil7) | (at_builtin; refine wpList_append_any _ rfl (.tmp 39) (.tmp 40) 40 rfl A.heap.size 3 i0 (.int .i64 0) 1 8 Try.underlying40 hii hz0 hz1 hz2 rfl (by decide) _ _ _ rfl own8 _ ra (k - u) rc _ rfl HR8 (ints_one _) (by unfold maxLen; omega) (by omega) (by omega) ?_; intro v9 w9 own9 gr9 hat9; obtain ⟨own10, B10⟩ := row_facts2 own8 own9 gr9 (by omega) hu HXL.out (by omega); clear own9 gr9 hat9 own8 HR8))
            obtain ⟨ys, hyl, own11⟩ := own10
            obtain ⟨g9, cp9, rfl, lg9, lt9⟩ := own11.form (by omega)
            have B11 := B8.trans B10
            obtain ⟨R11, G11⟩ := rd_end (P := P + 1 + 9 * (i : Int) + ((k + 1 : Nat) : Int)) hbA (rd_up (P' := P + 1 + 9 * (i : Int) + ((k + 1 : Nat) : Int)) R5.out (by omega)) rfl G5.out B11
            refine ⟨⟨k + 1, g9, cp9, ys, by omega, by go_num, rfl, hyl, own11, R11, G11, by have := B11.size; omega⟩, by simp [intOf]; omega⟩
        · have ek : k = n := by omega
          subst ek
          have hgA : A.heap.size ≤ g := (hown.lt g rfl).1
          have hltg : g < wr.heap.size := (hown.lt g rfl).2
          have HOW := Lib.hid hown
          have HXL := Lib.hid hxl
          have HG := Lib.hid hG
          have HR := Lib.hid hR
          have HOUT2 := Lib.hid (HOUT.out.kept hG (.inr (by intro h; have := (HOUT.out.lt b h).1; omega)))
          have hneo : (Value.slice (some ⟨g, 0, none⟩) k cp).ownBlock ≠ u4.ownBlock := fun e => by
            have e2 : u4.ownBlock = some g := by rw [← e]; rfl
            have := (HOUT.out.lt g e2).2; omega
          have hbr : b < wr.heap.size := by omega
          clear hown hxl hG hR
          go_wp2_with (first | (at_builtin; refine wpList_append_any _ rfl (.tmp 42) (.tmp 44) 38 rfl w0.heap.size 40 j0 _ 1 24 Try.underlying38 hjj hy0 hy1 hy2 rfl (by decide) _ _ _ rfl (HOUT2.out.alloc _) _ (some ⟨wr.heap.size, 0, none⟩) 1 1 [.slice (some ⟨g, 0, none⟩) k cp] rfl (reads_new _ _ _) (fun q hq => by simp at hq; subst hq; rfl) (by unfold maxLen; omega) (by omega) (by simp; omega) ?_; intro v9 w9 own9 gr9 hat9))
          have hrow := fun j (hj : j < i) => rowok_append (rowok_grow (HROWS.out j hj) HG.out) gr9 hat9
          have hnew := rowok_append (lo := w0.heap.size) (b := b) (O := .cells #[.slice (some ⟨g, 0, none⟩) k cp] 40) ⟨xs, HXL.out, own_lower2 HOW.out (by omega), (fun e => by have e2 : g = b := Option.some.inj e; omega), hneo⟩ gr9 hat9
          have hB9 : Below w.heap.size wr w9 := ((Below.refl _ wr).alloc (by omega) _).grown gr9 (by simp; omega) (fun q hq => by have := (HOUT.out.lt q hq).1; omega)
          obtain ⟨R9, G9⟩ := rd_end (P := P + 1 + 9 * ((i + 1 : Nat) : Int)) hb (rd_up (P' := P + 1 + 9 * ((i + 1 : Nat) : Int)) HR.out (by omega)) rfl (g_trans HGA.out HG.out) hB9
          refine ⟨⟨i + 1, rv ++ [.slice (some ⟨g, 0, none⟩) k cp], by omega, by go_num, own9, by simp [HRL.out], fun j hj => ?_, R9, G9, by have := hB9.size; omega⟩, by simp [intOf]; omega⟩
          by_cases ej : j = i
          · have eg : (rv ++ [Value.slice (some ⟨g, 0, none⟩) k cp]).getD j undef = .slice (some ⟨g, 0, none⟩) k cp := by
              rw [ej, List.getD_eq_getElem?_getD, List.getElem?_append_right (by rw [HRL.out]; exact Nat.le_refl _), HRL.out]; simp
            rw [eg]; exact hnew
          · have eg : (rv ++ [Value.slice (some ⟨g, 0, none⟩) k cp]).getD j undef = rv.getD j undef := by
              rw [List.getD_eq_getElem?_getD, List.getElem?_append_left (by rw [HRL.out]; omega), ← List.getD_eq_getElem?_getD]
            rw [eg]; exact hrow j (by omega)
    · have ei : i = n := by omega
      have HF := Lib.hid (And.intro (rd_up (P' := P + 100) hR (by omega)) hG)
      have HROWS := Lib.hid hrows
      have HOW := Lib.hid hown
      subst ei
      clear hR hG hrows hown
      go_wp2_with fail
      go_ret
      exact ⟨_, i, rv, rfl, by omega, own_lower2 HOW.out hw0, hrl, fun j hj => rowok_lower (HROWS.out j hj) hw0, HF.out.1, HF.out.2⟩
end Go.Proofs.Ytdlbjmhjaljlfab
