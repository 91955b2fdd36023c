/- What the laws on gaps and gifts draw. No condition but those stated. -/
import Derived.Test.YtojkgabkiagjdacDrawCl
import Derived.Test.YtojkgabkiagjdacClmS
namespace Go.Proofs.Ytojkgabkiagjdac
open Go.RowKit
set_option linter.unusedSimpArgs false
set_option linter.unusedVariables false
theorem own_farC {w : World} {base g j : Nat} {v u : Value} {zs : List Int} (h : OwnI w base v zs) (hne : v.ownBlock ≠ some g) : OwnI (w.setCell ⟨g, j, none⟩ u) base v zs := World.ownsRow.kept h (g_set2 (World.grownBy.refl w (some g))) (.inr hne)
def DrawnGa (w : World) (e : Ending) (w' : World) : Prop := ∃ (b : Option Addr) (c : Nat) (zs : List Int), e = .returned (.slice b zs.length c) ∧ zs.length ≤ 13 ∧ (∀ z ∈ zs, -1 ≤ z ∧ z ≤ 501) ∧ IsInts w' b zs ∧ Below w.heap.size w w'
def DrawnGi (w : World) (e : Ending) (w' : World) : Prop := ∃ (n : Int) (b : Option Addr) (c : Nat) (zs : List Int) (b' : Option Addr) (c' : Nat) (gs : List Int), e = .returned (.tuple #[.int .i64 n, .slice b zs.length c, .slice b' gs.length c']) ∧ -1 ≤ n ∧ n ≤ 4000 ∧ zs.length ≤ 7 ∧ gs.length ≤ 7 ∧ (∀ z ∈ zs, -1 ≤ z ∧ z ≤ 501) ∧ (∀ z ∈ gs, -2 ≤ z ∧ z ≤ 502) ∧ IsInts w' b zs ∧ IsInts w' b' gs ∧ Below w.heap.size w w'
set_option maxRecDepth 100000 in
set_option maxHeartbeats 8000000 in
theorem drawGapsOf (a : Option Addr) (len cap : Nat) (zs : List Int) (w : World) (h : IsRow .u8 w a len cap zs) :
    Calls Try.prog 30 #[.slice a len cap] w (DrawnGa w) := by
  obtain ⟨i0, hi0, hz0, hz1, hz2⟩ := info_parts infoInt
  go_enter Try.func30, Try.ntmps30
  go_wp2_with fail
  refine (newReader_any a len cap zs _ h).mono ?_
  rintro e w0 ⟨rfl, R0, C0, hb0⟩
  have hwb := C0.size
  have HO := Lib.hid (OwnI.new (Below.refl _ w0))
  have HR := Lib.hid (rd_alloc R0 hb0 (.cells #[] 3))
  have HB := Lib.hid (C0.alloc hwb (.cells #[] 3))
  clear R0 C0 h
  go_wp2_with fail
  have hs : w0.heap.size + 1 = (w0.alloc (.cells #[] 3)).heap.size := by simp
  rw [hs]
  generalize w0.alloc (.cells #[] 3) = w1 at *
  have hb1 : w.heap.size < w1.heap.size := by omega
  refine (one_lit w.heap.size 6 _ 0 13 [3, 5, 2, 0, 12, 13] _ w1 HR.out (by omega) hb1 rfl (by omega) (by omega) (by simp)).mono ?_
  rintro e w2 ⟨m, rfl, m0, m1, hR2, hG2⟩
  have HO2 := Lib.hid (ownI_keptC HO.out hG2 hb0)
  have HR2 := Lib.hid hR2
  have HB2 : Hid (Below w.heap.size w w2) := below_gv HB.out hG2 (fun q hq => by have := Option.some.inj hq; omega)
  have hs2 : w0.heap.size < w2.heap.size := by have := hG2.size; omega
  clear hG2 hR2 HO HR HB
  go_wp2_with fail
  go_loopw [4, 5] (fun v q wr => ∃ (k : Nat) (zs : List Int), (k : Int) ≤ m ∧ q = .int .i64 (m - k) ∧ Hid (OwnI wr w0.heap.size v zs ∧ (∀ z ∈ zs, -1 ≤ z ∧ z ≤ 501) ∧ zs.length = k ∧ Rd wr w.heap.size (10 + 2 * (k : Int)) ∧ Below w.heap.size w wr) ∧ w0.heap.size < wr.heap.size) (fun _ q _ => (intOf q).toNat)
  case atStart => exact ⟨0, [], by omega, by go_num, ⟨HO2.out, by simp, rfl, rd_up HR2.out (by omega), HB2.out⟩, hs2⟩
  case round =>
    clear HO2 HR2 HB2
    obtain ⟨k, zs, hk, rfl, HR, hsz⟩ := hrel
    have hkl := HR.out.2.2.1
    by_cases hlt : (k : Int) < m
    · have hbr : w.heap.size < wr.heap.size := by omega
      have hR := HR.out.2.2.2.1
      have hzl : zs.length ≤ 13 := by omega
      have HKL := Lib.hid hkl
      clear hkl
      go_wp2_with fail
      refine (pick_any w.heap.size _ 50 _ hR (by omega)).mono ?_
      rintro e w7 ⟨p, rfl, hp, hR7, hG7⟩
      have hb7 := Nat.lt_of_lt_of_le hbr hG7.size
      have hp6 : (p : Int) ≤ 50 := by omega
      clear hR hp
      go_wp2_with fail
      refine (one_lit w.heap.size 5 _ 0 500 [5, 10, 0, 500, (p : Int)] _ w7 hR7 (by omega) hb7 rfl (by omega) (by omega) (by simp; omega)).mono ?_
      rintro e w8 ⟨z, rfl, z0, z1, hR8, hG8⟩
      have G8 := g_trans hG7 hG8
      have hO8 := ownI_keptC HR.out.1 G8 hb0
      have hs8 : w0.heap.size < w8.heap.size := by have := G8.size; omega
      have hB8 : Below w.heap.size w w8 := below_gv HR.out.2.2.2.2 G8 (fun q hq => by have := Option.some.inj hq; omega)
      have HR8 := Lib.hid (And.intro (rd_up (P' := 10 + 2 * ((k + 1 : Nat) : Int)) hR8 (by omega)) hB8)
      clear hR7 hG7 hG8 G8 hR8 hB8
      go_wp2_with (first | (at_builtin; refine wpList_append_own _ rfl _ _ _ rfl w0.heap.size 3 i0 (.int .i64 0) 1 8 Try.underlying23 hi0 hz0 hz1 hz2 rfl (by decide) _ _ _ rfl (hO8.alloc _) ⟨w8.heap.size, 0, none⟩ 1 1 [.int .i64 z] rfl rfl (cell_one_new _ _ _) (fun x hx => by simp at hx; subst hx; rfl) (by unfold maxLen; omega) (by omega) (by simp; omega) ?_; intro v3 w3 hown3 hgrow3 hnil3))
      have hB12 : Below w0.heap.size w8 w3 := ((Below.refl _ w8).alloc (Nat.le_of_lt hs8) _).grown hgrow3 (by simp; omega) hO8.grow
      have hR12 := rd_below HR8.out.1 hb0 hB12
      have hBw : Below w.heap.size w w3 := HR8.out.2.trans (hB12.mono hwb)
      have HF : Hid (OwnI w3 w0.heap.size v3 (zs ++ [z]) ∧ (∀ y ∈ zs ++ [z], -1 ≤ y ∧ y ≤ 501) ∧ (zs ++ [z]).length = k + 1 ∧ Rd w3 w.heap.size (10 + 2 * ((k + 1 : Nat) : Int)) ∧ Below w.heap.size w w3) := ⟨OwnI.snoc hown3, fun y hy => by
        rcases List.mem_append.1 hy with h | h
        · exact HR.out.2.1 y h
        · simp at h; omega, by rw [List.length_append, HKL.out]; rfl, hR12, hBw⟩
      have hs12 : w0.heap.size < w3.heap.size := by have := hB12.size; omega
      clear hown3 hgrow3 hnil3 hB12 hR12 hBw hO8 HR8 HR
      go_roundw
      case rel => exact ⟨k + 1, zs ++ [z], by omega, by go_num, HF.out, hs12⟩
      case measure => simp [intOf]; omega
    · have e : (k : Int) = m := by omega
      have hzl : zs.length ≤ 13 := by omega
      have hO := HR.out.1
      obtain ⟨vb, vc, rfl, _⟩ := hO.ints
      have HO := Lib.hid hO
      clear hO
      by_cases hz : zs.length = 0
      · have e1 : decide (0 < (zs.length : Int)) = false := decide_eq_false (by omega)
        have e2 : decide (0 < zs.length) = false := decide_eq_false (by omega)
        have HF := Lib.hid (And.intro HR.out.2.1 (And.intro HO.out.at_ HR.out.2.2.2.2))
        clear HR HO hkl hz
        go_wp2_with fail
        go_ret
        exact ⟨vb, vc, zs, rfl, hzl, HF.out.1, HF.out.2.1, HF.out.2.2⟩
      · obtain ⟨gz, rfl, hgz⟩ := HO.out.form_ (by omega)
        have e1 : decide (0 < (zs.length : Int)) = true := decide_eq_true (by omega)
        have e2 : decide (0 < zs.length) = true := decide_eq_true (by omega)
        have e3 : 0 < zs.length := by omega
        have hbr : w.heap.size < wr.heap.size := by omega
        have hR := HR.out.2.2.2.1
        have HZ : Hid (∀ z ∈ zs, -1 ≤ z ∧ z ≤ 501) := HR.out.2.1
        have HBR : Hid (Below w.heap.size w wr) := HR.out.2.2.2.2
        clear hkl hz
        go_wp2_with fail
        refine (pick_any w.heap.size _ 16 _ hR (by omega)).mono ?_
        rintro e w7 ⟨p, rfl, hp, hR7, hG7⟩
        have hb7 := Nat.lt_of_lt_of_le hbr hG7.size
        have HO7 := Lib.hid (ownI_keptC HO.out hG7 hb0)
        have HB7 : Hid (Below w.heap.size w w7) := below_gv HBR.out hG7 (fun q hq => by have := Option.some.inj hq; omega)
        clear hR hp hG7 HR HO HBR
        by_cases p0 : p = 0
        · have f0 : ((p : Int) == 0) = true := by rw [beq_iff_eq]; omega
          clear p0
          go_wp2_with fail
          refine (one_lit w.heap.size 2 _ (-1) 501 [-1, 501] _ w7 hR7 (by omega) hb7 rfl (by omega) (by omega) (by simp)).mono ?_
          rintro e w8 ⟨z, rfl, z0, z1, hR8, hG8⟩
          have hO8 := ownI_keptC HO7.out hG8 hb0
          have hc0 := hO8.cell (j := 0) e3
          have hf0 := hO8.frozen 0
          have hS := hO8.set_ 0 z
          have hB8 : Below w.heap.size w w8 := below_gv HB7.out hG8 (fun q hq => by have := Option.some.inj hq; omega)
          have HS := Lib.hid (And.intro hS.at_ (hB8.setCell (p := ⟨gz, 0, none⟩) (by show w.heap.size ≤ gz; omega) (.int .i64 z)))
          have HZ2 : Hid (∀ y ∈ zs.set 0 z, -1 ≤ y ∧ y ≤ 501) := fun y hy => by
            rcases List.mem_or_eq_of_mem_set hy with h | h
            · exact HZ.out y h
            · omega
          generalize zs.getD 0 0 = y0 at hc0
          clear hS hO8 hB8 hG8 hR8 hR7
          go_wp2_with fail
          go_ret
          exact ⟨some ⟨gz, 0, none⟩, vc, zs.set 0 z, by rw [List.length_set]; rfl, by rw [List.length_set]; exact hzl, HZ2.out, HS.out.1, HS.out.2⟩
        · have f0 : ((p : Int) == 0) = false := by rw [beq_eq_false_iff_ne]; omega
          clear p0
          go_wp2_with fail
          go_ret
          exact ⟨some ⟨gz, 0, none⟩, vc, zs, rfl, hzl, HZ.out, HO7.out.at_, HB7.out⟩
set_option maxRecDepth 100000 in
set_option maxHeartbeats 8000000 in
theorem drawGoodGifts (a : Option Addr) (len cap : Nat) (zs : List Int) (w : World) (h : IsRow .u8 w a len cap zs) :
    Calls Try.prog 34 #[.slice a len cap] w (DrawnGi w) := by
  go_enter Try.func34, Try.ntmps34
  go_wp2_with fail
  refine (newReader_any a len cap zs _ h).mono ?_
  rintro e w1 ⟨rfl, R1, C, hb1⟩
  have hwb := C.size
  go_wp2_with fail
  refine (someCl w.heap.size _ w1 R1 (by omega) hb1).mono ?_
  rintro e w2 ⟨n, v, zs, rfl, n0, n1, hl, hz, O2, R2, G2⟩
  obtain ⟨b, c, rfl, _⟩ := O2.ints
  have hb2 := Nat.lt_of_lt_of_le hb1 G2.size
  have hs12 := G2.size
  have B2 : Below w.heap.size w w2 := below_gv C G2 (fun q hq => by have := Option.some.inj hq; omega)
  have HZ := Lib.hid hz
  have HLT := Lib.hid (fun q (hq : (Value.slice b zs.length c).ownBlock = some q) => (World.ownsRow.lt O2 q hq).2)
  have A2 := (Below.refl w2.heap.size w2).alloc (Nat.le_refl _) (.cells #[] 3)
  have O3 : OwnI (w2.alloc (.cells #[] 3)) w1.heap.size (.slice b zs.length c) zs := O2.of_block A2
  have R3 := rd_alloc R2 hb2 (.cells #[] 3)
  have B3 := B2.alloc B2.size (.cells #[] 3)
  have hs3 : w2.heap.size < (w2.alloc (.cells #[] 3)).heap.size := by simp
  have HE3 := Lib.hid (OwnI.new (Below.refl _ w2))
  have CV := svc n b c zs _ O3.at_ (by omega)
  have HO3 := Lib.hid O3
  have HR3 := Lib.hid R3
  have HB3 := Lib.hid B3
  clear O2 O3 R1 R2 R3 B2 B3 G2 C h hz A2
  go_wp2_with fail
  generalize w2.alloc (.cells #[] 3) = w3 at *
  cases hv : vcB n zs with
  | false =>
    rw [hv] at CV
    refine CV.mono ?_
    rintro e w' ⟨rfl, rfl⟩
    clear CV hv
    go_wp2_with fail
    go_returns
    exact ⟨n, b, c, zs, some ⟨w2.heap.size, 0, none⟩, 0, [], rfl, n0, n1, hl, by simp, HZ.out, by simp, HO3.out.at_, HE3.out.at_, HB3.out⟩
  | true =>
    rw [hv] at CV
    have CF := sFill n b c zs w3 HO3.out.at_ hv
    have F := fill_fair (vc_nn hv) n.toNat (by have := vc_iff.1 hv; omega)
    have gb : ∀ i, i < zs.length → 0 ≤ (fillN zs n.toNat).getD i 0 ∧ (fillN zs n.toNat).getD i 0 ≤ 500 := fun i hi => by
      have x1 := F.2.2.1 i hi
      have x2 := allB_get (vc_iff.1 hv).1 hi
      omega
    have gl : (fillN zs n.toNat).length = zs.length := F.1
    generalize fillN zs n.toNat = gs at *
    have HGB : Hid (∀ i, i < gs.length → 0 ≤ gs.getD i 0 ∧ gs.getD i 0 ≤ 500) := fun i hi => gb i (by omega)
    have gl7 : gs.length ≤ 7 := by omega
    clear gb F gl
    refine CV.mono ?_
    rintro e w' ⟨rfl, rfl⟩
    clear CV hv
    go_wp2_with fail
    refine CF.mono ?_
    rintro e w4 ⟨vg, rfl, O4, C4⟩
    clear CF
    obtain ⟨bg, cg, rfl, _⟩ := O4.ints
    have hs4 := C4.size
    have hb4 : w.heap.size < w4.heap.size := by omega
    have HO24 := Lib.hid (HO3.out.of_block C4)
    have HR4 := Lib.hid (rd_below HR3.out (by omega) C4)
    have HB4 := Lib.hid (bel_tr HB3.out C4)
    have HO4 := Lib.hid O4
    have HGZ : Hid (∀ z ∈ gs, -2 ≤ z ∧ z ≤ 502) := fun z hz => by
      obtain ⟨i, hi, rfl⟩ := List.getElem_of_mem hz
      have := HGB.out i hi
      rw [List.getD_eq_getElem?_getD, List.getElem?_eq_getElem hi] at this
      simp only [Option.getD_some] at this
      omega
    clear O4 C4 HO3 HR3 HB3 HE3
    by_cases h1 : gs.length ≤ 1
    · have e1 : decide (1 < (gs.length : Int)) = false := decide_eq_false (by omega)
      have e2 : decide (1 < gs.length) = false := decide_eq_false (by omega)
      clear h1
      go_wp2_with fail
      go_returns
      exact ⟨n, b, c, zs, bg, cg, gs, rfl, n0, n1, hl, gl7, HZ.out, HGZ.out, HO24.out.at_, HO4.out.at_, HB4.out⟩
    · have e1 : decide (1 < (gs.length : Int)) = true := decide_eq_true (by omega)
      have e2 : decide (1 < gs.length) = true := decide_eq_true (by omega)
      have e3 : 1 < gs.length := by omega
      obtain ⟨g, rfl, hg⟩ := HO4.out.form_ (by omega)
      have hR4 := HR4.out
      clear h1
      go_wp2_with fail
      refine (pick_any w.heap.size _ 2 _ hR4 (by omega)).mono ?_
      rintro e w5 ⟨p, rfl, hp, R5, G5⟩
      have hb5 := Nat.lt_of_lt_of_le hb4 G5.size
      have HO25 := Lib.hid (ownI_keptC HO24.out G5 hb1)
      have HO5 := Lib.hid (ownI_keptC HO4.out G5 (by omega))
      have HB5 : Hid (Below w.heap.size w w5) := below_gv HB4.out G5 (fun q hq => by have := Option.some.inj hq; omega)
      have HR5 := Lib.hid R5
      clear G5 R5 hR4 hp HO24 HO4 HB4 HR4
      by_cases p0 : p = 0
      · have f0 : ((p : Int) == 0) = true := by rw [beq_iff_eq]; omega
        have hR5 := HR5.out
        clear p0
        go_wp2_with fail
        refine (pick_any w.heap.size _ (gs.length : Int) _ hR5 (by omega)).mono ?_
        rintro e w6 ⟨k, rfl, hk, R6, G6⟩
        have hk2 : k < gs.length := by omega
        have O26 := ownI_keptC HO25.out G6 hb1
        have O6 := ownI_keptC HO5.out G6 (by omega)
        have B6 : Below w.heap.size w w6 := below_gv HB5.out G6 (fun q hq => by have := Option.some.inj hq; omega)
        have k0 : (0 : Int) ≤ (k : Int) := by omega
        have k1 : (k : Int) < (gs.length : Int) := by omega
        have l0 : (0 : Int) < (gs.length : Int) := by omega
        have bx := HGB.out k hk2
        have by0 : 0 ≤ (gs.set k (gs.getD k 0 + 1)).getD 0 0 ∧ (gs.set k (gs.getD k 0 + 1)).getD 0 0 ≤ 501 := by
          rw [getD_setZ 0 _ hk2]
          have := HGB.out 0 (by omega)
          split <;> omega
        have x5 := O6.cell (j := k) hk2
        have f5 := O6.frozen k
        have Q6 := O6.set_ k (gs.getD k 0 + 1)
        have x6 := Q6.cell (j := 0) (by rw [List.length_set]; omega)
        have f6 := Q6.frozen 0
        have Q7 := Q6.set_ 0 ((gs.set k (gs.getD k 0 + 1)).getD 0 0 - 1)
        have ne : (Value.slice b zs.length c).ownBlock ≠ some g := fun e => by have := HLT.out g e; omega
        have I27 := (own_farC (j := 0) (u := .int .i64 ((gs.set k (gs.getD k 0 + 1)).getD 0 0 - 1)) (own_farC (j := k) (u := .int .i64 (gs.getD k 0 + 1)) O26 ne) ne).at_
        have hgw : w.heap.size ≤ g := by omega
        have HF := Lib.hid (And.intro Q7.at_ (And.intro I27 ((B6.setCell (p := ⟨g, k, none⟩) hgw (.int .i64 (gs.getD k 0 + 1))).setCell (p := ⟨g, 0, none⟩) hgw (.int .i64 ((gs.set k (gs.getD k 0 + 1)).getD 0 0 - 1)))))
        have HX : Hid (∀ z ∈ (gs.set k (gs.getD k 0 + 1)).set 0 ((gs.set k (gs.getD k 0 + 1)).getD 0 0 - 1), -2 ≤ z ∧ z ≤ 502) := fun z hz => by
          rcases List.mem_or_eq_of_mem_set hz with h | h
          · rcases List.mem_or_eq_of_mem_set h with h | h
            · exact HGZ.out z h
            · omega
          · omega
        have HLN : Hid (((gs.set k (gs.getD k 0 + 1)).set 0 ((gs.set k (gs.getD k 0 + 1)).getD 0 0 - 1)).length = gs.length) := by show _ = _; rw [List.length_set, List.length_set]
        generalize (gs.set k (gs.getD k 0 + 1)).set 0 ((gs.set k (gs.getD k 0 + 1)).getD 0 0 - 1) = GG at *
        generalize (gs.set k (gs.getD k 0 + 1)).getD 0 0 = y at *
        generalize gs.getD k 0 = x at *
        have wx : IntKind.i64.wrap (x + 1) = x + 1 := by rw [IntKind.wrap_i64]; omega
        have wy : IntKind.i64.wrap (y - 1) = y - 1 := by rw [IntKind.wrap_i64]; omega
        clear O26 O6 B6 Q6 Q7 I27 R6 G6 hk hR5 ne
        go_wp2_with fail
        go_returns
        exact ⟨n, b, c, zs, some ⟨g, 0, none⟩, cg, GG, by rw [HLN.out]; rfl, n0, n1, hl, by rw [HLN.out]; exact gl7, HZ.out, HX.out, HF.out.2.1, HF.out.1, HF.out.2.2⟩
      · have f0 : ((p : Int) == 0) = false := by rw [beq_eq_false_iff_ne]; omega
        clear p0
        go_wp2_with fail
        go_returns
        exact ⟨n, b, c, zs, some ⟨g, 0, none⟩, cg, gs, rfl, n0, n1, hl, gl7, HZ.out, HGZ.out, HO25.out.at_, HO5.out.at_, HB5.out⟩
end Go.Proofs.Ytojkgabkiagjdac
