/- The orders of turns that the laws draw. Condition: the reader has read at most 60000 numbers before. -/
import Derived.Test.YtojkgabkiagjdacDrawCl
import Derived.Test.YtojkgabkiagjdacClmS
import Derived.Test.YtojkgabkiagjdacClmR
namespace Go.Proofs.Ytojkgabkiagjdac
open Go.RowKit
set_option linter.unusedSimpArgs false
set_option linter.unusedVariables false
theorem own_headI {w : World} {base g n c : Nat} {zs : List Int} (h : OwnI w base (.slice (some ⟨g, 0, none⟩) n c) zs) {k : Nat} (hk : k ≤ zs.length) : OwnI w base (.slice (some ⟨g, 0, none⟩) k c) (zs.take k) := by
  obtain ⟨hl, h | ⟨g', cap', cur, hv, hg, hb, hc, hm, hs, ht⟩⟩ := h
  · cases h.1
  · injection hv with e1 e2 e3
    injection e1 with e1
    injection e1 with e1
    subst e1 e3
    have lt : (zs.take k).length = k := by rw [List.length_take]; omega
    unfold OwnI
    rw [lt]
    refine ⟨by rw [List.length_map, lt]; omega, .inr ⟨g, c, cur, rfl, hg, hb, by omega, hm, hs, ?_⟩⟩
    rw [List.map_take, ← ht, List.take_take, Nat.mul_one, Nat.mul_one, Nat.min_eq_left hk]
theorem scopyM (m : Nat) (a : Option Addr) (ca : Nat) (zs : List Int) (w : World) (h : IsInts w a zs) (hl : zs.length = m) (hn : m ≤ 1048576) :
    Calls Try.prog 65 #[.slice a m ca] w (OutI w zs) := by subst hl; exact scopyN a ca zs w h hn
def SomeOr (w : World) (b m : Nat) (P : Int) (e : Ending) (w' : World) : Prop := ∃ (v : Value) (os : List Int), e = .returned v ∧ os.length = m ∧ (∀ x ∈ os, 0 ≤ x ∧ x < (m : Int)) ∧ OwnI w' w.heap.size v os ∧ Rd w' b (P + 10) ∧ w.grownBy w' (some b)
set_option maxRecDepth 100000 in
set_option maxHeartbeats 8000000 in
theorem someOr (b m : Nat) (P : Int) (w : World) (h : Rd w b P) (hP : P ≤ 60000) (hb : b < w.heap.size) (hm : m ≤ 7) :
    Calls Try.prog 39 #[.pointer (some ⟨b, 0, none⟩), .int .i64 (m : Int)] w (SomeOr w b m P) := by
  have HM := Lib.hid (And.intro (OwnI.new (Below.refl w.heap.size w)) (And.intro (rd_alloc h hb (.cells #[] 3)) (World.grownBy_alloc w (.cells #[] 3) (some b))))
  clear h
  go_enter Try.func39, Try.ntmps39
  go_wp2_with fail
  go_loopw [5, 6] (fun v q wr => ∃ (k g c : Nat) (os : List Int), k ≤ m ∧ q = .int .i64 k ∧ v = .slice (some ⟨g, 0, none⟩) k c ∧ k ≤ c ∧ Hid (OwnI wr w.heap.size (.slice (some ⟨g, 0, none⟩) k c) os ∧ (∀ x ∈ os, 0 ≤ x ∧ x < (m : Int)) ∧ os.length = k ∧ Rd wr b (P + (k : Int)) ∧ w.grownBy wr (some b)) ∧ w.heap.size < wr.heap.size) (fun _ q _ => m - (intOf q).toNat)
  case atStart => exact ⟨0, w.heap.size, 0, [], Nat.zero_le _, rfl, rfl, Nat.le_refl _, ⟨HM.out.1, by simp, rfl, by simpa using HM.out.2.1, HM.out.2.2⟩, by simp⟩
  case round =>
    clear HM
    obtain ⟨k, g, c, os, hk, rfl, rfl, hc, HR, hsz⟩ := hrel
    by_cases hlt : k < m
    · have hbr : b < wr.heap.size := by omega
      have wk : IntKind.i64.wrap ((k : Int) + 1) = (k : Int) + 1 := by rw [IntKind.wrap_i64]; omega
      go_wp2_with fail
      refine (pick_any b _ ((k : Int) + 1) _ HR.out.2.2.2.1 (by omega)).mono ?_
      rintro e w3 ⟨u, rfl, hu', hR3, hG3⟩
      have hu : u ≤ k := by omega
      have hb3 := Nat.lt_of_lt_of_le hbr hG3.size
      have hsw := hG3.size
      have HO3 := Lib.hid (ownI_keptC HR.out.1 hG3 hb)
      have HG3 := Lib.hid (g_trans HR.out.2.2.2.2 hG3)
      have HR3 := Lib.hid hR3
      have HXL : Hid (os.length = k) := HR.out.2.2.1
      have HXB : Hid (∀ x ∈ os, 0 ≤ x ∧ x < (m : Int)) := HR.out.2.1
      have hdr := ints_dropN (k := u) (cap := c) HO3.out.at_ (by rw [HXL.out]; exact hu) (by rw [HXL.out]; exact hc)
      have HTL : Hid ((os.take u).length = u) := by show _ = _; rw [List.length_take, HXL.out]; omega
      have HDL : Hid ((os.drop u).length = k - u) := by show _ = _; rw [List.length_drop, HXL.out]
      have HTD : Hid (∀ x ∈ os.take u ++ [(k : Int)] ++ os.drop u, 0 ≤ x ∧ x < (m : Int)) := fun x hx => by
        rcases List.mem_append.1 hx with h | h
        · rcases List.mem_append.1 h with h | h
          · exact HXB.out x (List.mem_of_mem_take h)
          · simp at h; omega
        · exact HXB.out x (List.mem_of_mem_drop h)
      obtain ⟨ds, hds⟩ : ∃ ds, os.drop u = ds := ⟨_, rfl⟩
      obtain ⟨ts, hts⟩ : ∃ ts, os.take u = ts := ⟨_, rfl⟩
      have HTS := Lib.hid hts
      rw [hds] at hdr HDL HTD
      rw [hts] at HTL HTD
      have u0 : (0 : Int) ≤ (u : Int) := by omega
      have u1 : (u : Int) ≤ (k : Int) := by omega
      have u2' : (u : Int) ≤ (c : Int) := by omega
      clear hu' hG3 hR3 HR hds hts
      by_cases hcu : c = u
      · rw [if_pos hcu] at hdr
        have HDR := Lib.hid hdr
        have e1 : k = u := by omega
        subst e1
        have e2 : k = c := hcu.symm
        subst e2
        clear hcu hdr
        go_wp2_with fail
        refine (scopyM 0 (some ⟨g, 0, none⟩) 0 ds w3 HDR.out (by have := HDL.out; omega) (by omega)).mono ?_
        rintro e w5 ⟨vr, rfl, OR, B5⟩
        obtain ⟨br, cr, rfl, _⟩ := OR.ints
        have HRO := Lib.hid OR
        have hs3 := B5.size
        have hs5 : w.heap.size ≤ w5.heap.size := by omega
        have ltg := HO3.out.blk.2
        have lgb := HO3.out.blk.1
        have HH0 := own_headI (HO3.out.of_block B5) (k := k) (by rw [HXL.out]; exact hu)
        rw [HTS.out] at HH0
        have HH := Lib.hid HH0
        have HG5 := Lib.hid (g_trans HG3.out (g_below B5 (some b)))
        have HR5 := Lib.hid (rd_below HR3.out hb3 B5)
        clear OR B5 HH0
        go_wp2_with (first | (at_builtin; refine wp_snoc rfl _ _ rfl rfl HH.out rfl rfl (by rw [HTL.out]; omega) hs5 ?_; intro v6 w6 Q6 G6 n6; have RR6 : OwnI w6 w3.heap.size (.slice br ds.length cr) ds := World.ownsRow.kept HRO.out G6 (.inr (fun c => by have x1 := HRO.out.grow g c; omega)); have B6 : Below w.heap.size w5 w6 := (Below.refl w.heap.size w5).grown G6 hs5 (fun q hq => HH.out.grow q hq); have HQ6 := Lib.hid (And.intro Q6 (And.intro RR6 B6)); clear Q6 G6 n6 RR6 B6) | (at_builtin; refine wp_joinI rfl _ _ rfl rfl HQ6.out.1 rfl rfl HQ6.out.2.1.at_ (by simp only [List.length_append, List.length_cons, List.length_nil]; have := HTL.out; have := HDL.out; omega) (Nat.le_trans hs5 HQ6.out.2.2.size) ?_; intro v7 w7 Q7 G7 n7; have B7 : Below w.heap.size w5 w7 := HQ6.out.2.2.grown G7 (Nat.le_trans hs5 HQ6.out.2.2.size) (fun q hq => HQ6.out.1.grow q hq); have HQ7 := Lib.hid (And.intro Q7 B7); clear Q7 G7 n7 B7 HQ6))
        have HBF := Lib.hid (rd_end (P := P + ((k + 1 : Nat) : Int)) hb HR5.out (by omega) HG5.out HQ7.out.2)
        have hlen : (ts ++ [(k : Int)] ++ ds).length = k + 1 := by simp only [List.length_append, List.length_cons, List.length_nil]; have := HTL.out; have := HDL.out; omega
        have Q7 := HQ7.out.1
        obtain ⟨b7, c7, rfl, _⟩ := Q7.ints
        obtain ⟨g7, rfl, hg7⟩ := Q7.form_ (by omega)
        have cp7 := own_capN Q7
        rw [hlen] at Q7 cp7
        have hsf : w.heap.size < _ := Nat.lt_of_le_of_lt Q7.blk.1 Q7.blk.2
        have HN := Lib.hid (And.intro Q7 (And.intro HTD.out (And.intro hlen HBF.out)))
        rw [hlen]
        clear Q7 HQ7 HBF hlen
        go_roundw
        case rel => exact ⟨k + 1, g7, c7, _, by omega, by go_num, rfl, cp7, HN.out, hsf⟩
        case measure => simp [intOf]; omega
      · rw [if_neg hcu] at hdr
        have HDR := Lib.hid hdr
        clear hdr
        go_wp2_with fail
        refine (scopyM (k - u) (some ⟨g, u, none⟩) (c - u) ds w3 HDR.out (by have := HDL.out; omega) (by omega)).mono ?_
        rintro e w5 ⟨vr, rfl, OR, B5⟩
        obtain ⟨br, cr, rfl, _⟩ := OR.ints
        have HRO := Lib.hid OR
        have hs3 := B5.size
        have hs5 : w.heap.size ≤ w5.heap.size := by omega
        have ltg := HO3.out.blk.2
        have lgb := HO3.out.blk.1
        have HH0 := own_headI (HO3.out.of_block B5) (k := u) (by rw [HXL.out]; exact hu)
        rw [HTS.out] at HH0
        have HH := Lib.hid HH0
        have HG5 := Lib.hid (g_trans HG3.out (g_below B5 (some b)))
        have HR5 := Lib.hid (rd_below HR3.out hb3 B5)
        clear OR B5 HH0
        go_wp2_with (first | (at_builtin; refine wp_snoc rfl _ _ rfl rfl HH.out rfl rfl (by rw [HTL.out]; omega) hs5 ?_; intro v6 w6 Q6 G6 n6; have RR6 : OwnI w6 w3.heap.size (.slice br ds.length cr) ds := World.ownsRow.kept HRO.out G6 (.inr (fun c => by have x1 := HRO.out.grow g c; omega)); have B6 : Below w.heap.size w5 w6 := (Below.refl w.heap.size w5).grown G6 hs5 (fun q hq => HH.out.grow q hq); have HQ6 := Lib.hid (And.intro Q6 (And.intro RR6 B6)); clear Q6 G6 n6 RR6 B6) | (at_builtin; refine wp_joinI rfl _ _ rfl rfl HQ6.out.1 rfl rfl HQ6.out.2.1.at_ (by simp only [List.length_append, List.length_cons, List.length_nil]; have := HTL.out; have := HDL.out; omega) (Nat.le_trans hs5 HQ6.out.2.2.size) ?_; intro v7 w7 Q7 G7 n7; have B7 : Below w.heap.size w5 w7 := HQ6.out.2.2.grown G7 (Nat.le_trans hs5 HQ6.out.2.2.size) (fun q hq => HQ6.out.1.grow q hq); have HQ7 := Lib.hid (And.intro Q7 B7); clear Q7 G7 n7 B7 HQ6))
        have HBF := Lib.hid (rd_end (P := P + ((k + 1 : Nat) : Int)) hb HR5.out (by omega) HG5.out HQ7.out.2)
        have hlen : (ts ++ [(k : Int)] ++ ds).length = k + 1 := by simp only [List.length_append, List.length_cons, List.length_nil]; have := HTL.out; have := HDL.out; omega
        have Q7 := HQ7.out.1
        obtain ⟨b7, c7, rfl, _⟩ := Q7.ints
        obtain ⟨g7, rfl, hg7⟩ := Q7.form_ (by omega)
        have cp7 := own_capN Q7
        rw [hlen] at Q7 cp7
        have hsf : w.heap.size < _ := Nat.lt_of_le_of_lt Q7.blk.1 Q7.blk.2
        have HN := Lib.hid (And.intro Q7 (And.intro HTD.out (And.intro hlen HBF.out)))
        rw [hlen]
        clear Q7 HQ7 HBF hlen
        go_roundw
        case rel => exact ⟨k + 1, g7, c7, _, by omega, by go_num, rfl, cp7, HN.out, hsf⟩
        case measure => simp [intOf]; omega
    · obtain rfl : k = m := by omega
      go_wp2_with fail
      go_ret
      exact ⟨_, os, rfl, HR.out.2.2.1, HR.out.2.1, HR.out.1, rd_up HR.out.2.2.2.1 (by omega), HR.out.2.2.2.2⟩
def DrawnIt (w : World) (e : Ending) (w' : World) : Prop := ∃ (n : Int) (b : Option Addr) (c : Nat) (zs : List Int) (b' : Option Addr) (c' : Nat) (os : List Int), e = .returned (.tuple #[.int .i64 n, .slice b zs.length c, .slice b' os.length c']) ∧ -1 ≤ n ∧ n ≤ 4000 ∧ zs.length ≤ 7 ∧ (∀ z ∈ zs, -1 ≤ z ∧ z ≤ 501) ∧ os.length = zs.length ∧ (∀ x ∈ os, -1 ≤ x ∧ x ≤ 12) ∧ os.length ≤ c' ∧ IsInts w' b zs ∧ IsInts w' b' os ∧ Below w.heap.size w w'
set_option maxRecDepth 100000 in
set_option maxHeartbeats 8000000 in
theorem drawInTurn (a : Option Addr) (len cap : Nat) (zs : List Int) (w : World) (h : IsRow .u8 w a len cap zs) :
    Calls Try.prog 11 #[.slice a len cap] w (DrawnIt w) := by
  go_enter Try.func11, Try.ntmps11
  go_wp2_with fail
  refine (newReader_any a len cap zs _ h).mono ?_
  rintro e w1 ⟨rfl, R1, C, hb1⟩
  go_wp2_with fail
  refine (someCl w.heap.size _ w1 R1 (by omega) hb1).mono ?_
  rintro e w2 ⟨n, v, zs, rfl, n0, n1, hl, hz, O2, R2, G2⟩
  obtain ⟨b, c, rfl, _⟩ := O2.ints
  have hb2 := Nat.lt_of_lt_of_le hb1 G2.size
  have B2 : Below w.heap.size w w2 := below_gv C G2 (fun q hq => by have := Option.some.inj hq; omega)
  go_wp2_with fail
  refine (someOr w.heap.size zs.length _ w2 R2 (by omega) hb2 hl).mono ?_
  rintro e w3 ⟨vo, os, rfl, ol, ob, O3, R3, G3⟩
  obtain ⟨b', c', rfl, _⟩ := O3.ints
  have hb3 := Nat.lt_of_lt_of_le hb2 G3.size
  have B3 : Below w.heap.size w w3 := below_gv B2 G3 (fun q hq => by have := Option.some.inj hq; omega)
  have O2' := ownI_keptC O2 G3 hb1
  have HOB : Hid (∀ x ∈ os, -1 ≤ x ∧ x ≤ 12) := fun x hx => by have := ob x hx; omega
  have HZ := Lib.hid hz
  have hs12 := G2.size
  have hs23 := G3.size
  have hwb := C.size
  have HOL := Lib.hid ol
  have ltz : ∀ q, (Value.slice b zs.length c).ownBlock = some q → q < w2.heap.size := fun q hq => (World.ownsRow.lt O2 q hq).2
  have HLT := Lib.hid ltz
  have cp := own_capN O3
  have ol7 : os.length ≤ 7 := by omega
  have HO2 := Lib.hid O2'
  have HO3 := Lib.hid O3
  have HB3 := Lib.hid B3
  have HR3 := Lib.hid R3
  clear ob ol hz O2 O2' O3 B2 B3 R1 R2 R3 G2 G3 C h ltz
  by_cases h0 : os.length = 0
  · have e1 : decide (0 < (os.length : Int)) = false := decide_eq_false (by omega)
    have e2 : decide (0 < os.length) = false := decide_eq_false (by omega)
    clear h0
    go_wp2_with fail
    go_returns
    exact ⟨n, b, c, zs, b', c', os, rfl, n0, n1, hl, HZ.out, HOL.out, HOB.out, cp, HO2.out.at_, HO3.out.at_, HB3.out⟩
  · obtain ⟨g, rfl, hg⟩ := HO3.out.form_ (by omega)
    have e1 : decide (0 < (os.length : Int)) = true := decide_eq_true (by omega)
    have e2 : decide (0 < os.length) = true := decide_eq_true (by omega)
    have e3 : 0 < os.length := by omega
    have hR3 := HR3.out
    clear h0
    go_wp2_with fail
    refine (pick_any w.heap.size _ 16 _ hR3 (by omega)).mono ?_
    rintro e w4 ⟨p, rfl, hp, R4, G4⟩
    have hb4 := Nat.lt_of_lt_of_le hb3 G4.size
    have HO24 := Lib.hid (ownI_keptC HO2.out G4 hb1)
    have HO34 := Lib.hid (ownI_keptC HO3.out G4 hb2)
    have HB4 : Hid (Below w.heap.size w w4) := below_gv HB3.out G4 (fun q hq => by have := Option.some.inj hq; omega)
    have HR4 := Lib.hid R4
    have hs34 := G4.size
    clear G4 R4 hR3 hp HO2 HO3 HB3 HR3
    by_cases p0 : p = 0
    · have f1 : ((p : Int) == 0) = true := by rw [beq_iff_eq]; omega
      have hR4 := HR4.out
      have hq := HO34.out.cell (j := os.length - 1) (by omega)
      obtain ⟨q, hqe⟩ : ∃ q : Nat, os.length - 1 = q := ⟨_, rfl⟩
      have lx : -1 ≤ os.getD q 0 ∧ os.getD q 0 ≤ 12 := HOB.out _ (getD_mem (by omega))
      rw [hqe] at hq
      have wq : IntKind.i64.wrap ((os.length : Int) - 1) = (q : Int) := by rw [IntKind.wrap_i64]; omega
      have q0 : (0 : Int) ≤ (q : Int) := by omega
      have q1 : (q : Int) < (os.length : Int) := by omega
      generalize os.getD q 0 = lastx at *
      clear p0 hqe
      go_wp2_with fail
      refine (one_lit w.heap.size 3 _ (-1) 12 [-1, 12, lastx] _ w4 hR4 (by omega) hb4 rfl (by omega) (by omega) (by simp; omega)).mono ?_
      rintro e w8 ⟨z, rfl, z0, z1, R8, G8⟩
      have hO8 := ownI_keptC HO34.out G8 hb2
      have hc0 := hO8.cell (j := 0) e3
      have hf0 := hO8.frozen 0
      have hS := hO8.set_ 0 z
      have hs48 := G8.size
      have hB8 : Below w.heap.size w w8 := below_gv HB4.out G8 (fun q hq => by have := Option.some.inj hq; omega)
      have hB : Below w.heap.size w (w8.setCell ⟨g, 0, none⟩ (.int .i64 z)) := hB8.setCell (p := ⟨g, 0, none⟩) (by show w.heap.size ≤ g; omega) _
      have hI1 : IsInts (w8.setCell ⟨g, 0, none⟩ (.int .i64 z)) b zs := by
        have I8 := (ownI_keptC HO24.out G8 hb1).at_
        rcases I8 with e | ⟨gz, oz, e, hc⟩
        · exact .inl e
        · refine .inr ⟨gz, oz, e, fun i hi => ?_⟩
          have hne : gz ≠ g := fun c => by
            have := HLT.out gz (by rw [e]; rfl)
            omega
          exact (World.cell?_setCell_other w8 ⟨g, 0, none⟩ ⟨gz, oz + i, none⟩ _ (fun c => hne (by injection c with c1 c2; first | exact c1.symm | exact c1))).trans (hc i hi)
      have HF := Lib.hid (And.intro hI1 (And.intro hS.at_ hB))
      have HX : Hid (∀ x ∈ os.set 0 z, -1 ≤ x ∧ x ≤ 12) := fun x hx => by
        rcases List.mem_or_eq_of_mem_set hx with h | h
        · exact HOB.out x h
        · omega
      generalize os.getD 0 0 = y0 at hc0
      clear hS hO8 hB hB8 hI1 R8 G8 hR4 hq
      go_wp2_with fail
      go_returns
      exact ⟨n, b, c, zs, some ⟨g, 0, none⟩, c', os.set 0 z, by rw [List.length_set]; rfl, n0, n1, hl, HZ.out, by rw [List.length_set]; exact HOL.out, HX.out, by rw [List.length_set]; exact cp, HF.out.1, HF.out.2.1, HF.out.2.2⟩
    · have f1 : ((p : Int) == 0) = false := by rw [beq_eq_false_iff_ne]; omega
      clear p0
      go_wp2_with fail
      go_returns
      exact ⟨n, b, c, zs, some ⟨g, 0, none⟩, c', os, rfl, n0, n1, hl, HZ.out, HOL.out, HOB.out, cp, HO24.out.at_, HO34.out.at_, HB4.out⟩
end Go.Proofs.Ytojkgabkiagjdac
