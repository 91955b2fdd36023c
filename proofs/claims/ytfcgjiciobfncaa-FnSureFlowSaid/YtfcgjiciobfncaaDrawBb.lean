/- The draws of the laws on basins. No condition but those stated. -/
import Derived.Test.YtfcgjiciobfncaaDrawBa
namespace Go.Proofs.Ytfcgjiciobfncaa
open Go.RowKit
set_option linter.unusedSimpArgs false
set_option linter.unusedVariables false
theorem OwnI.cap_ {w : World} {base n c : Nat} {b : Option Addr} {zs : List Int} (h : OwnI w base (.slice b n c) zs) : n ≤ c := by
  rcases h.2 with ⟨e, h0⟩ | ⟨g, cap, cur, e, _, _, hc, _⟩
  · injection e with e1 e2 e3; omega
  · injection e with e1 e2 e3; omega
def DrawnBa (w : World) (e : Ending) (w' : World) : Prop := ∃ r h : Int, e = .returned (.agg #[.int .i64 r, .int .i64 h]) ∧ -1 ≤ r ∧ r ≤ 20001 ∧ 0 ≤ h ∧ h ≤ 20001 ∧ Below w.heap.size w w'
def DrawnStep (w : World) (e : Ending) (w' : World) : Prop := ∃ r h c q : Int, e = .returned (.tuple #[.agg #[.int .i64 r, .int .i64 h], .int .i64 c, .int .i64 q]) ∧ -1 ≤ r ∧ r ≤ 20001 ∧ 0 ≤ h ∧ h ≤ 20001 ∧ -1 ≤ c ∧ c ≤ 501 ∧ -1 ≤ q ∧ q ≤ 500 ∧ Below w.heap.size w w'
def DrawnRun (w : World) (e : Ending) (w' : World) : Prop := ∃ (r h : Int) (a : Option Addr) (ca : Nat) (cs : List Int) (b : Option Addr) (cb : Nat) (ws : List Int), e = .returned (.tuple #[.agg #[.int .i64 r, .int .i64 h], .slice a cs.length ca, .slice b ws.length cb]) ∧ (-1 ≤ r ∧ r ≤ 20001 ∧ 0 ≤ h ∧ h ≤ 20001) ∧ (cs.length ≤ 20 ∧ (∀ z ∈ cs, -1 ≤ z ∧ z ≤ 501) ∧ OwnI w' w.heap.size (.slice a cs.length ca) cs ∧ cs.length ≤ ca) ∧ (ws.length ≤ 21 ∧ (∀ z ∈ ws, 0 ≤ z ∧ z ≤ 40) ∧ OwnI w' w.heap.size (.slice b ws.length cb) ws ∧ ws.length ≤ cb) ∧ Below w.heap.size w w'
def DrawnNum (w : World) (e : Ending) (w' : World) : Prop := ∃ (n : Int) (a : Option Addr) (ca : Nat) (cs : List Int) (b : Option Addr) (cb : Nat) (ws : List Int), e = .returned (.tuple #[.int .i64 n, .slice a cs.length ca, .slice b ws.length cb]) ∧ (-1 ≤ n ∧ n ≤ 20001) ∧ (cs.length ≤ 20 ∧ (∀ z ∈ cs, -1 ≤ z ∧ z ≤ 501) ∧ IsInts w' a cs ∧ cs.length ≤ ca) ∧ (ws.length ≤ 21 ∧ (∀ z ∈ ws, 0 ≤ z ∧ z ≤ 40) ∧ IsInts w' b ws ∧ ws.length ≤ cb) ∧ Below w.heap.size w w'
def DrawnSure (w : World) (e : Ending) (w' : World) : Prop := ∃ (r h : Int) (a : Option Addr) (ca : Nat) (cs : List Int), e = .returned (.tuple #[.agg #[.int .i64 r, .int .i64 h], .slice a cs.length ca]) ∧ (-1 ≤ r ∧ r ≤ 20001 ∧ 0 ≤ h ∧ h ≤ 20001) ∧ (cs.length ≤ 20 ∧ (∀ z ∈ cs, -1 ≤ z ∧ z ≤ 501) ∧ IsInts w' a cs ∧ cs.length ≤ ca) ∧ Below w.heap.size w w'
def DrawnDay (w : World) (e : Ending) (w' : World) : Prop := ∃ (a : Option Addr) (ca : Nat) (cs : List Int) (b : Option Addr) (cb : Nat) (ws : List Int), e = .returned (.tuple #[.slice a cs.length ca, .slice b ws.length cb]) ∧ (cs.length ≤ 20 ∧ (∀ z ∈ cs, -1 ≤ z ∧ z ≤ 501) ∧ IsInts w' a cs ∧ cs.length ≤ ca) ∧ (ws.length ≤ 21 ∧ (∀ z ∈ ws, 0 ≤ z ∧ z ≤ 40) ∧ IsInts w' b ws ∧ ws.length ≤ cb) ∧ Below w.heap.size w w'
def DrawnFl (w : World) (e : Ending) (w' : World) : Prop := ∃ (a : Option Addr) (ca : Nat) (cs : List Int), e = .returned (.slice a cs.length ca) ∧ cs.length ≤ 20 ∧ (∀ z ∈ cs, -1 ≤ z ∧ z ≤ 501) ∧ IsInts w' a cs ∧ cs.length ≤ ca ∧ Below w.heap.size w w'
set_option maxRecDepth 100000 in
set_option maxHeartbeats 4000000 in
theorem drawValidBasin (a : Option Addr) (len cap : Nat) (zs : List Int) (w : World) (h : IsRow .u8 w a len cap zs) :
    Calls Try.prog 17 #[.slice a len cap] w (DrawnBa w) := by
  have h2 : IsRow .u8 (w.alloc (.cells #[.int .i64 0, .int .i64 0] 24)) a len cap zs := row_below h ((Below.refl _ w).alloc (Nat.le_refl _) _)
  have K0 := Blk.new w 24 #[.int .i64 0, .int .i64 0]
  have B0 := (Below.refl w.heap.size w).alloc (Nat.le_refl _) (.cells #[.int .i64 0, .int .i64 0] 24)
  go_enter Try.func17, Try.ntmps17
  go_wp2_with fail
  have hs : w.heap.size + 1 = (w.alloc (.cells #[.int .i64 0, .int .i64 0] 24)).heap.size := by simp
  generalize w.alloc (.cells #[.int .i64 0, .int .i64 0] 24) = w0 at *
  refine (newReader_any a len cap zs _ h2).mono ?_
  rintro e w1 ⟨rfl, R1, C, hb1⟩
  have K1 := K0.next C
  have B1 := bel_tr B0 C
  have nb : w.heap.size ≠ w0.heap.size := by omega
  have hb : w.heap.size ≤ w0.heap.size := by omega
  clear h h2 K0 C B0
  go_wp2_with fail
  refine (anyBa w0.heap.size _ w1 R1 (by omega) (by omega)).mono ?_
  rintro e w2 ⟨r, h, rfl, r0, r1, h0, h1, R2, G⟩
  have K2 := K1.grown G (fun c => nb (Option.some.inj c))
  have B2 := below_gv B1 G (fun q hq => by have := Option.some.inj hq; omega)
  have hb2 : w0.heap.size < w2.heap.size := Nat.lt_of_lt_of_le hb1 G.size
  clear G K1 B1 R1
  obtain ⟨t0, t1, t2, t3, t4⟩ := blk_two K2
  obtain ⟨f0, f1, _, _, _⟩ := blk_two (K2.two (.int .i64 r) (.int .i64 h))
  have BF := Lib.hid ((B2.setCell (p := ⟨w.heap.size, 0, none⟩) (Nat.le_refl _) (.int .i64 r)).setCell (p := ⟨w.heap.size, 1, none⟩) (Nat.le_refl _) (.int .i64 h))
  clear K2 B2
  go_wp2_with fail
  refine bodyPost_ret (v := .agg #[.int .i64 r, .int .i64 h]) (by simp [results, Try.results17, go_sem, f0, f1]) rfl ⟨r, h, rfl, r0, r1, h0, h1, BF.out⟩
set_option maxRecDepth 100000 in
set_option maxHeartbeats 4000000 in
theorem drawStep (a : Option Addr) (len cap : Nat) (zs : List Int) (w : World) (h : IsRow .u8 w a len cap zs) :
    Calls Try.prog 20 #[.slice a len cap] w (DrawnStep w) := by
  have h2 : IsRow .u8 (w.alloc (.cells #[.int .i64 0, .int .i64 0] 24)) a len cap zs := row_below h ((Below.refl _ w).alloc (Nat.le_refl _) _)
  have K0 := Blk.new w 24 #[.int .i64 0, .int .i64 0]
  have B0 := (Below.refl w.heap.size w).alloc (Nat.le_refl _) (.cells #[.int .i64 0, .int .i64 0] 24)
  go_enter Try.func20, Try.ntmps20
  go_wp2_with fail
  have hs : w.heap.size + 1 = (w.alloc (.cells #[.int .i64 0, .int .i64 0] 24)).heap.size := by simp
  generalize w.alloc (.cells #[.int .i64 0, .int .i64 0] 24) = w0 at *
  refine (newReader_any a len cap zs _ h2).mono ?_
  rintro e w1 ⟨rfl, R1, C, hb1⟩
  have K1 := K0.next C
  have B1 := bel_tr B0 C
  have nb : w.heap.size ≠ w0.heap.size := by omega
  have hb : w.heap.size ≤ w0.heap.size := by omega
  clear h h2 K0 C B0
  go_wp2_with fail
  refine (anyBa w0.heap.size _ w1 R1 (by omega) (by omega)).mono ?_
  rintro e w2 ⟨r, h, rfl, r0, r1, h0, h1, R2, G⟩
  have K2 := K1.grown G (fun c => nb (Option.some.inj c))
  have B2 := below_gv B1 G (fun q hq => by have := Option.some.inj hq; omega)
  have hb2 : w0.heap.size < w2.heap.size := Nat.lt_of_lt_of_le hb1 G.size
  clear G K1 B1 R1
  go_wp2_with fail
  refine (pick_any w0.heap.size _ 60 w2 R2 (by omega)).mono ?_
  rintro e w3 ⟨p, rfl, ph, R3, G⟩
  have pb : (p : Int) ≤ 60 := by omega
  have K3 := K2.grown G (fun c => nb (Option.some.inj c))
  have B3 := below_gv B2 G (fun q hq => by have := Option.some.inj hq; omega)
  have hb3 : w0.heap.size < w3.heap.size := Nat.lt_of_lt_of_le hb2 G.size
  clear G K2 B2 R2 ph
  go_wp2_with fail
  refine (one_lit w0.heap.size 6 _ (-1) 501 [10, 30, 0, 500, 501, (p : Int)] _ w3 R3 (by omega) hb3 rfl (by omega) (by omega) (by simp; omega)).mono ?_
  rintro e w4 ⟨c, rfl, c0, c1, R4, G⟩
  have K4 := K3.grown G (fun c => nb (Option.some.inj c))
  have B4 := below_gv B3 G (fun q hq => by have := Option.some.inj hq; omega)
  have hb4 : w0.heap.size < w4.heap.size := Nat.lt_of_lt_of_le hb3 G.size
  clear G K3 B3 R3
  go_wp2_with fail
  refine (one_lit w0.heap.size 6 _ (-1) 500 [10, 20, 0, 60, 500, -1] _ w4 R4 (by omega) hb4 rfl (by omega) (by omega) (by simp)).mono ?_
  rintro e w5 ⟨q, rfl, q0, q1, R5, G⟩
  have K5 := K4.grown G (fun c => nb (Option.some.inj c))
  have B5 := below_gv B4 G (fun q hq => by have := Option.some.inj hq; omega)
  have hb5 : w0.heap.size < w5.heap.size := Nat.lt_of_lt_of_le hb4 G.size
  clear G K4 B4 R4
  obtain ⟨t0, t1, t2, t3, t4⟩ := blk_two K5
  obtain ⟨f0, f1, _, _, _⟩ := blk_two (K5.two (.int .i64 r) (.int .i64 h))
  have BF := Lib.hid ((B5.setCell (p := ⟨w.heap.size, 0, none⟩) (Nat.le_refl _) (.int .i64 r)).setCell (p := ⟨w.heap.size, 1, none⟩) (Nat.le_refl _) (.int .i64 h))
  clear K5 B5
  go_wp2_with fail
  refine bodyPost_ret (v := .tuple #[.agg #[.int .i64 r, .int .i64 h], .int .i64 c, .int .i64 q]) (by simp [results, Try.results20, go_sem, f0, f1]) rfl ⟨r, h, c, q, rfl, r0, r1, h0, h1, c0, c1, q0, q1, BF.out⟩
set_option maxRecDepth 100000 in
set_option maxHeartbeats 4000000 in
theorem drawRun (a : Option Addr) (len cap : Nat) (zs : List Int) (w : World) (h : IsRow .u8 w a len cap zs) :
    Calls Try.prog 23 #[.slice a len cap] w (DrawnRun w) := by
  have h2 : IsRow .u8 (w.alloc (.cells #[.int .i64 0, .int .i64 0] 24)) a len cap zs := row_below h ((Below.refl _ w).alloc (Nat.le_refl _) _)
  have K0 := Blk.new w 24 #[.int .i64 0, .int .i64 0]
  have B0 := (Below.refl w.heap.size w).alloc (Nat.le_refl _) (.cells #[.int .i64 0, .int .i64 0] 24)
  go_enter Try.func23, Try.ntmps23
  go_wp2_with fail
  have hs : w.heap.size + 1 = (w.alloc (.cells #[.int .i64 0, .int .i64 0] 24)).heap.size := by simp
  generalize w.alloc (.cells #[.int .i64 0, .int .i64 0] 24) = w0 at *
  refine (newReader_any a len cap zs _ h2).mono ?_
  rintro e w1 ⟨rfl, R1, C, hb1⟩
  have K1 := K0.next C
  have B1 := bel_tr B0 C
  have nb : w.heap.size ≠ w0.heap.size := by omega
  have hb : w.heap.size ≤ w0.heap.size := by omega
  clear h h2 K0 C B0
  go_wp2_with fail
  refine (anyBa w0.heap.size _ w1 R1 (by omega) (by omega)).mono ?_
  rintro e w2 ⟨r, h, rfl, r0, r1, h0, h1, R2, G⟩
  have K2 := K1.grown G (fun c => nb (Option.some.inj c))
  have B2 := below_gv B1 G (fun q hq => by have := Option.some.inj hq; omega)
  have hb2 : w0.heap.size < w2.heap.size := Nat.lt_of_lt_of_le hb1 G.size
  clear G K1 B1 R1
  have hs2 : w.heap.size < w2.heap.size := K2.lt
  have J3 := Blk.new w2 24 #[.int .i64 r, .int .i64 h]
  have K3 := K2.alloc (.cells #[.int .i64 r, .int .i64 h] 24)
  have R3 := rd_alloc R2 hb2 (.cells #[.int .i64 r, .int .i64 h] 24)
  have B3 := B2.alloc B2.size (.cells #[.int .i64 r, .int .i64 h] 24)
  have hb3 : w0.heap.size < (w2.alloc (.cells #[.int .i64 r, .int .i64 h] 24)).heap.size := by rw [World.size_alloc]; omega
  have nj : w2.heap.size ≠ w0.heap.size := by omega
  clear K2 B2 R2
  go_wp2_with fail
  generalize w2.alloc (.cells #[.int .i64 r, .int .i64 h] 24) = w3 at *
  refine (dayOf w0.heap.size _ w3 R3 (by omega) hb3).mono ?_
  rintro e w4 ⟨v1, v2, cs, ws, rfl, lc, lw, hcs, hws, O1, O2, R4, G⟩
  obtain ⟨b1, c1, rfl, I1⟩ := O1.ints
  obtain ⟨b2, c2, rfl, I2⟩ := O2.ints
  have p1 := O1.cap_
  have p2 := O2.cap_
  have K4 := K3.grown G (fun c => nb (Option.some.inj c))
  have B4 := below_gv B3 G (fun q hq => by have := Option.some.inj hq; omega)
  have J4 := J3.grown G (fun c => nj (Option.some.inj c))
  have lt4 := J4.lt
  have gr1 := O1.grow
  have gr2 := O2.grow
  have lt3 := J3.lt
  have kl3 := K3.lt
  have I1f : OwnI ((w4.setCell ⟨w.heap.size, 0, none⟩ (.int .i64 r)).setCell ⟨w.heap.size, 1, none⟩ (.int .i64 h)) w.heap.size (.slice b1 cs.length c1) cs := own_lower ((O1.far (g := w.heap.size) (j := 0) (fun c => by have := gr1 _ c; omega) (.int .i64 r)).far (g := w.heap.size) (j := 1) (fun c => by have := gr1 _ c; omega) (.int .i64 h)) (by omega)
  have I2f : OwnI ((w4.setCell ⟨w.heap.size, 0, none⟩ (.int .i64 r)).setCell ⟨w.heap.size, 1, none⟩ (.int .i64 h)) w.heap.size (.slice b2 ws.length c2) ws := own_lower ((O2.far (g := w.heap.size) (j := 0) (fun c => by have := gr2 _ c; omega) (.int .i64 r)).far (g := w.heap.size) (j := 1) (fun c => by have := gr2 _ c; omega) (.int .i64 h)) (by omega)
  have HI := Lib.hid (And.intro I1f I2f)
  obtain ⟨s0, s1, s2, s3, s4⟩ := blk_two J4
  clear J3 K3 B3 R3 R4 G O1 O2 I1 I2 I1f I2f gr1 gr2 J4
  obtain ⟨t0, t1, t2, t3, t4⟩ := blk_two K4
  obtain ⟨f0, f1, _, _, _⟩ := blk_two (K4.two (.int .i64 r) (.int .i64 h))
  have BF := Lib.hid ((B4.setCell (p := ⟨w.heap.size, 0, none⟩) (Nat.le_refl _) (.int .i64 r)).setCell (p := ⟨w.heap.size, 1, none⟩) (Nat.le_refl _) (.int .i64 h))
  clear K4 B4
  go_wp2_with fail
  refine bodyPost_ret (v := .tuple #[.agg #[.int .i64 r, .int .i64 h], .slice b1 cs.length c1, .slice b2 ws.length c2]) (by simp [results, Try.results23, go_sem, f0, f1]) rfl ⟨r, h, b1, c1, cs, b2, c2, ws, rfl, ⟨r0, r1, h0, h1⟩, ⟨lc, hcs, HI.out.1, p1⟩, ⟨lw, hws, HI.out.2, p2⟩, BF.out⟩
set_option maxHeartbeats 4000000 in
theorem drawSpills (a : Option Addr) (len cap : Nat) (zs : List Int) (w : World) (h : IsRow .u8 w a len cap zs) :
    Calls Try.prog 30 #[.slice a len cap] w (DrawnRun w) := by
  have h2 : IsRow .u8 (w.alloc (.cells #[.int .i64 0, .int .i64 0] 24)) a len cap zs := row_below h ((Below.refl _ w).alloc (Nat.le_refl _) _)
  have K0 := Blk.new w 24 #[.int .i64 0, .int .i64 0]
  have B0 := (Below.refl w.heap.size w).alloc (Nat.le_refl _) (.cells #[.int .i64 0, .int .i64 0] 24)
  go_enter Try.func30, Try.ntmps30
  go_wp2_with fail
  have hs : w.heap.size + 1 = (w.alloc (.cells #[.int .i64 0, .int .i64 0] 24)).heap.size := by simp
  generalize w.alloc (.cells #[.int .i64 0, .int .i64 0] 24) = w0 at *
  refine (drawRun a len cap zs _ h2).mono ?_
  rintro e w1 ⟨r, h, b1, c1, cs, b2, c2, ws, rfl, ⟨r0, r1, h0, h1⟩, ⟨lc, hcs, O1, p1⟩, ⟨lw, hws, O2, p2⟩, C⟩
  have gr1 := O1.grow
  have gr2 := O2.grow
  have K1 := K0.next C
  have B1 := bel_tr B0 C
  have I1f : OwnI ((w1.setCell ⟨w.heap.size, 0, none⟩ (.int .i64 r)).setCell ⟨w.heap.size, 1, none⟩ (.int .i64 h)) w.heap.size (.slice b1 cs.length c1) cs := own_lower ((O1.far (g := w.heap.size) (j := 0) (fun c => by have := gr1 _ c; omega) (.int .i64 r)).far (g := w.heap.size) (j := 1) (fun c => by have := gr1 _ c; omega) (.int .i64 h)) (by omega)
  have I2f : OwnI ((w1.setCell ⟨w.heap.size, 0, none⟩ (.int .i64 r)).setCell ⟨w.heap.size, 1, none⟩ (.int .i64 h)) w.heap.size (.slice b2 ws.length c2) ws := own_lower ((O2.far (g := w.heap.size) (j := 0) (fun c => by have := gr2 _ c; omega) (.int .i64 r)).far (g := w.heap.size) (j := 1) (fun c => by have := gr2 _ c; omega) (.int .i64 h)) (by omega)
  have HI := Lib.hid (And.intro I1f I2f)
  clear h2 K0 B0 C O1 O2 I1f I2f gr1 gr2
  obtain ⟨t0, t1, t2, t3, t4⟩ := blk_two K1
  obtain ⟨f0, f1, _, _, _⟩ := blk_two (K1.two (.int .i64 r) (.int .i64 h))
  have BF := Lib.hid ((B1.setCell (p := ⟨w.heap.size, 0, none⟩) (Nat.le_refl _) (.int .i64 r)).setCell (p := ⟨w.heap.size, 1, none⟩) (Nat.le_refl _) (.int .i64 h))
  clear K1 B1
  go_wp2_with fail
  refine bodyPost_ret (v := .tuple #[.agg #[.int .i64 r, .int .i64 h], .slice b1 cs.length c1, .slice b2 ws.length c2]) (by simp [results, Try.results30, go_sem, f0, f1]) rfl ⟨r, h, b1, c1, cs, b2, c2, ws, rfl, ⟨r0, r1, h0, h1⟩, ⟨lc, hcs, HI.out.1, p1⟩, ⟨lw, hws, HI.out.2, p2⟩, BF.out⟩
set_option maxHeartbeats 4000000 in
theorem drawShort (a : Option Addr) (len cap : Nat) (zs : List Int) (w : World) (h : IsRow .u8 w a len cap zs) :
    Calls Try.prog 32 #[.slice a len cap] w (DrawnRun w) := by
  have h2 : IsRow .u8 (w.alloc (.cells #[.int .i64 0, .int .i64 0] 24)) a len cap zs := row_below h ((Below.refl _ w).alloc (Nat.le_refl _) _)
  have K0 := Blk.new w 24 #[.int .i64 0, .int .i64 0]
  have B0 := (Below.refl w.heap.size w).alloc (Nat.le_refl _) (.cells #[.int .i64 0, .int .i64 0] 24)
  go_enter Try.func32, Try.ntmps32
  go_wp2_with fail
  have hs : w.heap.size + 1 = (w.alloc (.cells #[.int .i64 0, .int .i64 0] 24)).heap.size := by simp
  generalize w.alloc (.cells #[.int .i64 0, .int .i64 0] 24) = w0 at *
  refine (drawRun a len cap zs _ h2).mono ?_
  rintro e w1 ⟨r, h, b1, c1, cs, b2, c2, ws, rfl, ⟨r0, r1, h0, h1⟩, ⟨lc, hcs, O1, p1⟩, ⟨lw, hws, O2, p2⟩, C⟩
  have gr1 := O1.grow
  have gr2 := O2.grow
  have K1 := K0.next C
  have B1 := bel_tr B0 C
  have I1f : OwnI ((w1.setCell ⟨w.heap.size, 0, none⟩ (.int .i64 r)).setCell ⟨w.heap.size, 1, none⟩ (.int .i64 h)) w.heap.size (.slice b1 cs.length c1) cs := own_lower ((O1.far (g := w.heap.size) (j := 0) (fun c => by have := gr1 _ c; omega) (.int .i64 r)).far (g := w.heap.size) (j := 1) (fun c => by have := gr1 _ c; omega) (.int .i64 h)) (by omega)
  have I2f : OwnI ((w1.setCell ⟨w.heap.size, 0, none⟩ (.int .i64 r)).setCell ⟨w.heap.size, 1, none⟩ (.int .i64 h)) w.heap.size (.slice b2 ws.length c2) ws := own_lower ((O2.far (g := w.heap.size) (j := 0) (fun c => by have := gr2 _ c; omega) (.int .i64 r)).far (g := w.heap.size) (j := 1) (fun c => by have := gr2 _ c; omega) (.int .i64 h)) (by omega)
  have HI := Lib.hid (And.intro I1f I2f)
  clear h2 K0 B0 C O1 O2 I1f I2f gr1 gr2
  obtain ⟨t0, t1, t2, t3, t4⟩ := blk_two K1
  obtain ⟨f0, f1, _, _, _⟩ := blk_two (K1.two (.int .i64 r) (.int .i64 h))
  have BF := Lib.hid ((B1.setCell (p := ⟨w.heap.size, 0, none⟩) (Nat.le_refl _) (.int .i64 r)).setCell (p := ⟨w.heap.size, 1, none⟩) (Nat.le_refl _) (.int .i64 h))
  clear K1 B1
  go_wp2_with fail
  refine bodyPost_ret (v := .tuple #[.agg #[.int .i64 r, .int .i64 h], .slice b1 cs.length c1, .slice b2 ws.length c2]) (by simp [results, Try.results32, go_sem, f0, f1]) rfl ⟨r, h, b1, c1, cs, b2, c2, ws, rfl, ⟨r0, r1, h0, h1⟩, ⟨lc, hcs, HI.out.1, p1⟩, ⟨lw, hws, HI.out.2, p2⟩, BF.out⟩
set_option maxRecDepth 100000 in
set_option maxHeartbeats 4000000 in
theorem drawLeastRoom (a : Option Addr) (len cap : Nat) (zs : List Int) (w : World) (h : IsRow .u8 w a len cap zs) :
    Calls Try.prog 35 #[.slice a len cap] w (DrawnNum w) := by
  go_enter Try.func35, Try.ntmps35
  go_wp2_with fail
  refine (newReader_any a len cap zs _ h).mono ?_
  rintro e w1 ⟨rfl, R1, B1, hb1⟩
  have hb : w.heap.size ≤ w.heap.size := Nat.le_refl _
  clear h
  go_wp2_with fail
  refine (one_lit w.heap.size 7 _ (-1) 20001 [20, 50, 0, 100, 20000, 20001, -1] _ w1 R1 (by omega) hb1 rfl (by omega) (by omega) (by simp)).mono ?_
  rintro e w2 ⟨n, rfl, n0, n1, R2, G⟩

  have B2 := below_gv B1 G (fun q hq => by have := Option.some.inj hq; omega)
  have hb2 : w.heap.size < w2.heap.size := Nat.lt_of_lt_of_le hb1 G.size
  clear G B1 R1
  go_wp2_with fail
  refine (dayOf w.heap.size _ w2 R2 (by omega) hb2).mono ?_
  rintro e w3 ⟨v1, v2, cs, ws, rfl, lc, lw, hcs, hws, O1, O2, R3, G⟩
  obtain ⟨b1, c1, rfl, I1⟩ := O1.ints
  obtain ⟨b2, c2, rfl, I2⟩ := O2.ints
  have p1 := O1.cap_
  have p2 := O2.cap_

  have B3 := below_gv B2 G (fun q hq => by have := Option.some.inj hq; omega)
  clear R3 G O1 O2 B2 R2
  go_wp2_with fail
  go_returns
  exact ⟨n, b1, c1, cs, b2, c2, ws, rfl, ⟨n0, n1⟩, ⟨lc, hcs, I1, p1⟩, ⟨lw, hws, I2, p2⟩, B3⟩
set_option maxRecDepth 100000 in
set_option maxHeartbeats 4000000 in
theorem drawLeastHeld (a : Option Addr) (len cap : Nat) (zs : List Int) (w : World) (h : IsRow .u8 w a len cap zs) :
    Calls Try.prog 38 #[.slice a len cap] w (DrawnNum w) := by
  go_enter Try.func38, Try.ntmps38
  go_wp2_with fail
  refine (newReader_any a len cap zs _ h).mono ?_
  rintro e w1 ⟨rfl, R1, B1, hb1⟩
  have hb : w.heap.size ≤ w.heap.size := Nat.le_refl _
  clear h
  go_wp2_with fail
  refine (one_lit w.heap.size 7 _ (-1) 20001 [60, 100, 30, 200, 0, 20000, 20001] _ w1 R1 (by omega) hb1 rfl (by omega) (by omega) (by simp)).mono ?_
  rintro e w2 ⟨n, rfl, n0, n1, R2, G⟩

  have B2 := below_gv B1 G (fun q hq => by have := Option.some.inj hq; omega)
  have hb2 : w.heap.size < w2.heap.size := Nat.lt_of_lt_of_le hb1 G.size
  clear G B1 R1
  go_wp2_with fail
  refine (dayOf w.heap.size _ w2 R2 (by omega) hb2).mono ?_
  rintro e w3 ⟨v1, v2, cs, ws, rfl, lc, lw, hcs, hws, O1, O2, R3, G⟩
  obtain ⟨b1, c1, rfl, I1⟩ := O1.ints
  obtain ⟨b2, c2, rfl, I2⟩ := O2.ints
  have p1 := O1.cap_
  have p2 := O2.cap_

  have B3 := below_gv B2 G (fun q hq => by have := Option.some.inj hq; omega)
  clear R3 G O1 O2 B2 R2
  go_wp2_with fail
  go_returns
  exact ⟨n, b1, c1, cs, b2, c2, ws, rfl, ⟨n0, n1⟩, ⟨lc, hcs, I1, p1⟩, ⟨lw, hws, I2, p2⟩, B3⟩
set_option maxRecDepth 100000 in
set_option maxHeartbeats 4000000 in
theorem drawSure (a : Option Addr) (len cap : Nat) (zs : List Int) (w : World) (h : IsRow .u8 w a len cap zs) :
    Calls Try.prog 44 #[.slice a len cap] w (DrawnSure w) := by
  have h2 : IsRow .u8 (w.alloc (.cells #[.int .i64 0, .int .i64 0] 24)) a len cap zs := row_below h ((Below.refl _ w).alloc (Nat.le_refl _) _)
  have K0 := Blk.new w 24 #[.int .i64 0, .int .i64 0]
  have B0 := (Below.refl w.heap.size w).alloc (Nat.le_refl _) (.cells #[.int .i64 0, .int .i64 0] 24)
  go_enter Try.func44, Try.ntmps44
  go_wp2_with fail
  have hs : w.heap.size + 1 = (w.alloc (.cells #[.int .i64 0, .int .i64 0] 24)).heap.size := by simp
  generalize w.alloc (.cells #[.int .i64 0, .int .i64 0] 24) = w0 at *
  refine (newReader_any a len cap zs _ h2).mono ?_
  rintro e w1 ⟨rfl, R1, C, hb1⟩
  have K1 := K0.next C
  have B1 := bel_tr B0 C
  have nb : w.heap.size ≠ w0.heap.size := by omega
  have hb : w.heap.size ≤ w0.heap.size := by omega
  clear h h2 K0 C B0
  go_wp2_with fail
  refine (anyBa w0.heap.size _ w1 R1 (by omega) (by omega)).mono ?_
  rintro e w2 ⟨r, h, rfl, r0, r1, h0, h1, R2, G⟩
  have K2 := K1.grown G (fun c => nb (Option.some.inj c))
  have B2 := below_gv B1 G (fun q hq => by have := Option.some.inj hq; omega)
  have hb2 : w0.heap.size < w2.heap.size := Nat.lt_of_lt_of_le hb1 G.size
  clear G K1 B1 R1
  go_wp2_with fail
  have kl2 := K2.lt
  refine (someFl w0.heap.size _ w2 R2 (by omega) hb2).mono ?_
  rintro e w3 ⟨v1, cs, rfl, lc, hcs, O1, R3, G⟩
  obtain ⟨b1, c1, rfl, I1⟩ := O1.ints
  have p1 := O1.cap_
  have K3 := K2.grown G (fun c => nb (Option.some.inj c))
  have B3 := below_gv B2 G (fun q hq => by have := Option.some.inj hq; omega)
  have gr1 := O1.grow
  have I1f : IsInts ((w3.setCell ⟨w.heap.size, 0, none⟩ (.int .i64 r)).setCell ⟨w.heap.size, 1, none⟩ (.int .i64 h)) b1 cs := ((O1.far (g := w.heap.size) (j := 0) (fun c => by have := gr1 _ c; omega) (.int .i64 r)).far (g := w.heap.size) (j := 1) (fun c => by have := gr1 _ c; omega) (.int .i64 h)).at_
  have HI := Lib.hid I1f
  clear R3 G O1 I1 I1f gr1
  obtain ⟨t0, t1, t2, t3, t4⟩ := blk_two K3
  obtain ⟨f0, f1, _, _, _⟩ := blk_two (K3.two (.int .i64 r) (.int .i64 h))
  have BF := Lib.hid ((B3.setCell (p := ⟨w.heap.size, 0, none⟩) (Nat.le_refl _) (.int .i64 r)).setCell (p := ⟨w.heap.size, 1, none⟩) (Nat.le_refl _) (.int .i64 h))
  clear K3 B3
  go_wp2_with fail
  refine bodyPost_ret (v := .tuple #[.agg #[.int .i64 r, .int .i64 h], .slice b1 cs.length c1]) (by simp [results, Try.results44, go_sem, f0, f1]) rfl ⟨r, h, b1, c1, cs, rfl, ⟨r0, r1, h0, h1⟩, ⟨lc, hcs, HI.out, p1⟩, BF.out⟩
set_option maxRecDepth 100000 in
set_option maxHeartbeats 4000000 in
theorem drawDay (a : Option Addr) (len cap : Nat) (zs : List Int) (w : World) (h : IsRow .u8 w a len cap zs) :
    Calls Try.prog 42 #[.slice a len cap] w (DrawnDay w) := by
  go_enter Try.func42, Try.ntmps42
  go_wp2_with fail
  refine (newReader_any a len cap zs _ h).mono ?_
  rintro e w1 ⟨rfl, R1, B1, hb1⟩
  have hb : w.heap.size ≤ w.heap.size := Nat.le_refl _
  clear h
  go_wp2_with fail
  refine (dayOf w.heap.size _ w1 R1 (by omega) hb1).mono ?_
  rintro e w2 ⟨v1, v2, cs, ws, rfl, lc, lw, hcs, hws, O1, O2, R2, G⟩
  obtain ⟨b1, c1, rfl, I1⟩ := O1.ints
  obtain ⟨b2, c2, rfl, I2⟩ := O2.ints
  have p1 := O1.cap_
  have p2 := O2.cap_

  have B2 := below_gv B1 G (fun q hq => by have := Option.some.inj hq; omega)
  clear R2 G O1 O2
  go_wp2_with fail
  go_returns
  exact ⟨b1, c1, cs, b2, c2, ws, rfl, ⟨lc, hcs, I1, p1⟩, ⟨lw, hws, I2, p2⟩, B2⟩
set_option maxRecDepth 100000 in
set_option maxHeartbeats 4000000 in
theorem drawSums (a : Option Addr) (len cap : Nat) (zs : List Int) (w : World) (h : IsRow .u8 w a len cap zs) :
    Calls Try.prog 48 #[.slice a len cap] w (DrawnFl w) := by
  go_enter Try.func48, Try.ntmps48
  go_wp2_with fail
  refine (newReader_any a len cap zs _ h).mono ?_
  rintro e w1 ⟨rfl, R1, B1, hb1⟩
  have hb : w.heap.size ≤ w.heap.size := Nat.le_refl _
  clear h
  go_wp2_with fail
  refine (someFl w.heap.size _ w1 R1 (by omega) hb1).mono ?_
  rintro e w2 ⟨v1, cs, rfl, lc, hcs, O1, R2, G⟩
  obtain ⟨b1, c1, rfl, I1⟩ := O1.ints
  have p1 := O1.cap_

  have B2 := below_gv B1 G (fun q hq => by have := Option.some.inj hq; omega)
  clear R2 G O1
  go_wp2_with fail
  go_ret
  exact ⟨b1, c1, cs, rfl, lc, hcs, I1, p1, B2⟩
end Go.Proofs.Ytfcgjiciobfncaa
