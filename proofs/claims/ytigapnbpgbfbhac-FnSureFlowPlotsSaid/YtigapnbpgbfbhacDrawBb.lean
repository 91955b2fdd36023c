/- The draws of the laws on basins. No condition but those stated. -/
import Derived.Test.YtigapnbpgbfbhacDrawBa
namespace Go.Proofs.Ytigapnbpgbfbhac
open Go.RowKit
set_option linter.unusedSimpArgs false
set_option linter.unusedVariables false
theorem OwnI.cap_ {w : World} {base n c : Nat} {b : Option Addr} {zs : List Int} (h : OwnI w base (.slice b n c) zs) : n ≤ c := by
  rcases h.2 with ⟨e, h0⟩ | ⟨g, cap, cur, e, _, _, hc, _⟩
  · injection e with e1 e2 e3; omega
  · injection e with e1 e2 e3; omega
def DrawnBa (w : World) (e : Ending) (w' : World) : Prop := ∃ r h : Int, e = .returned (.agg #[.int .i64 r, .int .i64 h]) ∧ -1 ≤ r ∧ r ≤ 20001 ∧ 0 ≤ h ∧ h ≤ 20001 ∧ Below w.heap.size w w'
def DrawnStep (w : World) (e : Ending) (w' : World) : Prop := ∃ r h c q : Int, e = .returned (.tuple #[.agg #[.int .i64 r, .int .i64 h], .int .i64 c, .int .i64 q]) ∧ -1 ≤ r ∧ r ≤ 20001 ∧ 0 ≤ h ∧ h ≤ 20001 ∧ -1 ≤ c ∧ c ≤ 501 ∧ -1 ≤ q ∧ q ≤ 500 ∧ Below w.heap.size w w'
def DrawnRun (w : World) (e : Ending) (w' : World) : Prop := ∃ (r h : Int) (a : Option Addr) (ca : Nat) (cs : List Int) (b : Option Addr) (cb : Nat) (ws : List Int), e = .returned (.tuple #[.agg #[.int .i64 r, .int .i64 h], .slice a cs.length ca, .slice b ws.length cb]) ∧ (-1 ≤ r ∧ r ≤ 20001 ∧ 0 ≤ h ∧ h ≤ 20001) ∧ (cs.length ≤ 20 ∧ (∀ z ∈ cs, -1 ≤ z ∧ z ≤ 501) ∧ OwnI w' w.heap.size (.slice a cs.length ca) cs ∧ cs.length ≤ ca) ∧ (ws.length ≤ 21 ∧ (∀ z ∈ ws, 0 ≤ z ∧ z ≤ 40) ∧ OwnI w' w.heap.size (.slice b ws.length cb) ws ∧ ws.length ≤ cb) ∧ Below w.heap.size w w'
def DrawnNum (w : World) (e : Ending) (w' : World) : Prop := ∃ (n : Int) (a : Option Addr) (ca : Nat) (cs : List Int) (b : Option Addr) (cb : Nat) (ws : List Int), e = .returned (.tuple #[.int .i64 n, .slice a cs.length ca, .slice b ws.length cb]) ∧ (-1 ≤ n ∧ n ≤ 20001) ∧ (cs.length ≤ 20 ∧ (∀ z ∈ cs, -1 ≤ z ∧ z ≤ 501) ∧ IsInts w' a cs ∧ cs.length ≤ ca) ∧ (ws.length ≤ 21 ∧ (∀ z ∈ ws, 0 ≤ z ∧ z ≤ 40) ∧ IsInts w' b ws ∧ ws.length ≤ cb) ∧ Below w.heap.size w w'
def DrawnSure (w : World) (e : Ending) (w' : World) : Prop := ∃ (r h : Int) (a : Option Addr) (ca : Nat) (cs : List Int), e = .returned (.tuple #[.agg #[.int .i64 r, .int .i64 h], .slice a cs.length ca]) ∧ (-1 ≤ r ∧ r ≤ 20001 ∧ 0 ≤ h ∧ h ≤ 20001) ∧ (cs.length ≤ 20 ∧ (∀ z ∈ cs, -1 ≤ z ∧ z ≤ 501) ∧ IsInts w' a cs ∧ cs.length ≤ ca) ∧ Below w.heap.size w w'
def DrawnDay (w : World) (e : Ending) (w' : World) : Prop := ∃ (a : Option Addr) (ca : Nat) (cs : List Int) (b : Option Addr) (cb : Nat) (ws : List Int), e = .returned (.tuple #[.slice a cs.length ca, .slice b ws.length cb]) ∧ (cs.length ≤ 20 ∧ (∀ z ∈ cs, -1 ≤ z ∧ z ≤ 501) ∧ IsInts w' a cs ∧ cs.length ≤ ca) ∧ (ws.length ≤ 21 ∧ (∀ z ∈ ws, 0 ≤ z ∧ z ≤ 40) ∧ IsInts w' b ws ∧ ws.length ≤ cb) ∧ Below w.heap.size w w'
def DrawnFl (w : World) (e : Ending) (w' : World) : Prop := ∃ (a : Option Addr) (ca : Nat) (cs : List Int), e = .returned (.slice a cs.length ca) ∧ cs.length ≤ 20 ∧ (∀ z ∈ cs, -1 ≤ z ∧ z ≤ 501) ∧ IsInts w' a cs ∧ cs.length ≤ ca ∧ Below w.heap.size w w'
set_option maxRecDepth 100000 in
set_option maxHeartbeats 4000000 in
theorem drawSure (a : Option Addr) (len cap : Nat) (zs : List Int) (w : World) (h : IsRow .u8 w a len cap zs) :
    Calls Try.prog 35 #[.slice a len cap] w (DrawnSure w) := by
  have h2 : IsRow .u8 (w.alloc (.cells #[.int .i64 0, .int .i64 0] 51)) a len cap zs := row_below h ((Below.refl _ w).alloc (Nat.le_refl _) _)
  have K0 := Blk.new w 51 #[.int .i64 0, .int .i64 0]
  have B0 := (Below.refl w.heap.size w).alloc (Nat.le_refl _) (.cells #[.int .i64 0, .int .i64 0] 51)
  go_enter Try.func35, Try.ntmps35
  go_wp2_with fail
  have hs : w.heap.size + 1 = (w.alloc (.cells #[.int .i64 0, .int .i64 0] 51)).heap.size := by simp
  generalize w.alloc (.cells #[.int .i64 0, .int .i64 0] 51) = w0 at *
  refine (newReader_any a len cap zs _ h2).mono ?_
  rintro e w1 ⟨rfl, R1, C, hb1⟩
  have K1 := K0.next C
  have B1 := bel_tr B0 C
  have nb : w.heap.size ≠ w0.heap.size := by omega
  have hb : w.heap.size ≤ w0.heap.size := by omega
  clear h h2 K0 C B0
  go_wp2_with fail
  refine (anyBa w0.heap.size _ w1 R1 (by omega) (by omega)).mono ?_
  rintro e w2 ⟨r, h, rfl, r0, r1, h0, h1, R2, G⟩
  have K2 := K1.grown G (fun c => nb (Option.some.inj c))
  have B2 := below_gv B1 G (fun q hq => by have := Option.some.inj hq; omega)
  have hb2 : w0.heap.size < w2.heap.size := Nat.lt_of_lt_of_le hb1 G.size
  clear G K1 B1 R1
  go_wp2_with fail
  have kl2 := K2.lt
  refine (someFl w0.heap.size _ w2 R2 (by omega) hb2).mono ?_
  rintro e w3 ⟨v1, cs, rfl, lc, hcs, O1, R3, G⟩
  obtain ⟨b1, c1, rfl, I1⟩ := O1.ints
  have p1 := O1.cap_
  have K3 := K2.grown G (fun c => nb (Option.some.inj c))
  have B3 := below_gv B2 G (fun q hq => by have := Option.some.inj hq; omega)
  have gr1 := O1.grow
  have I1f : IsInts ((w3.setCell ⟨w.heap.size, 0, none⟩ (.int .i64 r)).setCell ⟨w.heap.size, 1, none⟩ (.int .i64 h)) b1 cs := ((O1.far (g := w.heap.size) (j := 0) (fun c => by have := gr1 _ c; omega) (.int .i64 r)).far (g := w.heap.size) (j := 1) (fun c => by have := gr1 _ c; omega) (.int .i64 h)).at_
  have HI := Lib.hid I1f
  clear R3 G O1 I1 I1f gr1
  obtain ⟨t0, t1, t2, t3, t4⟩ := blk_two K3
  obtain ⟨f0, f1, _, _, _⟩ := blk_two (K3.two (.int .i64 r) (.int .i64 h))
  have BF := Lib.hid ((B3.setCell (p := ⟨w.heap.size, 0, none⟩) (Nat.le_refl _) (.int .i64 r)).setCell (p := ⟨w.heap.size, 1, none⟩) (Nat.le_refl _) (.int .i64 h))
  clear K3 B3
  go_wp2_with fail
  refine bodyPost_ret (v := .tuple #[.agg #[.int .i64 r, .int .i64 h], .slice b1 cs.length c1]) (by simp [results, Try.results35, go_sem, f0, f1]) rfl ⟨r, h, b1, c1, cs, rfl, ⟨r0, r1, h0, h1⟩, ⟨lc, hcs, HI.out, p1⟩, BF.out⟩
end Go.Proofs.Ytigapnbpgbfbhac
