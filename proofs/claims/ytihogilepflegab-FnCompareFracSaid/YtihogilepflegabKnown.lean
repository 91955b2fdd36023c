/- What the operations on fractions return where the result is known; what MakeFrac and PartOf are drawn with. Conditions: those stated. -/
import Derived.Test.YtihogilepflegabMake
import Derived.Test.YtihogilepflegabDraws
namespace Go.Proofs.Ytihogilepflegab
open Go.RowKit

/-- a fraction and true -/
abbrev okV (x y : Int) : Value := .tuple #[.agg #[.int .i64 x, .int .i64 y], .bool true]
/-- none -/
abbrev noV : Value := .tuple #[.agg #[.int .i64 0, .int .i64 0], .bool false]
theorem frV_ok {B : Bool} {X Y x y : Int} (h : B = true) (hx : X = x) (hy : Y = y) : frV B X Y = okV x y := by rw [h, hx, hy]; rfl
theorem frV_no {B : Bool} {X Y : Int} (h : B = false) : frV B X Y = noV := by rw [h]; rfl
theorem and3 {a b c : Bool} (ha : a = true) (hb : b = true) (hc : c = true) : (a && b && c) = true := by rw [ha, hb, hc]; rfl

theorem iAdd_is (an ad bn bd x y : Int) (w : World) (ha : Wsh.vfB an ad = true) (hb : Wsh.vfB bn bd = true) (hr : Wsh.redB (an * bd + bn * ad) (ad * bd) = true) (hx : Wsh.rn (an * bd + bn * ad) (ad * bd) = x) (hy : Wsh.rd (an * bd + bn * ad) (ad * bd) = y) :
    Calls Try.prog 14 #[.agg #[.int .i64 an, .int .i64 ad], .agg #[.int .i64 bn, .int .i64 bd]] w fun e w' => e = .returned (okV x y) ∧ Below w.heap.size w w' := by
  refine (iAdd an ad bn bd w).mono ?_
  rintro e w' ⟨rfl, h⟩
  exact ⟨by rw [frV_ok (and3 ha hb hr) hx hy], h⟩
theorem iAdd_no (an ad bn bd : Int) (w : World) (hB : (Wsh.vfB an ad && Wsh.vfB bn bd && Wsh.redB (an * bd + bn * ad) (ad * bd)) = false) :
    Calls Try.prog 14 #[.agg #[.int .i64 an, .int .i64 ad], .agg #[.int .i64 bn, .int .i64 bd]] w fun e w' => e = .returned noV ∧ Below w.heap.size w w' := by
  refine (iAdd an ad bn bd w).mono ?_
  rintro e w' ⟨rfl, h⟩
  exact ⟨by rw [frV_no hB], h⟩

theorem iSub_is (an ad bn bd x y : Int) (w : World) (ha : Wsh.vfB an ad = true) (hb : Wsh.vfB bn bd = true) (hr : Wsh.redB (an * bd - bn * ad) (ad * bd) = true) (hx : Wsh.rn (an * bd - bn * ad) (ad * bd) = x) (hy : Wsh.rd (an * bd - bn * ad) (ad * bd) = y) :
    Calls Try.prog 13 #[.agg #[.int .i64 an, .int .i64 ad], .agg #[.int .i64 bn, .int .i64 bd]] w fun e w' => e = .returned (okV x y) ∧ Below w.heap.size w w' := by
  refine (iSub an ad bn bd w).mono ?_
  rintro e w' ⟨rfl, h⟩
  exact ⟨by rw [frV_ok (and3 ha hb hr) hx hy], h⟩
theorem iSub_no (an ad bn bd : Int) (w : World) (hB : (Wsh.vfB an ad && Wsh.vfB bn bd && Wsh.redB (an * bd - bn * ad) (ad * bd)) = false) :
    Calls Try.prog 13 #[.agg #[.int .i64 an, .int .i64 ad], .agg #[.int .i64 bn, .int .i64 bd]] w fun e w' => e = .returned noV ∧ Below w.heap.size w w' := by
  refine (iSub an ad bn bd w).mono ?_
  rintro e w' ⟨rfl, h⟩
  exact ⟨by rw [frV_no hB], h⟩

theorem iMul_is (an ad bn bd x y : Int) (w : World) (ha : Wsh.vfB an ad = true) (hb : Wsh.vfB bn bd = true) (hr : Wsh.redB (an * bn) (ad * bd) = true) (hx : Wsh.rn (an * bn) (ad * bd) = x) (hy : Wsh.rd (an * bn) (ad * bd) = y) :
    Calls Try.prog 27 #[.agg #[.int .i64 an, .int .i64 ad], .agg #[.int .i64 bn, .int .i64 bd]] w fun e w' => e = .returned (okV x y) ∧ Below w.heap.size w w' := by
  refine (iMul an ad bn bd w).mono ?_
  rintro e w' ⟨rfl, h⟩
  exact ⟨by rw [frV_ok (and3 ha hb hr) hx hy], h⟩
theorem iMul_no (an ad bn bd : Int) (w : World) (hB : (Wsh.vfB an ad && Wsh.vfB bn bd && Wsh.redB (an * bn) (ad * bd)) = false) :
    Calls Try.prog 27 #[.agg #[.int .i64 an, .int .i64 ad], .agg #[.int .i64 bn, .int .i64 bd]] w fun e w' => e = .returned noV ∧ Below w.heap.size w w' := by
  refine (iMul an ad bn bd w).mono ?_
  rintro e w' ⟨rfl, h⟩
  exact ⟨by rw [frV_no hB], h⟩

theorem iMake_is (n d x y : Int) (w : World) (hm : Wsh.mkB d = true) (hr : Wsh.redB n d = true) (hx : Wsh.rn n d = x) (hy : Wsh.rd n d = y) :
    Calls Try.prog 16 #[.int .i64 n, .int .i64 d] w fun e w' => e = .returned (okV x y) ∧ Below w.heap.size w w' := by
  refine (iMake n d w).mono ?_
  rintro e w' ⟨rfl, h⟩
  exact ⟨by rw [frV_ok (by rw [hm, hr]; rfl) hx hy], h⟩
theorem iMake_no (n d : Int) (w : World) (hB : (Wsh.mkB d && Wsh.redB n d) = false) :
    Calls Try.prog 16 #[.int .i64 n, .int .i64 d] w fun e w' => e = .returned noV ∧ Below w.heap.size w w' := by
  refine (iMake n d w).mono ?_
  rintro e w' ⟨rfl, h⟩
  exact ⟨by rw [frV_no hB], h⟩

theorem sAdd_is (an ad bn bd x y : Int) (w : World) (ha : Wsh.vfB an ad = true) (hb : Wsh.vfB bn bd = true) (hr : Wsh.redB (an * bd + bn * ad) (ad * bd) = true) (hx : Wsh.rn (an * bd + bn * ad) (ad * bd) = x) (hy : Wsh.rd (an * bd + bn * ad) (ad * bd) = y) :
    Calls Try.prog 20 #[.agg #[.int .i64 an, .int .i64 ad], .agg #[.int .i64 bn, .int .i64 bd]] w fun e w' => e = .returned (okV x y) ∧ Below w.heap.size w w' := by
  refine (sAdd an ad bn bd w).mono ?_
  rintro e w' ⟨rfl, h⟩
  exact ⟨by rw [frV_ok (and3 ha hb hr) hx hy], h⟩
theorem sAdd_no (an ad bn bd : Int) (w : World) (hB : (Wsh.vfB an ad && Wsh.vfB bn bd && Wsh.redB (an * bd + bn * ad) (ad * bd)) = false) :
    Calls Try.prog 20 #[.agg #[.int .i64 an, .int .i64 ad], .agg #[.int .i64 bn, .int .i64 bd]] w fun e w' => e = .returned noV ∧ Below w.heap.size w w' := by
  refine (sAdd an ad bn bd w).mono ?_
  rintro e w' ⟨rfl, h⟩
  exact ⟨by rw [frV_no hB], h⟩

theorem sSub_is (an ad bn bd x y : Int) (w : World) (ha : Wsh.vfB an ad = true) (hb : Wsh.vfB bn bd = true) (hr : Wsh.redB (an * bd - bn * ad) (ad * bd) = true) (hx : Wsh.rn (an * bd - bn * ad) (ad * bd) = x) (hy : Wsh.rd (an * bd - bn * ad) (ad * bd) = y) :
    Calls Try.prog 25 #[.agg #[.int .i64 an, .int .i64 ad], .agg #[.int .i64 bn, .int .i64 bd]] w fun e w' => e = .returned (okV x y) ∧ Below w.heap.size w w' := by
  refine (sSub an ad bn bd w).mono ?_
  rintro e w' ⟨rfl, h⟩
  exact ⟨by rw [frV_ok (and3 ha hb hr) hx hy], h⟩
theorem sSub_no (an ad bn bd : Int) (w : World) (hB : (Wsh.vfB an ad && Wsh.vfB bn bd && Wsh.redB (an * bd - bn * ad) (ad * bd)) = false) :
    Calls Try.prog 25 #[.agg #[.int .i64 an, .int .i64 ad], .agg #[.int .i64 bn, .int .i64 bd]] w fun e w' => e = .returned noV ∧ Below w.heap.size w w' := by
  refine (sSub an ad bn bd w).mono ?_
  rintro e w' ⟨rfl, h⟩
  exact ⟨by rw [frV_no hB], h⟩

theorem sMul_is (an ad bn bd x y : Int) (w : World) (ha : Wsh.vfB an ad = true) (hb : Wsh.vfB bn bd = true) (hr : Wsh.redB (an * bn) (ad * bd) = true) (hx : Wsh.rn (an * bn) (ad * bd) = x) (hy : Wsh.rd (an * bn) (ad * bd) = y) :
    Calls Try.prog 28 #[.agg #[.int .i64 an, .int .i64 ad], .agg #[.int .i64 bn, .int .i64 bd]] w fun e w' => e = .returned (okV x y) ∧ Below w.heap.size w w' := by
  refine (sMul an ad bn bd w).mono ?_
  rintro e w' ⟨rfl, h⟩
  exact ⟨by rw [frV_ok (and3 ha hb hr) hx hy], h⟩
theorem sMul_no (an ad bn bd : Int) (w : World) (hB : (Wsh.vfB an ad && Wsh.vfB bn bd && Wsh.redB (an * bn) (ad * bd)) = false) :
    Calls Try.prog 28 #[.agg #[.int .i64 an, .int .i64 ad], .agg #[.int .i64 bn, .int .i64 bd]] w fun e w' => e = .returned noV ∧ Below w.heap.size w w' := by
  refine (sMul an ad bn bd w).mono ?_
  rintro e w' ⟨rfl, h⟩
  exact ⟨by rw [frV_no hB], h⟩

theorem sMake_is (n d x y : Int) (w : World) (hm : Wsh.mkB d = true) (hr : Wsh.redB n d = true) (hx : Wsh.rn n d = x) (hy : Wsh.rd n d = y) :
    Calls Try.prog 17 #[.int .i64 n, .int .i64 d] w fun e w' => e = .returned (okV x y) ∧ Below w.heap.size w w' := by
  refine (sMake n d w).mono ?_
  rintro e w' ⟨rfl, h⟩
  exact ⟨by rw [frV_ok (by rw [hm, hr]; rfl) hx hy], h⟩
theorem sMake_no (n d : Int) (w : World) (hB : (Wsh.mkB d && Wsh.redB n d) = false) :
    Calls Try.prog 17 #[.int .i64 n, .int .i64 d] w fun e w' => e = .returned noV ∧ Below w.heap.size w w' := by
  refine (sMake n d w).mono ?_
  rintro e w' ⟨rfl, h⟩
  exact ⟨by rw [frV_no hB], h⟩

def DrawnI (w : World) (e : Ending) (w' : World) : Prop := ∃ x y : Int, e = .returned (.tuple #[.int .i64 x, .int .i64 y]) ∧ Below w.heap.size w w'
set_option maxHeartbeats 1000000 in
theorem drawMake (a : Option Addr) (len cap : Nat) (zs : List Int) (w : World) (h : IsRow .u8 w a len cap zs) :
    Calls Try.prog 15 #[.slice a len cap] w (DrawnI w) := by
  go_enter Try.func15, Try.ntmps15
  go_wp2_with fail
  refine (newReader_any a len cap zs _ h).mono ?_
  rintro e w1 ⟨rfl, hR, hB1, hb⟩
  clear h
  go_wp2_with fail
  refine (one_lit _ 10 0 0 1000001 [12, 30, 100, 1, 7, 9999, 20000, 1000000, 1000001, 0] _ w1 hR (by omega) hb rfl (by omega) (by omega) (by simp)).mono ?_
  rintro e w2 ⟨d, rfl, d0, d1, hR2, hG2⟩
  have hB2 := below_grown hB1 hG2 (by omega)
  have hb2 := Nat.lt_of_lt_of_le hb hG2.size
  clear hR hB1 hb hG2
  go_wp2_with fail
  refine (pick_any _ _ 30 _ hR2 (by omega)).mono ?_
  rintro e w3 ⟨u, rfl, hu, hR3, hG3⟩
  have hu30 : (u : Int) < 30 := by omega
  have hB3 := below_grown hB2 hG3 (by omega)
  have hb3 := Nat.lt_of_lt_of_le hb2 hG3.size
  clear hR2 hB2 hb2 hG3 hu
  go_wp2_with fail
  refine (one_lit _ 8 _ (-1) 2000000 [d / 2, d / 3, 1, 0, d, d + 1, -1, (u : Int)] _ w3 hR3 (by omega) hb3 rfl (by omega) (by omega) (by simp; omega)).mono ?_
  rintro e w4 ⟨n, rfl, n0, n1, hR4, hG4⟩
  have hB4 := below_grown hB3 hG4 (by omega)
  clear hR3 hB3 hb3 hG4 hR4
  go_wp2_with fail
  go_ret2
  exact ⟨_, _, rfl, hB4⟩

def DrawnP (w : World) (e : Ending) (w' : World) : Prop := ∃ n x y : Int, e = .returned (.tuple #[.int .i64 n, .agg #[.int .i64 x, .int .i64 y]]) ∧ Below w.heap.size w w'
set_option maxHeartbeats 1000000 in
theorem drawPart (a : Option Addr) (len cap : Nat) (zs : List Int) (w : World) (h : IsRow .u8 w a len cap zs) :
    Calls Try.prog 29 #[.slice a len cap] w (DrawnP w) := by
  go_enter Try.func29, Try.ntmps29
  go_wp2_with fail
  refine (newReader_any a len cap zs _ (row_below h (by go_grown))).mono ?_
  rintro e w1 ⟨rfl, hR, hB, hb⟩
  have k1 := c2_below (c2_new w (.int .i64 0) (.int .i64 0) _) hB
  have hB1 : Below w.heap.size w w1 := bel_tr (by go_grown) hB
  simp only [World.size_alloc] at hR hb
  clear hB h
  go_wp2_with fail
  refine (pick_any _ 0 200 _ hR (by omega)).mono ?_
  rintro e w2 ⟨u, rfl, hu, hR2, hG2⟩
  have hu2 : (u : Int) < 200 := by omega
  have k2 := c2_grown k1 hG2 (by omega)
  have hB2 := below_grown hB1 hG2 (by omega)
  have hb2 := Nat.lt_of_lt_of_le hb hG2.size
  clear hR hB1 hb hG2 hu k1
  go_wp2_with fail
  refine (one_lit _ 8 _ (-1) 1000001 [100, 24, 7, 0, 1000000, 1000001, -1, (u : Int)] _ w2 hR2 (by omega) hb2 rfl (by omega) (by omega) (by simp; omega)).mono ?_
  rintro e w3 ⟨n, rfl, n0, n1, hR3, hG3⟩
  have k3 := c2_grown k2 hG3 (by omega)
  have hB3 := below_grown hB2 hG3 (by omega)
  have hb3 := Nat.lt_of_lt_of_le hb2 hG3.size
  clear hR2 hB2 hb2 hG3 k2
  go_wp2_with fail
  refine (anyFrac_any _ _ _ hR3 (by omega) hb3).mono ?_
  rintro e w4 ⟨x, y, rfl, x0, x1, y0, y1, hR4, hG4⟩
  obtain ⟨c0, c1, f0, f1, hz⟩ := c2_grown k3 hG4 (by omega)
  have hB4 := below_grown hB3 hG4 (by omega)
  clear hR3 hB3 hb3 hG4 hR4 k3
  go_wp2_with fail
  refine bodyPost_ret (v := .tuple #[.int .i64 n, .agg #[.int .i64 x, .int .i64 y]]) (by simp [results, Try.results29, go_sem, c0, c1]) rfl ⟨_, _, _, rfl, by go_grown⟩
end Go.Proofs.Ytihogilepflegab
