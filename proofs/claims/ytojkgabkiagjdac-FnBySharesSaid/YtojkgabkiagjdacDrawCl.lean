/- The claims that the laws draw. Condition: the reader has read at most 60000 numbers before. -/
import Derived.Test.YtojkgabkiagjdacOwnZ
import Derived.Test.YtojkgabkiagjdacRead
import Derived.Test.YtojkgabkiagjdacInts
import Derived.Test.YtojkgabkiagjdacClmP
namespace Go.Proofs.Ytojkgabkiagjdac
open Go.RowKit
set_option linter.unusedSimpArgs false
set_option linter.unusedVariables false
theorem ownI_keptC {w w' : World} {base b : Nat} {v : Value} {zs : List Int} (h : OwnI w base v zs) (hG : w.grownBy w' (some b)) (hb : b < base) : OwnI w' base v zs := h.apart hG (fun q hq => by have := Option.some.inj hq; omega)
def SomeCl (w : World) (b : Nat) (P : Int) (e : Ending) (w' : World) : Prop := ∃ (n : Int) (v : Value) (zs : List Int), e = .returned (.tuple #[.int .i64 n, v]) ∧ -1 ≤ n ∧ n ≤ 4000 ∧ zs.length ≤ 7 ∧ (∀ z ∈ zs, -1 ≤ z ∧ z ≤ 501) ∧ OwnI w' w.heap.size v zs ∧ Rd w' b (P + 40) ∧ w.grownBy w' (some b)
set_option maxRecDepth 100000 in
set_option maxHeartbeats 8000000 in
theorem someCl (b : Nat) (P : Int) (w : World) (h : Rd w b P) (hP : P ≤ 60000) (hb : b < w.heap.size) :
    Calls Try.prog 38 #[.pointer (some ⟨b, 0, none⟩)] w (SomeCl w b P) := by
  obtain ⟨i0, hi0, hz0, hz1, hz2⟩ := info_parts infoInt
  go_enter Try.func38, Try.ntmps38
  go_wp2_with fail
  have HO := Lib.hid (OwnI.new (Below.refl _ w))
  have HR := Lib.hid (rd_alloc h hb (.cells #[] 3))
  have HG := Lib.hid (World.grownBy_alloc w (.cells #[] 3) (some b))
  clear h
  have hs : w.heap.size + 1 = (w.alloc (.cells #[] 3)).heap.size := by simp
  rw [hs]
  generalize w.alloc (.cells #[] 3) = w1 at *
  have hb1 : b < w1.heap.size := by omega
  refine (one_lit b 7 P 0 7 [3, 4, 2, 5, 1, 0, 7] _ w1 HR.out (by omega) hb1 rfl (by omega) (by omega) (by simp)).mono ?_
  rintro e w2 ⟨m, rfl, m0, m1, hR2, hG2⟩
  have HO2 := Lib.hid (ownI_keptC HO.out hG2 hb)
  have HR2 := Lib.hid hR2
  have HG2 := Lib.hid (g_trans HG.out hG2)
  have hs2 : w.heap.size < w2.heap.size := by have := hG2.size; omega
  clear hG2 hR2 HO HR HG
  go_wp2_with fail
  go_loopw [4, 5] (fun v q wr => ∃ (k : Nat) (zs : List Int), (k : Int) ≤ m ∧ q = .int .i64 (m - k) ∧ Hid (OwnI wr w.heap.size v zs ∧ (∀ z ∈ zs, 0 ≤ z ∧ z ≤ 100) ∧ zs.length = k ∧ Rd wr b (P + 1 + 2 * (k : Int)) ∧ w.grownBy wr (some b)) ∧ w.heap.size < wr.heap.size) (fun _ q _ => (intOf q).toNat)
  case atStart => exact ⟨0, [], by omega, by go_num, ⟨HO2.out, by simp, rfl, by simpa using HR2.out, HG2.out⟩, hs2⟩
  case round =>
    clear HO2 HR2 HG2
    obtain ⟨k, zs, hk, rfl, HR, hsz⟩ := hrel
    have hkl := HR.out.2.2.1
    by_cases hlt : (k : Int) < m
    · have hbr : b < wr.heap.size := by omega
      have hR := HR.out.2.2.2.1
      have hzl : zs.length ≤ 7 := by omega
      have HKL := Lib.hid hkl
      clear hkl
      go_wp2_with fail
      refine (pick_any b _ 20 _ hR (by omega)).mono ?_
      rintro e w7 ⟨p, rfl, hp, hR7, hG7⟩
      have hb7 := Nat.lt_of_lt_of_le hbr hG7.size
      have hp6 : (p : Int) ≤ 20 := by omega
      have w2p : IntKind.i64.wrap (2 * (p : Int)) = 2 * (p : Int) := by rw [IntKind.wrap_i64]; omega
      clear hR hp
      go_wp2_with fail
      refine (one_lit b 7 _ 0 100 [10, 20, 30, 4, 2 * (p : Int), 100, 0] _ w7 hR7 (by omega) hb7 rfl (by omega) (by omega) (by simp; omega)).mono ?_
      rintro e w8 ⟨z, rfl, z0, z1, hR8, hG8⟩
      have G8 := g_trans hG7 hG8
      have hO8 := ownI_keptC HR.out.1 G8 hb
      have hR8' := rd_up (P' := P + 1 + 2 * ((k + 1 : Nat) : Int)) hR8 (by omega)
      have hs8 : w.heap.size < w8.heap.size := by have := G8.size; omega
      have HR8 := Lib.hid (And.intro hR8' (g_trans HR.out.2.2.2.2 G8))
      clear hR7 hG7 hG8 G8 hR8 hR8'
      go_wp2_with (first | (at_builtin; refine wpList_append_own _ rfl _ _ _ rfl w.heap.size 3 i0 (.int .i64 0) 1 8 Try.underlying23 hi0 hz0 hz1 hz2 rfl (by decide) _ _ _ rfl (hO8.alloc _) ⟨w8.heap.size, 0, none⟩ 1 1 [.int .i64 z] rfl rfl (cell_one_new _ _ _) (fun x hx => by simp at hx; subst hx; rfl) (by unfold maxLen; omega) (by omega) (by simp; omega) ?_; intro v3 w3 hown3 hgrow3 hnil3))
      have hB12 : Below w.heap.size w8 w3 := ((Below.refl _ w8).alloc (Nat.le_of_lt hs8) _).grown hgrow3 (by simp; omega) hO8.grow
      obtain ⟨R12, G12⟩ := rd_end (P := P + 1 + 2 * ((k + 1 : Nat) : Int)) hb HR8.out.1 rfl HR8.out.2 hB12
      have HF : Hid (OwnI w3 w.heap.size v3 (zs ++ [z]) ∧ (∀ y ∈ zs ++ [z], 0 ≤ y ∧ y ≤ 100) ∧ (zs ++ [z]).length = k + 1 ∧ Rd w3 b (P + 1 + 2 * ((k + 1 : Nat) : Int)) ∧ w.grownBy w3 (some b)) := ⟨OwnI.snoc hown3, fun y hy => by
        rcases List.mem_append.1 hy with h | h
        · exact HR.out.2.1 y h
        · simp at h; omega, by rw [List.length_append, HKL.out]; rfl, R12, G12⟩
      have hs12 : w.heap.size < w3.heap.size := by have := hB12.size; omega
      clear hown3 hgrow3 hnil3 hB12 R12 G12 hO8 HR8 HR
      go_roundw
      case rel => exact ⟨k + 1, zs ++ [z], by omega, by go_num, HF.out, hs12⟩
      case measure => simp [intOf]; omega
    · have e : (k : Int) = m := by omega
      have hzl : zs.length ≤ 7 := by omega
      have hbr : b < wr.heap.size := by omega
      have hO := HR.out.1
      have HZ : Hid (∀ z ∈ zs, -1 ≤ z ∧ z ≤ 501) := fun z hz => by have := HR.out.2.1 z hz; omega
      have hsum := sum_bdZ 100 zs HR.out.2.1
      have HR2 := Lib.hid (And.intro (rd_up (P' := P + 20) HR.out.2.2.2.1 (by omega)) HR.out.2.2.2.2)
      obtain ⟨vb, vc, rfl, I⟩ := hO.ints
      have CT := stotal vb vc zs wr I (by omega) (fun z hz => by have := HZ.out z hz; omega)
      have HO := Lib.hid hO
      clear hO HR I hkl
      generalize zs.sum = s at *
      have s1 : 0 ≤ s := hsum.1
      have s2 : s ≤ 700 := by omega
      have t1 : s.tdiv 2 = s / 2 := Int.tdiv_eq_ediv_of_nonneg s1
      have t2 : s.tdiv 3 = s / 3 := Int.tdiv_eq_ediv_of_nonneg s1
      have t3 : (s * 3).tdiv 4 = s * 3 / 4 := Int.tdiv_eq_ediv_of_nonneg (by omega)
      have u1 : IntKind.i64.wrap (s / 2) = s / 2 := by rw [IntKind.wrap_i64]; omega
      have u2 : IntKind.i64.wrap (s / 3) = s / 3 := by rw [IntKind.wrap_i64]; omega
      have u3 : IntKind.i64.wrap (s * 3) = s * 3 := by rw [IntKind.wrap_i64]; omega
      have u4 : IntKind.i64.wrap (s * 3 / 4) = s * 3 / 4 := by rw [IntKind.wrap_i64]; omega
      clear hsum
      go_wp2_with fail
      refine CT.mono ?_
      rintro e w' ⟨rfl, rfl⟩
      clear CT
      by_cases c1 : s ≤ 10
      · have c2 : s ≤ 25 := by omega
        go_wp2_with fail
        refine (one_lit b 7 _ 0 700 [s / 2, s / 3, s, 0, s * 3 / 4, s, s] _ wr HR2.out.1 (by omega) hbr rfl (by omega) (by omega) (by simp; omega)).mono ?_
        rintro e w5 ⟨n, rfl, n0, n1, hR5, hG5⟩
        have hb5 := Nat.lt_of_lt_of_le hbr hG5.size
        have HO5 := Lib.hid (ownI_keptC HO.out hG5 hb)
        have HG5 := Lib.hid (g_trans HR2.out.2 hG5)
        clear HO HR2 hG5
        go_wp2_with fail
        refine (pick_any b _ 20 _ hR5 (by omega)).mono ?_
        rintro e w6 ⟨p, rfl, hp, hR6, hG6⟩
        have hb6 := Nat.lt_of_lt_of_le hb5 hG6.size
        have HO6 := Lib.hid (ownI_keptC HO5.out hG6 hb)
        have HG6 := Lib.hid (g_trans HG5.out hG6)
        have HR6 := Lib.hid hR6
        clear HO5 HG5 hG6 hR6 hR5 hp
        by_cases p0 : p = 0
        · have e0 : ((p : Int) == 0) = true := by rw [beq_iff_eq]; omega
          have ws : IntKind.i64.wrap (s + 1) = s + 1 := by rw [IntKind.wrap_i64]; omega
          clear p0
          go_wp2_with fail
          go_returns
          exact ⟨s + 1, _, zs, rfl, by omega, by omega, hzl, HZ.out, HO6.out, rd_up HR6.out (by omega), HG6.out⟩
        have e0 : ((p : Int) == 0) = false := by rw [beq_eq_false_iff_ne]; omega
        have f0 : ¬ (p : Int) = 0 := by omega
        by_cases p1 : p = 1
        · have e1 : ((p : Int) == 1) = true := by rw [beq_iff_eq]; omega
          clear p0 p1
          go_wp2_with fail
          go_returns
          exact ⟨-1, _, zs, rfl, by omega, by omega, hzl, HZ.out, HO6.out, rd_up HR6.out (by omega), HG6.out⟩
        have e1 : ((p : Int) == 1) = false := by rw [beq_eq_false_iff_ne]; omega
        have f1 : ¬ (p : Int) = 1 := by omega
        by_cases p2 : p = 2
        · have e2 : ((p : Int) == 2) = true := by rw [beq_iff_eq]; omega
          clear p0 p1 p2
          by_cases hz : zs.length = 0
          · have e3 : decide (0 < (zs.length : Int)) = false := decide_eq_false (by omega)
            have e4 : decide (0 < zs.length) = false := decide_eq_false (by omega)
            clear hz
            go_wp2_with fail
            go_returns
            exact ⟨n, _, zs, rfl, by omega, by omega, hzl, HZ.out, HO6.out, rd_up HR6.out (by omega), HG6.out⟩
          · obtain ⟨gz, rfl, hgz⟩ := HO6.out.form_ (by omega)
            have e3 : decide (0 < (zs.length : Int)) = true := decide_eq_true (by omega)
            have e4 : decide (0 < zs.length) = true := decide_eq_true (by omega)
            have e5 : 0 < zs.length := by omega
            have hR6 := HR6.out
            clear hz
            go_wp2_with fail
            refine (one_lit b 3 _ (-1) 501 [-1, 501, 7] _ w6 hR6 (by omega) hb6 rfl (by omega) (by omega) (by simp)).mono ?_
            rintro e w8 ⟨z, rfl, z0, z1, hR8, hG8⟩
            have hO8 := ownI_keptC HO6.out hG8 hb
            have hc0 := hO8.cell (j := 0) e5
            have hf0 := hO8.frozen 0
            have hS := hO8.set_ 0 z
            have hB : Below w.heap.size w8 (w8.setCell ⟨gz, 0, none⟩ (.int .i64 z)) := (Below.refl _ _).setCell (p := ⟨gz, 0, none⟩) hgz _
            have hfin := rd_end (P := P + 40) hb (rd_up (P' := P + 40) hR8 (by omega)) rfl (g_trans HG6.out hG8) hB
            have HS := Lib.hid (And.intro hS hfin)
            have HZ2 : Hid (∀ y ∈ zs.set 0 z, -1 ≤ y ∧ y ≤ 501) := fun y hy => by
              rcases List.mem_or_eq_of_mem_set hy with h | h
              · exact HZ.out y h
              · omega
            generalize zs.getD 0 0 = y0 at hc0
            clear hS hfin hB hO8 hG8 hR8 hR6
            go_wp2_with fail
            go_returns
            exact ⟨n, _, zs.set 0 z, rfl, by omega, by omega, by rw [List.length_set]; exact hzl, HZ2.out, HS.out.1, HS.out.2.1, HS.out.2.2⟩
        · have e2 : ((p : Int) == 2) = false := by rw [beq_eq_false_iff_ne]; omega
          have f2 : ¬ (p : Int) = 2 := by omega
          clear p0 p1 p2
          go_wp2_with fail
          go_returns
          exact ⟨n, _, zs, rfl, by omega, by omega, hzl, HZ.out, HO6.out, rd_up HR6.out (by omega), HG6.out⟩
      by_cases c2 : s ≤ 25
      · go_wp2_with fail
        refine (one_lit b 7 _ 0 700 [s / 2, s / 3, s, 0, s * 3 / 4, 10, s] _ wr HR2.out.1 (by omega) hbr rfl (by omega) (by omega) (by simp; omega)).mono ?_
        rintro e w5 ⟨n, rfl, n0, n1, hR5, hG5⟩
        have hb5 := Nat.lt_of_lt_of_le hbr hG5.size
        have HO5 := Lib.hid (ownI_keptC HO.out hG5 hb)
        have HG5 := Lib.hid (g_trans HR2.out.2 hG5)
        clear HO HR2 hG5
        go_wp2_with fail
        refine (pick_any b _ 20 _ hR5 (by omega)).mono ?_
        rintro e w6 ⟨p, rfl, hp, hR6, hG6⟩
        have hb6 := Nat.lt_of_lt_of_le hb5 hG6.size
        have HO6 := Lib.hid (ownI_keptC HO5.out hG6 hb)
        have HG6 := Lib.hid (g_trans HG5.out hG6)
        have HR6 := Lib.hid hR6
        clear HO5 HG5 hG6 hR6 hR5 hp
        by_cases p0 : p = 0
        · have e0 : ((p : Int) == 0) = true := by rw [beq_iff_eq]; omega
          have ws : IntKind.i64.wrap (s + 1) = s + 1 := by rw [IntKind.wrap_i64]; omega
          clear p0
          go_wp2_with fail
          go_returns
          exact ⟨s + 1, _, zs, rfl, by omega, by omega, hzl, HZ.out, HO6.out, rd_up HR6.out (by omega), HG6.out⟩
        have e0 : ((p : Int) == 0) = false := by rw [beq_eq_false_iff_ne]; omega
        have f0 : ¬ (p : Int) = 0 := by omega
        by_cases p1 : p = 1
        · have e1 : ((p : Int) == 1) = true := by rw [beq_iff_eq]; omega
          clear p0 p1
          go_wp2_with fail
          go_returns
          exact ⟨-1, _, zs, rfl, by omega, by omega, hzl, HZ.out, HO6.out, rd_up HR6.out (by omega), HG6.out⟩
        have e1 : ((p : Int) == 1) = false := by rw [beq_eq_false_iff_ne]; omega
        have f1 : ¬ (p : Int) = 1 := by omega
        by_cases p2 : p = 2
        · have e2 : ((p : Int) == 2) = true := by rw [beq_iff_eq]; omega
          clear p0 p1 p2
          by_cases hz : zs.length = 0
          · have e3 : decide (0 < (zs.length : Int)) = false := decide_eq_false (by omega)
            have e4 : decide (0 < zs.length) = false := decide_eq_false (by omega)
            clear hz
            go_wp2_with fail
            go_returns
            exact ⟨n, _, zs, rfl, by omega, by omega, hzl, HZ.out, HO6.out, rd_up HR6.out (by omega), HG6.out⟩
          · obtain ⟨gz, rfl, hgz⟩ := HO6.out.form_ (by omega)
            have e3 : decide (0 < (zs.length : Int)) = true := decide_eq_true (by omega)
            have e4 : decide (0 < zs.length) = true := decide_eq_true (by omega)
            have e5 : 0 < zs.length := by omega
            have hR6 := HR6.out
            clear hz
            go_wp2_with fail
            refine (one_lit b 3 _ (-1) 501 [-1, 501, 7] _ w6 hR6 (by omega) hb6 rfl (by omega) (by omega) (by simp)).mono ?_
            rintro e w8 ⟨z, rfl, z0, z1, hR8, hG8⟩
            have hO8 := ownI_keptC HO6.out hG8 hb
            have hc0 := hO8.cell (j := 0) e5
            have hf0 := hO8.frozen 0
            have hS := hO8.set_ 0 z
            have hB : Below w.heap.size w8 (w8.setCell ⟨gz, 0, none⟩ (.int .i64 z)) := (Below.refl _ _).setCell (p := ⟨gz, 0, none⟩) hgz _
            have hfin := rd_end (P := P + 40) hb (rd_up (P' := P + 40) hR8 (by omega)) rfl (g_trans HG6.out hG8) hB
            have HS := Lib.hid (And.intro hS hfin)
            have HZ2 : Hid (∀ y ∈ zs.set 0 z, -1 ≤ y ∧ y ≤ 501) := fun y hy => by
              rcases List.mem_or_eq_of_mem_set hy with h | h
              · exact HZ.out y h
              · omega
            generalize zs.getD 0 0 = y0 at hc0
            clear hS hfin hB hO8 hG8 hR8 hR6
            go_wp2_with fail
            go_returns
            exact ⟨n, _, zs.set 0 z, rfl, by omega, by omega, by rw [List.length_set]; exact hzl, HZ2.out, HS.out.1, HS.out.2.1, HS.out.2.2⟩
        · have e2 : ((p : Int) == 2) = false := by rw [beq_eq_false_iff_ne]; omega
          have f2 : ¬ (p : Int) = 2 := by omega
          clear p0 p1 p2
          go_wp2_with fail
          go_returns
          exact ⟨n, _, zs, rfl, by omega, by omega, hzl, HZ.out, HO6.out, rd_up HR6.out (by omega), HG6.out⟩
      · go_wp2_with fail
        refine (one_lit b 7 _ 0 700 [s / 2, s / 3, s, 0, s * 3 / 4, 10, 25] _ wr HR2.out.1 (by omega) hbr rfl (by omega) (by omega) (by simp; omega)).mono ?_
        rintro e w5 ⟨n, rfl, n0, n1, hR5, hG5⟩
        have hb5 := Nat.lt_of_lt_of_le hbr hG5.size
        have HO5 := Lib.hid (ownI_keptC HO.out hG5 hb)
        have HG5 := Lib.hid (g_trans HR2.out.2 hG5)
        clear HO HR2 hG5
        go_wp2_with fail
        refine (pick_any b _ 20 _ hR5 (by omega)).mono ?_
        rintro e w6 ⟨p, rfl, hp, hR6, hG6⟩
        have hb6 := Nat.lt_of_lt_of_le hb5 hG6.size
        have HO6 := Lib.hid (ownI_keptC HO5.out hG6 hb)
        have HG6 := Lib.hid (g_trans HG5.out hG6)
        have HR6 := Lib.hid hR6
        clear HO5 HG5 hG6 hR6 hR5 hp
        by_cases p0 : p = 0
        · have e0 : ((p : Int) == 0) = true := by rw [beq_iff_eq]; omega
          have ws : IntKind.i64.wrap (s + 1) = s + 1 := by rw [IntKind.wrap_i64]; omega
          clear p0
          go_wp2_with fail
          go_returns
          exact ⟨s + 1, _, zs, rfl, by omega, by omega, hzl, HZ.out, HO6.out, rd_up HR6.out (by omega), HG6.out⟩
        have e0 : ((p : Int) == 0) = false := by rw [beq_eq_false_iff_ne]; omega
        have f0 : ¬ (p : Int) = 0 := by omega
        by_cases p1 : p = 1
        · have e1 : ((p : Int) == 1) = true := by rw [beq_iff_eq]; omega
          clear p0 p1
          go_wp2_with fail
          go_returns
          exact ⟨-1, _, zs, rfl, by omega, by omega, hzl, HZ.out, HO6.out, rd_up HR6.out (by omega), HG6.out⟩
        have e1 : ((p : Int) == 1) = false := by rw [beq_eq_false_iff_ne]; omega
        have f1 : ¬ (p : Int) = 1 := by omega
        by_cases p2 : p = 2
        · have e2 : ((p : Int) == 2) = true := by rw [beq_iff_eq]; omega
          clear p0 p1 p2
          by_cases hz : zs.length = 0
          · have e3 : decide (0 < (zs.length : Int)) = false := decide_eq_false (by omega)
            have e4 : decide (0 < zs.length) = false := decide_eq_false (by omega)
            clear hz
            go_wp2_with fail
            go_returns
            exact ⟨n, _, zs, rfl, by omega, by omega, hzl, HZ.out, HO6.out, rd_up HR6.out (by omega), HG6.out⟩
          · obtain ⟨gz, rfl, hgz⟩ := HO6.out.form_ (by omega)
            have e3 : decide (0 < (zs.length : Int)) = true := decide_eq_true (by omega)
            have e4 : decide (0 < zs.length) = true := decide_eq_true (by omega)
            have e5 : 0 < zs.length := by omega
            have hR6 := HR6.out
            clear hz
            go_wp2_with fail
            refine (one_lit b 3 _ (-1) 501 [-1, 501, 7] _ w6 hR6 (by omega) hb6 rfl (by omega) (by omega) (by simp)).mono ?_
            rintro e w8 ⟨z, rfl, z0, z1, hR8, hG8⟩
            have hO8 := ownI_keptC HO6.out hG8 hb
            have hc0 := hO8.cell (j := 0) e5
            have hf0 := hO8.frozen 0
            have hS := hO8.set_ 0 z
            have hB : Below w.heap.size w8 (w8.setCell ⟨gz, 0, none⟩ (.int .i64 z)) := (Below.refl _ _).setCell (p := ⟨gz, 0, none⟩) hgz _
            have hfin := rd_end (P := P + 40) hb (rd_up (P' := P + 40) hR8 (by omega)) rfl (g_trans HG6.out hG8) hB
            have HS := Lib.hid (And.intro hS hfin)
            have HZ2 : Hid (∀ y ∈ zs.set 0 z, -1 ≤ y ∧ y ≤ 501) := fun y hy => by
              rcases List.mem_or_eq_of_mem_set hy with h | h
              · exact HZ.out y h
              · omega
            generalize zs.getD 0 0 = y0 at hc0
            clear hS hfin hB hO8 hG8 hR8 hR6
            go_wp2_with fail
            go_returns
            exact ⟨n, _, zs.set 0 z, rfl, by omega, by omega, by rw [List.length_set]; exact hzl, HZ2.out, HS.out.1, HS.out.2.1, HS.out.2.2⟩
        · have e2 : ((p : Int) == 2) = false := by rw [beq_eq_false_iff_ne]; omega
          have f2 : ¬ (p : Int) = 2 := by omega
          clear p0 p1 p2
          go_wp2_with fail
          go_returns
          exact ⟨n, _, zs, rfl, by omega, by omega, hzl, HZ.out, HO6.out, rd_up HR6.out (by omega), HG6.out⟩
def DrawnCl (w : World) (e : Ending) (w' : World) : Prop := ∃ (n : Int) (b : Option Addr) (c : Nat) (zs : List Int), e = .returned (.tuple #[.int .i64 n, .slice b zs.length c]) ∧ -1 ≤ n ∧ n ≤ 4000 ∧ zs.length ≤ 7 ∧ (∀ z ∈ zs, -1 ≤ z ∧ z ≤ 501) ∧ IsInts w' b zs ∧ Below w.heap.size w w'
set_option maxRecDepth 100000 in
set_option maxHeartbeats 4000000 in
theorem drawAllTurns (a : Option Addr) (len cap : Nat) (zs : List Int) (w : World) (h : IsRow .u8 w a len cap zs) :
    Calls Try.prog 16 #[.slice a len cap] w (DrawnCl w) := by
  go_enter Try.func16, Try.ntmps16
  go_wp2_with fail
  refine (newReader_any a len cap zs _ h).mono ?_
  rintro e w1 ⟨rfl, R1, C, hb1⟩
  go_wp2_with fail
  refine (someCl w.heap.size _ w1 R1 (by omega) hb1).mono ?_
  rintro e w2 ⟨n, v, zs, rfl, n0, n1, hl, hz, O, R2, G⟩
  obtain ⟨b, c, rfl, I⟩ := O.ints
  have HF := Lib.hid (And.intro hz (And.intro I (below_gv C G (fun q hq => by have := Option.some.inj hq; omega))))
  clear hz O I G R2 C R1
  go_wp2_with fail
  go_returns
  exact ⟨n, b, c, zs, rfl, n0, n1, hl, HF.out.1, HF.out.2.1, HF.out.2.2⟩
set_option maxRecDepth 100000 in
set_option maxHeartbeats 4000000 in
theorem drawAtLeast (a : Option Addr) (len cap : Nat) (zs : List Int) (w : World) (h : IsRow .u8 w a len cap zs) :
    Calls Try.prog 21 #[.slice a len cap] w (DrawnCl w) := by
  go_enter Try.func21, Try.ntmps21
  go_wp2_with fail
  refine (newReader_any a len cap zs _ h).mono ?_
  rintro e w1 ⟨rfl, R1, C, hb1⟩
  go_wp2_with fail
  refine (someCl w.heap.size _ w1 R1 (by omega) hb1).mono ?_
  rintro e w2 ⟨n, v, zs, rfl, n0, n1, hl, hz, O, R2, G⟩
  obtain ⟨b, c, rfl, I⟩ := O.ints
  have HF := Lib.hid (And.intro hz (And.intro I (below_gv C G (fun q hq => by have := Option.some.inj hq; omega))))
  clear hz O I G R2 C R1
  go_wp2_with fail
  go_returns
  exact ⟨n, b, c, zs, rfl, n0, n1, hl, HF.out.1, HF.out.2.1, HF.out.2.2⟩
set_option maxRecDepth 100000 in
set_option maxHeartbeats 4000000 in
theorem drawByShares (a : Option Addr) (len cap : Nat) (zs : List Int) (w : World) (h : IsRow .u8 w a len cap zs) :
    Calls Try.prog 26 #[.slice a len cap] w (DrawnCl w) := by
  go_enter Try.func26, Try.ntmps26
  go_wp2_with fail
  refine (newReader_any a len cap zs _ h).mono ?_
  rintro e w1 ⟨rfl, R1, C, hb1⟩
  go_wp2_with fail
  refine (someCl w.heap.size _ w1 R1 (by omega) hb1).mono ?_
  rintro e w2 ⟨n, v, zs, rfl, n0, n1, hl, hz, O, R2, G⟩
  obtain ⟨b, c, rfl, I⟩ := O.ints
  have HF := Lib.hid (And.intro hz (And.intro I (below_gv C G (fun q hq => by have := Option.some.inj hq; omega))))
  clear hz O I G R2 C R1
  go_wp2_with fail
  go_returns
  exact ⟨n, b, c, zs, rfl, n0, n1, hl, HF.out.1, HF.out.2.1, HF.out.2.2⟩
end Go.Proofs.Ytojkgabkiagjdac
