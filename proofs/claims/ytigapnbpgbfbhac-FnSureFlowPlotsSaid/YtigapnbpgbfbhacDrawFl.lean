/- The draw of flows. No condition but those stated. -/
import Derived.Test.YtigapnbpgbfbhacGrA
import Derived.Laws.OwnMore
import Derived.Maps.AppendAt
namespace Go.Proofs.Ytigapnbpgbfbhac
open Go.RowKit
set_option linter.unusedSimpArgs false
set_option linter.unusedVariables false
/-- what someFlows leaves -/
def SomeFl (w : World) (b : Nat) (P : Int) (e : Ending) (w' : World) : Prop := ∃ (v : Value) (zs : List Int), e = .returned v ∧ zs.length ≤ 20 ∧ (∀ z ∈ zs, -1 ≤ z ∧ z ≤ 501) ∧ OwnI w' w.heap.size v zs ∧ Rd w' b (P + 60) ∧ w.grownBy w' (some b)
theorem ownI_kept {w w' : World} {base b : Nat} {v : Value} {zs : List Int} (h : OwnI w base v zs) (hG : w.grownBy w' (some b)) (hb : b < base) : OwnI w' base v zs := h.apart hG (fun q hq => by have := Option.some.inj hq; omega)
set_option maxRecDepth 100000 in
set_option maxHeartbeats 8000000 in
theorem someFl (b : Nat) (P : Int) (w : World) (h : Rd w b P) (hP : P ≤ 70000) (hb : b < w.heap.size) :
    Calls Try.prog 54 #[.pointer (some ⟨b, 0, none⟩)] w (SomeFl w b P) := by
  obtain ⟨i0, hi0, hz0, hz1, hz2⟩ := info_parts infoInt
  go_enter Try.func54, Try.ntmps54
  go_wp2_with fail
  have HO := Lib.hid (OwnI.new (Below.refl _ w))
  have HR := Lib.hid (rd_alloc h hb (.cells #[] 3))
  have HG := Lib.hid (World.grownBy_alloc w (.cells #[] 3) (some b))
  clear h
  have hs : w.heap.size + 1 = (w.alloc (.cells #[] 3)).heap.size := by simp
  rw [hs]
  generalize w.alloc (.cells #[] 3) = w1 at *
  have hb1 : b < w1.heap.size := by omega
  refine (one_lit b 6 P 0 20 [8, 12, 5, 20, 1, 0] _ w1 HR.out (by omega) hb1 rfl (by omega) (by omega) (by simp)).mono ?_
  rintro e w2 ⟨m, rfl, m0, m1, hR2, hG2⟩
  have HO2 := Lib.hid (ownI_kept HO.out hG2 hb)
  have HR2 := Lib.hid hR2
  have HG2 := Lib.hid (g_trans HG.out hG2)
  have hs2 : w.heap.size < w2.heap.size := by have := hG2.size; omega
  clear hG2 hR2 HO HR HG
  go_wp2_with fail
  go_loopw [3, 4] (fun v q wr => ∃ (k : Nat) (zs : List Int), (k : Int) ≤ m ∧ q = .int .i64 (m - k) ∧ Hid (OwnI wr w.heap.size v zs ∧ (∀ z ∈ zs, -1 ≤ z ∧ z ≤ 501) ∧ zs.length = k ∧ Rd wr b (P + 1 + 2 * (k : Int)) ∧ w.grownBy wr (some b)) ∧ w.heap.size < wr.heap.size) (fun _ q _ => (intOf q).toNat)
  case atStart => exact ⟨0, [], by omega, by go_num, ⟨HO2.out, by simp, rfl, by simpa using HR2.out, HG2.out⟩, hs2⟩
  case round =>
    clear HO2 HR2 HG2
    obtain ⟨k, zs, hk, rfl, HR, hsz⟩ := hrel
    have hkl := HR.out.2.2.1
    by_cases hlt : (k : Int) < m
    · have hbr : b < wr.heap.size := by omega
      have hR := HR.out.2.2.2.1
      have hzl : zs.length ≤ 20 := by omega
      have HKL := Lib.hid hkl
      clear hkl
      go_wp2_with fail
      refine (pick_any b _ 60 _ hR (by omega)).mono ?_
      rintro e w7 ⟨p, rfl, hp, hR7, hG7⟩
      have hb7 := Nat.lt_of_lt_of_le hbr hG7.size
      have hp6 : (p : Int) ≤ 60 := by omega
      clear hR hp
      go_wp2_with fail
      refine (one_lit b 6 _ 0 60 [10, 20, 5, 0, (p : Int), 30] _ w7 hR7 (by omega) hb7 rfl (by omega) (by omega) (by simp; omega)).mono ?_
      rintro e w8 ⟨z, rfl, z0, z1, hR8, hG8⟩
      have G8 := g_trans hG7 hG8
      have hO8 := ownI_kept HR.out.1 G8 hb
      have hR8' := rd_up (P' := P + 1 + 2 * ((k + 1 : Nat) : Int)) hR8 (by omega)
      have hs8 : w.heap.size < w8.heap.size := by have := G8.size; omega
      have HR8 := Lib.hid (And.intro hR8' (g_trans HR.out.2.2.2.2 G8))
      clear hR7 hG7 hG8 G8 hR8 hR8'
      go_wp2_with (first | (at_builtin; refine wpList_append_own _ rfl (.tmp 13) (.tmp 19) _ rfl w.heap.size 3 i0 (.int .i64 0) 1 8 Try.underlying31 hi0 hz0 hz1 hz2 rfl (by decide) _ _ _ rfl (hO8.alloc _) ⟨w8.heap.size, 0, none⟩ 1 1 [.int .i64 z] rfl rfl (cell_one_new _ _ _) (fun x hx => by simp at hx; subst hx; rfl) (by unfold maxLen; omega) (by omega) (by simp; omega) ?_; intro v3 w3 hown3 hgrow3 hnil3))
      have hB12 : Below w.heap.size w8 w3 := ((Below.refl _ w8).alloc (Nat.le_of_lt hs8) _).grown hgrow3 (by simp; omega) hO8.grow
      obtain ⟨R12, G12⟩ := rd_end (P := P + 1 + 2 * ((k + 1 : Nat) : Int)) hb HR8.out.1 rfl HR8.out.2 hB12
      have HF : Hid (OwnI w3 w.heap.size v3 (zs ++ [z]) ∧ (∀ y ∈ zs ++ [z], -1 ≤ y ∧ y ≤ 501) ∧ (zs ++ [z]).length = k + 1 ∧ Rd w3 b (P + 1 + 2 * ((k + 1 : Nat) : Int)) ∧ w.grownBy w3 (some b)) := ⟨OwnI.snoc hown3, fun y hy => by
        rcases List.mem_append.1 hy with h | h
        · exact HR.out.2.1 y h
        · simp at h; omega, by rw [List.length_append, HKL.out]; rfl, R12, G12⟩
      have hs12 : w.heap.size < w3.heap.size := by have := hB12.size; omega
      clear hown3 hgrow3 hnil3 hB12 R12 G12 hO8 HR8 HR
      go_roundw
      case rel => exact ⟨k + 1, zs ++ [z], by omega, by go_num, HF.out, hs12⟩
      case measure => simp [intOf]; omega
    · have e : (k : Int) = m := by omega
      have hzl : zs.length ≤ 20 := by omega
      have hO := HR.out.1
      obtain ⟨vb, vc, rfl, _⟩ := hO.ints
      have HO := Lib.hid hO
      clear hO
      by_cases hz : zs.length = 0
      · have e1 : decide (0 < (zs.length : Int)) = false := decide_eq_false (by omega)
        have e2 : decide (0 < zs.length) = false := decide_eq_false (by omega)
        have HF : Hid (OwnI wr w.heap.size (.slice vb zs.length vc) zs ∧ (∀ z ∈ zs, -1 ≤ z ∧ z ≤ 501) ∧ Rd wr b (P + 60) ∧ w.grownBy wr (some b)) := ⟨HO.out, HR.out.2.1, rd_up HR.out.2.2.2.1 (by omega), HR.out.2.2.2.2⟩
        clear HR HO hkl hz
        go_wp2_with fail
        go_ret
        exact ⟨_, zs, rfl, hzl, HF.out.2.1, HF.out.1, HF.out.2.2.1, HF.out.2.2.2⟩
      · obtain ⟨gz, rfl, hgz⟩ := HO.out.form_ (by omega)
        have e1 : decide (0 < (zs.length : Int)) = true := decide_eq_true (by omega)
        have e2 : decide (0 < zs.length) = true := decide_eq_true (by omega)
        have e3 : 0 < zs.length := by omega
        have hbr : b < wr.heap.size := by omega
        have hR := HR.out.2.2.2.1
        have HKL := Lib.hid hkl
        clear hkl hz
        go_wp2_with fail
        refine (pick_any b _ 20 _ hR (by omega)).mono ?_
        rintro e w7 ⟨p, rfl, hp, hR7, hG7⟩
        have hb7 := Nat.lt_of_lt_of_le hbr hG7.size
        have HO7 := Lib.hid (ownI_kept HO.out hG7 hb)
        have G7 := Lib.hid (g_trans HR.out.2.2.2.2 hG7)
        have HZ := Lib.hid HR.out.2.1
        clear hR hp hG7 HR HO
        by_cases p0 : p = 0
        · subst p0
          go_wp2_with fail
          refine (one_lit b 2 _ (-1) 501 [-1, 501] _ w7 hR7 (by omega) hb7 rfl (by omega) (by omega) (by simp)).mono ?_
          rintro e w8 ⟨z, rfl, z0, z1, hR8, hG8⟩
          have hO8 := ownI_kept HO7.out hG8 hb
          have hc0 := hO8.cell (j := 0) e3
          have hf0 := hO8.frozen 0
          have hS := hO8.set_ 0 z
          have hB : Below w.heap.size w8 (w8.setCell ⟨gz, 0, none⟩ (.int .i64 z)) := (Below.refl _ _).setCell (p := ⟨gz, 0, none⟩) hgz _
          have hfin := rd_end (P := P + 60) hb (rd_up (P' := P + 60) hR8 (by omega)) rfl (g_trans G7.out hG8) hB
          have HS := Lib.hid (And.intro hS hfin)
          generalize zs.getD 0 0 = y0 at hc0
          clear hS hfin hB hO8 hG8 hR8 hR7
          go_wp2_with fail
          go_ret
          have hl2 : (zs.set 0 z).length = zs.length := List.length_set
          refine ⟨_, zs.set 0 z, rfl, by rw [hl2]; exact hzl, fun y hy => ?_, HS.out.1, HS.out.2.1, HS.out.2.2⟩
          rcases List.mem_or_eq_of_mem_set hy with h | h
          · exact HZ.out y h
          · subst h; exact ⟨z0, z1⟩
        · have e4 : ((p : Int) == 0) = false := beq_eq_false_iff_ne.2 (by omega)
          have e5 : (p == 0) = false := beq_eq_false_iff_ne.2 p0
          have HF := Lib.hid (rd_up (P' := P + 60) hR7 (by omega))
          clear hR7 p0
          go_wp2_with fail
          go_ret
          exact ⟨_, zs, rfl, hzl, HZ.out, HO7.out, HF.out, G7.out⟩
end Go.Proofs.Ytigapnbpgbfbhac
