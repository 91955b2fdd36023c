/- Helpers of the laws on claims: lists turned round, differences, greatest numbers, how many there are of one. Condition: at most 1048576 numbers. -/
import Derived.Test.YtojkgabkiagjdacClmP
import Derived.Test.YtojkgabkiagjdacOwnZ
import Derived.Test.YtojkgabkiagjdacEqI
import Derived.Test.YtojkgabkiagjdacReadz
import Derived.Test.YtojkgabkiagjdacMathQ
import Derived.Deep.RegionHeld3
import Derived.Deep.QuietTactic
import Derived.BigQuiet
namespace Go.Proofs.Ytojkgabkiagjdac
open Go.RowKit
set_option linter.unusedSimpArgs false
set_option linter.unusedVariables false
theorem take_nextL {l : List Int} {k : Nat} (h : k < l.length) : l.take (k + 1) = l.take k ++ [l.getD k 0] := by
  rw [List.take_succ_eq_append_getElem h, List.getD_eq_getElem?_getD, List.getElem?_eq_getElem h]; rfl
theorem cell_nowL {w wr : World} {g o i : Nat} {v : Value} (h : w.cell? ⟨g, o + i, none⟩ = some v) (hB : Below w.heap.size w wr) : wr.cell? ⟨g, o + i, none⟩ = some v :=
  (hB.cell (p := ⟨g, o + i, none⟩) (World.block_lt_of_cell? w _ h)).trans h
theorem ints_openL {w : World} {a : Option Addr} {zs : List Int} (h : IsInts w a zs) (hl : 0 < zs.length) : ∃ g o, a = some ⟨g, o, none⟩ ∧ ∀ i, i < zs.length → w.cell? ⟨g, o + i, none⟩ = some (.int .i64 (zs.getD i 0)) := by
  rcases h with rfl | ⟨g, o, rfl, hc⟩
  · simp at hl
  · exact ⟨g, o, rfl, hc⟩
set_option maxRecDepth 100000 in
set_option maxHeartbeats 4000000 in
theorem lbackW (a : Option Addr) (ca : Nat) (zs : List Int) (w : World) (h : IsInts w a zs) (hn : zs.length ≤ 1048576) :
    Calls Try.prog 33 #[.slice a zs.length ca] w (OutI w zs.reverse) := by
  have HM := Lib.hid (And.intro (OwnI.new (Below.refl w.heap.size w)) ((Below.refl w.heap.size w).alloc (Nat.le_refl _) (.cells #[] 3)))
  have HA := Lib.hid h
  obtain ⟨m, hm⟩ : ∃ m, zs.length = m := ⟨_, rfl⟩
  have HL := Lib.hid hm
  have m1 : m ≤ 1048576 := by omega
  rw [hm]
  clear h hm hn
  go_enter Try.func33, Try.ntmps33
  go_wp2_with fail
  go_loopw [3, 4] (fun v i wr => ∃ k : Nat, k ≤ m ∧ i = .int .i64 ((m : Int) - 1 - k) ∧ Hid (OwnI wr w.heap.size v (zs.reverse.take k)) ∧ Hid (Below w.heap.size w wr)) (fun _ i _ => (intOf i + 1).toNat)
  case atStart => exact ⟨0, Nat.zero_le _, by go_num, HM.out.1, HM.out.2⟩
  case round =>
    clear HM
    obtain ⟨k, hk, rfl, HO, HB⟩ := hrel
    by_cases hlt : k < m
    · have hkc : k < zs.length := by have := HL.out; omega
      obtain ⟨gc, oc, rfl, x0⟩ := ints_openL HA.out (by omega)
      have x0 := cell_nowL (x0 (m - 1 - k) (by have := HL.out; omega)) HB.out
      have HLT : Hid ((zs.reverse.take k).length = k) := by show _ = _; rw [List.length_take, List.length_reverse]; omega
      have HNX : Hid (zs.reverse.take (k + 1) = zs.reverse.take k ++ [zs.getD (m - 1 - k) 0]) := by show _ = _; rw [take_nextL (by rw [List.length_reverse]; exact hkc), revZ_get zs hkc, HL.out]
      generalize zs.getD (m - 1 - k) 0 = z at *
      obtain ⟨q, hq⟩ : ∃ q : Nat, m - 1 - k = q := ⟨_, rfl⟩
      have hqi : (m : Int) - 1 - k = (q : Int) := by omega
      rw [hq] at x0
      rw [hqi]
      have HQ := Lib.hid hqi
      have k0 : (0 : Int) ≤ (q : Int) := by omega
      have k1 : (q : Int) < (m : Int) := by omega
      clear hkc hq hqi
      go_wp2_with (first | (at_builtin; refine wp_snoc rfl _ _ rfl rfl HO.out rfl rfl (by rw [HLT.out]; omega) (HB.out.size) ?_; intro v3 w3 Q1 G3 n3))
      have B2 := below_gv HB.out G3 (fun q hq => HO.out.grow q hq)
      rw [← HNX.out] at Q1
      have HS := Lib.hid (And.intro Q1 B2)
      clear Q1 B2 G3 n3 HO HB
      go_roundw
      case rel => exact ⟨k + 1, by omega, by have := HQ.out; go_num, HS.out.1, HS.out.2⟩
      case measure => have := HQ.out; simp [intOf] <;> omega
    · obtain rfl : k = m := by omega
      rw [List.take_of_length_le (by rw [List.length_reverse, HL.out]; exact Nat.le_refl _)] at HO
      have e0 : (k : Int) - 1 - (k : Int) = -1 := by omega
      rw [e0]
      go_wp2_with fail
      go_ret
      exact ⟨_, rfl, HO.out, HB.out⟩
set_option maxRecDepth 100000 in
set_option maxHeartbeats 4000000 in
theorem llessW (m : Nat) (a b : Option Addr) (ca cb : Nat) (us vs : List Int) (w : World) (h : IsInts w a us) (h2 : IsInts w b vs) (hl : us.length = m) (hl2 : vs.length = m) (hn : m ≤ 1048576)
    (q1 : ∀ i, i < m → -1000000 ≤ us.getD i 0 ∧ us.getD i 0 ≤ 1000000) (q2 : ∀ i, i < m → -1000000 ≤ vs.getD i 0 ∧ vs.getD i 0 ≤ 1000000) :
    Calls Try.prog 36 #[.slice a m ca, .slice b m cb] w (OutI w (subZ us vs)) := by
  obtain ⟨i0, hi0, hz0, hz1, hz2⟩ := info_parts infoInt
  have HM := Lib.hid (And.intro (OwnI.new (Below.refl w.heap.size w)) ((Below.refl w.heap.size w).alloc (Nat.le_refl _) (.cells #[] 3)))
  have HA := Lib.hid h
  have HB2 := Lib.hid h2
  have HL : Hid (us.length = m ∧ vs.length = m) := ⟨hl, hl2⟩
  have HVL : Hid ((subZ us vs).length = m) := by show _ = _; rw [subZ_len]; exact hl
  have HVG := Lib.hid (fun i (hi : i < m) => subZ_get us vs (i := i) (by omega))
  have HQ1 := Lib.hid q1
  have HQ2 := Lib.hid q2
  generalize subZ us vs = VV at *
  clear h h2 hl hl2 q1 q2
  go_enter Try.func36, Try.ntmps36
  go_wp2_with fail
  go_loopw [5, 6] (fun v i wr => ∃ k : Nat, k ≤ m ∧ i = .int .i64 k ∧ Hid (OwnI wr w.heap.size v (VV.take k)) ∧ Hid (Below w.heap.size w wr)) (fun _ i _ => m - (intOf i).toNat)
  case atStart => exact ⟨0, Nat.zero_le _, rfl, HM.out.1, HM.out.2⟩
  case round =>
    clear HM
    obtain ⟨k, hk, rfl, HO, HB⟩ := hrel
    by_cases hlt : k < m
    · obtain ⟨gc, oc, rfl, x0⟩ := ints_openL HA.out (by have := HL.out; omega)
      obtain ⟨gd, od, rfl, x1⟩ := ints_openL HB2.out (by have := HL.out; omega)
      have xw := x0 k (by have := HL.out; omega)
      have yw := x1 k (by have := HL.out; omega)
      have HMK := Lib.hid (fun (W : World) (hW : Below w.heap.size w W) => (⟨cell_nowL xw hW, cell_nowL yw hW, hW⟩ : W.cell? ⟨gc, oc + k, none⟩ = some (.int .i64 (us.getD k 0)) ∧ W.cell? ⟨gd, od + k, none⟩ = some (.int .i64 (vs.getD k 0)) ∧ Below w.heap.size w W))
      have hg := HVG.out k hlt
      have b1 := HQ1.out k hlt
      have b2 := HQ2.out k hlt
      have HTK : Hid (VV.take (k + 1) = VV.take k ++ [us.getD k 0 - vs.getD k 0]) := by show _ = _; rw [take_nextL (by rw [HVL.out]; exact hlt), hg]
      generalize us.getD k 0 = x at *
      generalize vs.getD k 0 = y at *
      have k0 : (0 : Int) ≤ (k : Int) := by omega
      have k1 : (k : Int) < (m : Int) := by omega
      have wz : IntKind.i64.wrap (x - y) = x - y := by rw [IntKind.wrap_i64]; omega
      have hBd : Below w.heap.size w wr.drew := HB.out.drew
      have HLT : Hid ((VV.take k).length = k) := by show _ = _; rw [List.length_take, HVL.out]; omega
      have HO1 := HO.out
      unfold OwnI at HO1
      rw [HLT.out] at HO1
      have HOZ := Lib.hid ((World.ownsRow.drew HO1).alloc (.cells #[.int .i64 (x - y)] 3))
      have hbz : w.heap.size ≤ (wr.drew.alloc (.cells #[.int .i64 (x - y)] 3)).heap.size := by have := hBd.size; simp at this ⊢; omega
      have hnz : Reads (wr.drew.alloc (.cells #[.int .i64 (x - y)] 3)) (wr.heap.size + 1) 1 (some ⟨wr.heap.size, 0, none⟩) 1 [.int .i64 (x - y)] := ⟨rfl, fun _ => ⟨_, rfl, by simp, fun j u hu => cell_one_new _ _ _ j u hu⟩⟩
      clear HO1 xw yw x0 x1 hg
      go_wp2_with fail
      go_region_held3 (fun w' => w'.cell? ⟨gc, oc + k, none⟩ = some (.int .i64 x) ∧ w'.cell? ⟨gd, od + k, none⟩ = some (.int .i64 y) ∧ Below w.heap.size w w') (first | (exact HMK.out _ hBd) | (exact HMK.out _ (hBd.alloc hBd.size _)) | (exact HMK.out _ ((hBd.alloc hBd.size _).grown hg3 (hBd.alloc hBd.size _).size (fun q hq => (World.ownsRow.lt HO.out q hq).1))))
        (first | (refine step_append_any _ rfl (.tmp 20) (.tmp 30) 23 (by rfl) w.heap.size 3 i0 (.int .i64 0) 1 8 Try.underlying23 hi0 hz0 hz1 hz2 rfl (by decide) _ k ((VV.take k).map (Value.int .i64)) (by rfl) HOZ.out (wr.heap.size + 1) (some ⟨wr.heap.size, 0, none⟩) 1 1 [.int .i64 (x - y)] (by rfl) hnz (fun x hx => by simp at hx; subst hx; rfl) (by unfold maxLen; omega) (by omega) hbz ?_; intro v' w3 hown' hg3 hat3) | fail)
      have hB3 : Below w.heap.size w w3 := And.right (And.right (by assumption))
      have Q3 : OwnI w3 w.heap.size v' (VV.take (k + 1)) := by
        rw [HTK.out]
        unfold OwnI
        rw [List.length_append, List.map_append, HLT.out]
        exact hown'
      have HS := Lib.hid (And.intro Q3 hB3)
      clear Q3 hB3 hown' hg3 hat3 HO hBd
      go_wp2_with fail
      go_roundw
      case rel => exact ⟨k + 1, by omega, by go_num, HS.out.1, HS.out.2⟩
      case measure => simp [intOf]; omega
    · obtain rfl : k = m := by omega
      rw [List.take_of_length_le (by rw [HVL.out]; exact Nat.le_refl _)] at HO
      go_wp2_with fail
      go_ret
      exact ⟨_, rfl, HO.out, HB.out⟩
end Go.Proofs.Ytojkgabkiagjdac
