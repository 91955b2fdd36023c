/- For every input the law answers true, and its arguments read afterwards as before: impl.ShortOf answers as its model. No condition. -/
import Derived.Test.YtongnppjekjmdaaRows
import Derived.Test.YtongnppjekjmdaaBasK
import Derived.Test.YtongnppjekjmdaaRunT
import Derived.WalkKit
import Derived.ProofKit
import Derived.OpenShut
import Derived.ShutString
import Derived.ChangeOld
import Derived.Below
import Derived.Lib.SmallJoins
namespace Go.Proofs.Ytongnppjekjmdaa.fnExactShortOf
open Go.ChangeShapes Go.WideShapes Go.ChangeAt Go.RowKit Go.Joins
open Go.ChangeMaps (open_string shut_string)
set_option linter.unusedVariables false
set_option linter.unusedSimpArgs false

theorem own : ownKnob Try.prog.godebug = none := by kernel_rfl
theorem laidOut : laidOutB Try.prog = true := by kernel_rfl

set_option maxRecDepth 100000 in
set_option maxHeartbeats 6000000 in
theorem walk (n0 d0 : Int) (a1 : Option Addr) (len1 cap1 : Nat) (z1 : List Int) (a2 : Option Addr) (len2 cap2 : Nat) (z2 : List Int) (w : World) (w0 : (Lit.int .i64 n0).wf = true) (x0 : (Lit.int .i64 d0).wf = true) (w1 : IsRow .i64 w a1 len1 cap1 z1) (w2 : IsRow .i64 w a2 len2 cap2 z2) :
    Calls Try.prog 7 #[.agg #[.int .i64 n0, .int .i64 d0], .slice a1 len1 cap1, .slice a2 len2 cap2] w fun e w' => e = .returned (.bool true) ∧ Below w.heap.size w w' := by
  obtain ⟨zs1, rfl, hz1⟩ := row_is w1
  clear w1
  obtain ⟨zs2, rfl, hz2⟩ := row_is w2
  clear w2
  by_cases big1 : (1048576 : Int) < (zs1.length : Int)
  · go_enter Try.func7, Try.ntmps7
    go_wp2_with fail
    go_ret
    exact ⟨rfl, by go_grown⟩
  have nz1 : zs1.length ≤ 1048576 := by omega
  by_cases big2 : (1048576 : Int) < (zs2.length : Int)
  · go_enter Try.func7, Try.ntmps7
    go_wp2_with fail
    go_ret
    exact ⟨rfl, by go_grown⟩
  have nz2 : zs2.length ≤ 1048576 := by omega
  obtain ⟨V, hV⟩ : ∃ V, shortV n0 d0 zs1 zs2 = V := ⟨_, rfl⟩
  have CS : ∀ (A1 : Option Addr) (c1 : Nat) (A2 : Option Addr) (c2 : Nat) (W : World), IsInts W A1 zs1 → IsInts W A2 zs2 → Calls Try.prog 28 #[.agg #[.int .i64 n0, .int .i64 d0], .slice A1 zs1.length c1, .slice A2 zs2.length c2] W fun e w' => e = .returned (.int .i64 V) ∧ Below W.heap.size W w' := fun A1 c1 A2 c2 W h1 h2 => by rw [← hV]; exact sShort n0 d0 A1 A2 c1 c2 zs1 zs2 W h1 h2 nz1 nz2
  have CI : ∀ (A1 : Option Addr) (c1 : Nat) (A2 : Option Addr) (c2 : Nat) (W : World), IsInts W A1 zs1 → IsInts W A2 zs2 → Calls Try.prog 29 #[.agg #[.int .i64 n0, .int .i64 d0], .slice A1 zs1.length c1, .slice A2 zs2.length c2] W fun e w' => e = .returned (.int .i64 V) ∧ Below W.heap.size W w' := fun A1 c1 A2 c2 W h1 h2 => by rw [← hV]; exact iShort n0 d0 A1 A2 c1 c2 zs1 zs2 W h1 h2 nz1 nz2
  clear hV
  have HCS := Lib.hid CS
  have HCI := Lib.hid CI
  clear CS CI
  go_enter Try.func7, Try.ntmps7
  have B := Below.refl w.heap.size w
  have K := Blk.new w 23 #[.int .i64 n0, .int .i64 d0]
  replace B := B.alloc B.size (.cells #[.int .i64 n0, .int .i64 d0] 23)
  obtain ⟨f0K, f1K, f2K, f3K, f4K⟩ := blk_two K
  go_wp2_with fail
  clear f0K f1K f2K f3K f4K
  refine (ltoBasin n0 d0 _).mono ?_
  rintro e u1_ ⟨rfl, C⟩
  replace B := bel_tr B C
  replace K := K.next C
  clear C
  obtain ⟨f0K, f1K, f2K, f3K, f4K⟩ := blk_two K
  go_wp2_with fail
  clear f0K f1K f2K f3K f4K
  have lt_K_s1 := K.lt
  refine (ltoIntS a1 cap1 zs1 _ (ints_below hz1 B) nz1).mono ?_
  rintro e u2_ ⟨s1, rfl, ls1, Ts1, C⟩
  have ws1 : w.heap.size ≤ s1 := Nat.le_trans B.size ls1
  have ne_K_s1 : w.heap.size ≠ s1 := by omega
  replace B := bel_tr B C
  replace K := K.next C
  clear C
  obtain ⟨f0K, f1K, f2K, f3K, f4K⟩ := blk_two K
  go_wp2_with fail
  clear f0K f1K f2K f3K f4K
  have lt_K_s2 := K.lt
  have lt_Ts1_s2 := World.rowIs.lt Ts1
  refine (ltoIntS a2 cap2 zs2 _ (ints_below hz2 B) nz2).mono ?_
  rintro e u3_ ⟨s2, rfl, ls2, Ts2, C⟩
  have ws2 : w.heap.size ≤ s2 := Nat.le_trans B.size ls2
  have ne_K_s2 : w.heap.size ≠ s2 := by omega
  have ne_Ts1_s2 : s1 ≠ s2 := by omega
  have en_Ts1_s2 : s2 ≠ s1 := by omega
  replace B := bel_tr B C
  replace K := K.next C
  replace Ts1 := row_keep Ts1 C
  clear C
  obtain ⟨f0K, f1K, f2K, f3K, f4K⟩ := blk_two K
  go_wp2_with fail
  clear f0K f1K f2K f3K f4K
  refine (HCS.out _ _ _ _ _ (row_ints Ts1) (row_ints Ts2)).mono ?_
  rintro e u4_ ⟨rfl, C⟩
  replace B := bel_tr B C
  replace K := K.next C
  replace Ts1 := row_keep Ts1 C
  replace Ts2 := row_keep Ts2 C
  clear C
  clear Ts1 Ts2
  obtain ⟨f0K, f1K, f2K, f3K, f4K⟩ := blk_two K
  go_wp2_with fail
  clear f0K f1K f2K f3K f4K
  have lt_K_x1 := K.lt
  refine (ltoIntS a1 cap1 zs1 _ (ints_below hz1 B) nz1).mono ?_
  rintro e u5_ ⟨x1, rfl, lx1, Tx1, C⟩
  have wx1 : w.heap.size ≤ x1 := Nat.le_trans B.size lx1
  have ne_K_x1 : w.heap.size ≠ x1 := by omega
  replace B := bel_tr B C
  replace K := K.next C
  clear C
  obtain ⟨f0K, f1K, f2K, f3K, f4K⟩ := blk_two K
  go_wp2_with fail
  clear f0K f1K f2K f3K f4K
  have lt_K_x2 := K.lt
  have lt_Tx1_x2 := World.rowIs.lt Tx1
  refine (ltoIntS a2 cap2 zs2 _ (ints_below hz2 B) nz2).mono ?_
  rintro e u6_ ⟨x2, rfl, lx2, Tx2, C⟩
  have wx2 : w.heap.size ≤ x2 := Nat.le_trans B.size lx2
  have ne_K_x2 : w.heap.size ≠ x2 := by omega
  have ne_Tx1_x2 : x1 ≠ x2 := by omega
  have en_Tx1_x2 : x2 ≠ x1 := by omega
  replace B := bel_tr B C
  replace K := K.next C
  replace Tx1 := row_keep Tx1 C
  clear C
  obtain ⟨f0K, f1K, f2K, f3K, f4K⟩ := blk_two K
  go_wp2_with fail
  clear f0K f1K f2K f3K f4K
  refine (ltoBasin n0 d0 _).mono ?_
  rintro e u7_ ⟨rfl, C⟩
  replace B := bel_tr B C
  replace K := K.next C
  replace Tx1 := row_keep Tx1 C
  replace Tx2 := row_keep Tx2 C
  clear C
  obtain ⟨f0K, f1K, f2K, f3K, f4K⟩ := blk_two K
  go_wp2_with fail
  clear f0K f1K f2K f3K f4K
  refine (HCI.out _ _ _ _ _ (row_ints Tx1) (row_ints Tx2)).mono ?_
  rintro e u8_ ⟨rfl, C⟩
  replace B := bel_tr B C
  replace K := K.next C
  replace Tx1 := row_keep Tx1 C
  replace Tx2 := row_keep Tx2 C
  clear C
  obtain ⟨f0K, f1K, f2K, f3K, f4K⟩ := blk_two K
  go_wp2_with fail
  clear f0K f1K f2K f3K f4K
  have lt_K_y1 := K.lt
  have lt_Tx1_y1 := World.rowIs.lt Tx1
  have lt_Tx2_y1 := World.rowIs.lt Tx2
  refine (ltoIntS a1 cap1 zs1 _ (ints_below hz1 B) nz1).mono ?_
  rintro e u9_ ⟨y1, rfl, ly1, Ty1, C⟩
  have wy1 : w.heap.size ≤ y1 := Nat.le_trans B.size ly1
  have ne_K_y1 : w.heap.size ≠ y1 := by omega
  have ne_Tx1_y1 : x1 ≠ y1 := by omega
  have en_Tx1_y1 : y1 ≠ x1 := by omega
  have ne_Tx2_y1 : x2 ≠ y1 := by omega
  have en_Tx2_y1 : y1 ≠ x2 := by omega
  replace B := bel_tr B C
  replace K := K.next C
  replace Tx1 := row_keep Tx1 C
  replace Tx2 := row_keep Tx2 C
  clear C
  obtain ⟨f0K, f1K, f2K, f3K, f4K⟩ := blk_two K
  go_wp2_with fail
  clear f0K f1K f2K f3K f4K
  refine (leqIntS _ _ _ _ zs1 _ (row_ints Tx1) (row_ints Ty1) nz1).mono ?_
  rintro e u10_ ⟨rfl, C⟩
  replace B := bel_tr B C
  replace K := K.next C
  replace Tx1 := row_keep Tx1 C
  replace Tx2 := row_keep Tx2 C
  replace Ty1 := row_keep Ty1 C
  clear C
  clear Ty1
  obtain ⟨f0K, f1K, f2K, f3K, f4K⟩ := blk_two K
  go_wp2_with fail
  clear f0K f1K f2K f3K f4K
  have lt_K_y2 := K.lt
  have lt_Tx1_y2 := World.rowIs.lt Tx1
  have lt_Tx2_y2 := World.rowIs.lt Tx2
  refine (ltoIntS a2 cap2 zs2 _ (ints_below hz2 B) nz2).mono ?_
  rintro e u11_ ⟨y2, rfl, ly2, Ty2, C⟩
  have wy2 : w.heap.size ≤ y2 := Nat.le_trans B.size ly2
  have ne_K_y2 : w.heap.size ≠ y2 := by omega
  have ne_Tx1_y2 : x1 ≠ y2 := by omega
  have en_Tx1_y2 : y2 ≠ x1 := by omega
  have ne_Tx2_y2 : x2 ≠ y2 := by omega
  have en_Tx2_y2 : y2 ≠ x2 := by omega
  replace B := bel_tr B C
  replace K := K.next C
  replace Tx1 := row_keep Tx1 C
  replace Tx2 := row_keep Tx2 C
  clear C
  obtain ⟨f0K, f1K, f2K, f3K, f4K⟩ := blk_two K
  go_wp2_with fail
  clear f0K f1K f2K f3K f4K
  refine (leqIntS _ _ _ _ zs2 _ (row_ints Tx2) (row_ints Ty2) nz2).mono ?_
  rintro e u12_ ⟨rfl, C⟩
  replace B := bel_tr B C
  replace K := K.next C
  replace Tx1 := row_keep Tx1 C
  replace Tx2 := row_keep Tx2 C
  replace Ty2 := row_keep Ty2 C
  clear C
  clear Ty2
  obtain ⟨f0K, f1K, f2K, f3K, f4K⟩ := blk_two K
  go_wp2_with fail
  clear f0K f1K f2K f3K f4K
  go_ret
  exact ⟨rfl, B⟩

set_option maxRecDepth 100000 in
theorem lifted (os : Os) (started : os.Started) (H : Type) (enc : TypeId × Value → H) :
    ReturnsInHanded {} Try.checked os 7 .any (Rows.fnExactShortOfSpec.pre6 enc Try.prog Try.f7 Rows.fnExactShortOfRow.domain false) (Rows.fnExactShortOfSpec.post enc Try.prog Try.f7 false true false false) := by
  refine returnsInHanded_of_change (C := Try.checked) own started (by kernel_rfl) Try.func7
    (ChangeSpec.witness6 (enc := enc) (C := Try.checked) false ⟨#[], #[.agg #[.int .i64 0, .int .i64 0], .slice none 0 0, .slice none 0 0], []⟩ 8 (by kernel_rfl) (by kernel_rfl) (by kernel_rfl) (by kernel_rfl)) ?_
  intro W base args ds gs before hval0 hW hcnd _
  have hval : ∀ (j : Nat) t v, Try.f7.params[j]? = some t → args[j]? = some v → Value.okWide Try.prog W .any base t v := hval0
  have hW' := hW
  obtain ⟨p, q, hA0, hV, rfl, hfz, hnd⟩ := hW
  have hA : DataW.TrodAll enc Try.prog W 0 (fun _ => true) true Try.f7.params.toList args.toList ds p := hA0
  rw [Try.params7] at hA hval
  obtain ⟨v0, vs0, e0, es0, p0, q0, hargs, rfl, rfl, h0, r0⟩ := trodAll_cons hA
  obtain ⟨v1, vs1, e1, es1, p1, q1, rfl, rfl, rfl, h1, r1⟩ := trodAll_cons r0
  obtain ⟨v2, vs2, e2, es2, p2, q2, rfl, rfl, rfl, h2, r2⟩ := trodAll_cons r1
  obtain ⟨rfl, rfl, rfl⟩ := trodAll_nil r2
  obtain rfl : args = #[v0, v1, v2] := by cases args; simp_all
  obtain ⟨rfl, rfl⟩ := trodVars_none hV
  have k0 := h0
  have lt0 : ∀ x ∈ p0, x.block < W.heap.size := by obtain ⟨m, hm⟩ := k0; exact DataW.trod_lt m _ _ _ hm
  obtain ⟨c0, b0, y0, u0, m0, rfl, _, _, hy0, hu0⟩ := open_agg2 Try.underlying23 (by kernel_rfl) (by kernel_rfl) (hval 0 23 v0 rfl rfl) h0
  obtain ⟨n0, g0, _, w0⟩ := DataW.trod_int Try.underlying3 hy0
  obtain ⟨d0, j0, _, x0⟩ := DataW.trod_int Try.underlying3 hu0
  simp only [List.cons.injEq, and_true] at g0 j0
  subst g0 j0
  have k1 := h1
  have lt1 : ∀ x ∈ p1, x.block < W.heap.size := by obtain ⟨m, hm⟩ := k1; exact DataW.trod_lt m _ _ _ hm
  obtain ⟨a1, len1, cap1, rfl⟩ := okWide_slice Try.underlying32 (hval 1 32 v1 rfl rfl)
  obtain ⟨z1, w1⟩ : ∃ zs, IsRow .i64 W a1 len1 cap1 zs := by
    obtain ⟨fuel, hf⟩ := h1
    rcases open_ints Try.underlying32 Try.underlying3 (by kernel_rfl) hf with ⟨hcs, _⟩ | ⟨x, l, c, zs, hcs, _, hl, hm, hz, _, hcell, hwz⟩
    · simp [Value.cells] at hcs
      obtain ⟨rfl, rfl, rfl⟩ := hcs
      exact ⟨[], .inl ⟨rfl, rfl, rfl, rfl⟩⟩
    · simp [Value.cells] at hcs
      obtain ⟨rfl, rfl, rfl⟩ := hcs
      exact ⟨zs, .inr ⟨_, rfl, hl, hm, by simpa using hz, hcell, hwz⟩⟩
  have k2 := h2
  have lt2 : ∀ x ∈ p2, x.block < W.heap.size := by obtain ⟨m, hm⟩ := k2; exact DataW.trod_lt m _ _ _ hm
  obtain ⟨a2, len2, cap2, rfl⟩ := okWide_slice Try.underlying32 (hval 2 32 v2 rfl rfl)
  obtain ⟨z2, w2⟩ : ∃ zs, IsRow .i64 W a2 len2 cap2 zs := by
    obtain ⟨fuel, hf⟩ := h2
    rcases open_ints Try.underlying32 Try.underlying3 (by kernel_rfl) hf with ⟨hcs, _⟩ | ⟨x, l, c, zs, hcs, _, hl, hm, hz, _, hcell, hwz⟩
    · simp [Value.cells] at hcs
      obtain ⟨rfl, rfl, rfl⟩ := hcs
      exact ⟨[], .inl ⟨rfl, rfl, rfl, rfl⟩⟩
    · simp [Value.cells] at hcs
      obtain ⟨rfl, rfl, rfl⟩ := hcs
      exact ⟨zs, .inr ⟨_, rfl, hl, hm, by simpa using hz, hcell, hwz⟩⟩
  clear hA0 hval0
  refine (walk n0 d0 a1 len1 cap1 z1 a2 len2 cap2 z2 W w0 x0 w1 w2).mono fun e W' ⟨he, bel⟩ => ?_
  subst he
  exact ⟨_, rfl, _, _, _, [], _, [], hW', trodAll_mk1 (shut_bool Try.underlying4 _), (trodAll_cons_mk (Below.trod laidOut (by kernel_rfl) (of_decide_eq_true (by kernel_rfl)) k0 bel lt0) (trodAll_cons_mk (Below.trod laidOut (by kernel_rfl) (of_decide_eq_true (by kernel_rfl)) k1 bel lt1) (trodAll_cons_mk (Below.trod laidOut (by kernel_rfl) (of_decide_eq_true (by kernel_rfl)) k2 bel lt2) trodAll_mk0))), rfl, bel.frame _, fun h => by cases h⟩

theorem over : Rows.fnExactShortOfRow.holds Try.pinned (OpenSpec.ofChange Rows.fnExactShortOfSpec) :=
  OpenClaim.holds_of_wide 7 Try.f7 rfl rfl rfl rfl rfl rfl rfl ⟨rfl, rfl, rfl, rfl, rfl⟩ rfl rfl rfl rfl rfl (by kernel_rfl) Try.func7 (by kernel_rfl)
    (of_decide_eq_true (by kernel_rfl)) (by unfold Func.isWrapper; first | (rw [if_pos (by decide +kernel)]; kernel_rfl) | (rw [if_neg (by decide +kernel)]; exact ⟨rfl, rfl⟩))
    (fun os started H enc _ => lifted os started H enc)

end Go.Proofs.Ytongnppjekjmdaa.fnExactShortOf
namespace Go.Proofs.Ytongnppjekjmdaa
/-- the statement -/
theorem fnExactShortOf_holds : Rows.FnExactShortOfSaid := fnExactShortOf.over
end Go.Proofs.Ytongnppjekjmdaa
