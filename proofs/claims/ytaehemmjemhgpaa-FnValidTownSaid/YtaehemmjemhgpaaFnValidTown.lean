/- For every input the law answers true, and its argument reads afterwards as before: towns balance. No condition. -/
import Derived.Test.YtaehemmjemhgpaaRows
import Derived.Test.YtaehemmjemhgpaaPAG8
import Derived.Test.YtaehemmjemhgpaaPAG3
import Derived.Test.YtaehemmjemhgpaaPAG6
import Derived.Test.YtaehemmjemhgpaaPAG2
import Derived.WalkKit
import Derived.ProofKit
import Derived.OpenShut
import Derived.ShutString
import Derived.ChangeOld
import Derived.Below
import Derived.Lib.SmallJoins
set_option maxRecDepth 100000
set_option maxHeartbeats 16000000
namespace Go.Proofs.Ytaehemmjemhgpaa.fnValidTown
open Go.ChangeShapes Go.WideShapes Go.ChangeAt Go.RowKit Go.Joins
open Go.ChangeMaps (open_string shut_string)
set_option linter.unusedVariables false
set_option linter.unusedSimpArgs false

theorem own : ownKnob Try.prog.godebug = none := by kernel_rfl
theorem laidOut : laidOutB Try.prog = true := by kernel_rfl

theorem walk (a0 : Option Addr) (len0 cap0 : Nat) (z0 : List Int) (w : World) (w0 : IsRow .u8 w a0 len0 cap0 z0) :
    Calls Try.prog 6 #[.slice a0 len0 cap0] w fun e w' => e = .returned (.bool true) ∧ Below w.heap.size w w' := by
  by_cases big : (1048576 : Int) < (len0 : Int)
  · go_enter Try.func6, Try.ntmps6
    go_wp2
    go_ret
    exact ⟨rfl, Below.refl _ _⟩
  go_enter Try.func6, Try.ntmps6
  go_wp2_with fail
  refine (drawVTw a0 len0 cap0 z0 _ w0).mono ?_
  rintro e u1 ⟨q, u, rfl, hI, B⟩
  clear w0 big
  have HI := Lib.hid (fun W (hW : Below u1.heap.size u1 W) => tw_below hI hW)
  obtain ⟨U, hU⟩ : ∃ y, y = u1.alloc (.cells #[.slice q.a1 u.hs.length q.c1, .slice q.a2 u.ts.length q.c2, .slice q.a3 u.ns.length q.c3, .int .i64 u.r, .int .i64 u.hd, .slice q.a4 u.ac.length q.c4, .int .i64 u.rt, .int .i64 u.tm, .int .i64 u.ls, .int .i64 u.cm] 49) := ⟨_, rfl⟩
  have D : Below u1.heap.size u1 U := by subst hU; exact (Below.refl _ _).alloc (Nat.le_refl _) _
  have KT : Blk U u1.heap.size 49 #[.slice q.a1 u.hs.length q.c1, .slice q.a2 u.ts.length q.c2, .slice q.a3 u.ns.length q.c3, .int .i64 u.r, .int .i64 u.hd, .slice q.a4 u.ac.length q.c4, .int .i64 u.rt, .int .i64 u.tm, .int .i64 u.ls, .int .i64 u.cm] := by subst hU; exact Blk.new _ _ _
  replace B := B.trans (D.mono B.size)
  have HU := Lib.hid hU
  clear hU hI
  go_upto_region 4 with fail
  rw [← HU.out]
  clear HU
  generalize u1.heap.size = gT at KT ⊢
  have CI := Lib.hid (fun W (hW : Below u1.heap.size u1 W) => iVTw q u W (HI.out W hW))
  have CS := Lib.hid (fun W (hW : Below u1.heap.size u1 W) => sVTw q u W (HI.out W hW))
  cases hv : twB u with
  | false =>
    rw [hv] at CI CS
    clear hv
    obtain ⟨f0_, f1_, f2_, f3_, f4_, f5_, f6_, f7_, f8_, f9_⟩ := town_cells KT
    go_wp2_with fail
    refine (CI.out _ D).mono ?_
    rintro e u2 ⟨rfl, C⟩
    clear f0_ f1_ f2_ f3_ f4_ f5_ f6_ f7_ f8_ f9_
    replace B := bel_tr B C
    replace D := bel_tr D C
    replace KT := KT.next C
    clear C
    obtain ⟨f0_, f1_, f2_, f3_, f4_, f5_, f6_, f7_, f8_, f9_⟩ := town_cells KT
    go_wp2_with fail
    refine (CS.out _ D).mono ?_
    rintro e u2 ⟨rfl, C⟩
    clear f0_ f1_ f2_ f3_ f4_ f5_ f6_ f7_ f8_ f9_
    replace B := bel_tr B C
    replace D := bel_tr D C
    replace KT := KT.next C
    clear C
    obtain ⟨f0_, f1_, f2_, f3_, f4_, f5_, f6_, f7_, f8_, f9_⟩ := town_cells KT
    go_wp2_with fail
    refine (CS.out _ D).mono ?_
    rintro e u2 ⟨rfl, C⟩
    clear f0_ f1_ f2_ f3_ f4_ f5_ f6_ f7_ f8_ f9_
    replace B := bel_tr B C
    replace D := bel_tr D C
    replace KT := KT.next C
    clear C
    obtain ⟨f0_, f1_, f2_, f3_, f4_, f5_, f6_, f7_, f8_, f9_⟩ := town_cells KT
    go_wp2_with fail
    go_ret
    exact ⟨rfl, B⟩
  | true =>
    rw [hv] at CI CS
    obtain ⟨⟨d0, d1⟩, ⟨l0, l1⟩, ⟨m0, m1⟩⟩ := tw_nums hv
    have hac := tw_ac hv
    have HSUM : Hid (u.hd + u.ls + acS u.ac u.ac.length = u.cm) := by have := tw_sum hv; show _ = _; omega
    have HBD : Hid (∀ k, k ≤ u.ac.length → 0 ≤ acS u.ac k ∧ acS u.ac k ≤ 1000000) := fun k hk => by
      have a := acS_all hac hk
      have b := tw_sum hv
      omega
    have HNO := Lib.hid (tw_came hv (k := u.cm + 1) (by omega))
    have w1 : IntKind.i64.wrap (u.hd + u.ls) = u.hd + u.ls := by rw [IntKind.wrap_i64]; omega
    have w2 : IntKind.i64.wrap (u.cm + 1) = u.cm + 1 := by rw [IntKind.wrap_i64]; omega
    have CN := Lib.hid (fun W (hW : Below u1.heap.size u1 W) => iVTw q ⟨u.hs, u.ts, u.ns, u.r, u.hd, u.ac, u.rt, u.tm, u.ls, u.cm + 1⟩ W ⟨(HI.out W hW).h1, (HI.out W hW).h2, (HI.out W hW).h3, (HI.out W hW).h4, (HI.out W hW).n1, (HI.out W hW).n2, (HI.out W hW).n3, (HI.out W hW).n4, (HI.out W hW).k1, (HI.out W hW).k2, (HI.out W hW).k3, (HI.out W hW).k4⟩)
    rw [HNO.out] at CN
    have HD := Lib.hid (And.intro (And.intro d0 d1) (And.intro l0 l1))
    clear hv hac m0 m1 d0 d1 l0 l1
    obtain ⟨f0_, f1_, f2_, f3_, f4_, f5_, f6_, f7_, f8_, f9_⟩ := town_cells KT
    go_wp2_with fail
    refine (CI.out _ D).mono ?_
    rintro e u2 ⟨rfl, C⟩
    clear f0_ f1_ f2_ f3_ f4_ f5_ f6_ f7_ f8_ f9_
    replace B := bel_tr B C
    replace D := bel_tr D C
    replace KT := KT.next C
    clear C
    obtain ⟨f0_, f1_, f2_, f3_, f4_, f5_, f6_, f7_, f8_, f9_⟩ := town_cells KT
    go_wp2_with fail
    refine (CS.out _ D).mono ?_
    rintro e u2 ⟨rfl, C⟩
    clear f0_ f1_ f2_ f3_ f4_ f5_ f6_ f7_ f8_ f9_
    replace B := bel_tr B C
    replace D := bel_tr D C
    replace KT := KT.next C
    clear C
    obtain ⟨f0_, f1_, f2_, f3_, f4_, f5_, f6_, f7_, f8_, f9_⟩ := town_cells KT
    go_wp2_with fail
    have HTW := Lib.hid (HI.out _ D)
    have HDD := Lib.hid D
    have HBB := Lib.hid B
    have HKT := Lib.hid KT
    clear D B KT CI CS
    obtain ⟨w8, hw8⟩ : ∃ y, y = u2 := ⟨_, rfl⟩
    subst hw8
    go_loop [5, 6] (fun v i => ∃ k : Nat, k ≤ u.ac.length ∧ i = .int .i64 (k : Int) ∧ v = .int .i64 (u.hd + u.ls + acS u.ac k)) (fun _ i => u.ac.length - (intOf i).toNat)
    case atStart => exact ⟨0, Nat.zero_le _, rfl, by show Value.int .i64 (u.hd + u.ls) = .int .i64 (u.hd + u.ls + 0); rw [Int.add_zero]⟩
    case round =>
      obtain ⟨k, hk, rfl, rfl⟩ := hrel
      by_cases hlt : k < u.ac.length
      · have hbd := HBD.out k hk
        have hbd2 := HBD.out (k + 1) hlt
        have hd := HD.out
        have e2 : acS u.ac (k + 1) = acS u.ac k + (u.ac.getD k ac0).2 := rfl
        rcases HTW.out.h4 with hd0 | ⟨g, o, ha, hg⟩
        · rw [hd0] at hlt; exact absurd hlt (Nat.not_lt_zero _)
        obtain ⟨_, c1⟩ := hg k hlt
        have n4 := HTW.out.n4
        have wk : IntKind.i64.wrap ((k : Int) + 1) = (k : Int) + 1 := by rw [IntKind.wrap_i64]; omega
        clear n4
        have k0 : (0 : Int) ≤ (k : Int) := by omega
        have k1 : (k : Int) < (u.ac.length : Int) := by omega
        have w3 : IntKind.i64.wrap (u.hd + u.ls + acS u.ac k + (u.ac.getD k ac0).2) = u.hd + u.ls + acS u.ac k + (u.ac.getD k ac0).2 := by rw [IntKind.wrap_i64]; omega
        have HE : Hid (u.hd + u.ls + acS u.ac k + (u.ac.getD k ac0).2 = u.hd + u.ls + acS u.ac (k + 1)) := by show _ = _; rw [e2]; omega
        clear hg hbd hbd2 hd e2
        rw [ha] at f5_
        generalize (u.ac.getD k ac0).2 = un at c1 w3 HE
        go_wp2_with fail
        go_round
        case rel => exact ⟨k + 1, by omega, by go_num, by rw [HE.out]⟩
        case measure => simp [intOf]; omega
      · obtain rfl : k = u.ac.length := by omega
        rw [HSUM.out]
        have e3 : (u.cm == u.cm) = true := by simp
        obtain ⟨U2, hU2⟩ : ∃ y, y = w8.alloc (.cells #[.slice q.a1 u.hs.length q.c1, .slice q.a2 u.ts.length q.c2, .slice q.a3 u.ns.length q.c3, .int .i64 u.r, .int .i64 u.hd, .slice q.a4 u.ac.length q.c4, .int .i64 u.rt, .int .i64 u.tm, .int .i64 u.ls, .int .i64 u.cm] 49) := ⟨_, rfl⟩
        have D2 : Below w8.heap.size w8 U2 := by subst hU2; exact (Below.refl _ _).alloc (Nat.le_refl _) _
        have K7 : Blk U2 w8.heap.size 49 #[.slice q.a1 u.hs.length q.c1, .slice q.a2 u.ts.length q.c2, .slice q.a3 u.ns.length q.c3, .int .i64 u.r, .int .i64 u.hd, .slice q.a4 u.ac.length q.c4, .int .i64 u.rt, .int .i64 u.tm, .int .i64 u.ls, .int .i64 u.cm] := by subst hU2; exact Blk.new _ _ _
        have lg : gT < w8.heap.size := HKT.out.lt
        have KT2 := HKT.out.next D2
        have HU2 := Lib.hid hU2
        have D := bel_tr HDD.out D2
        have B := bel_tr HBB.out D2
        obtain ⟨g7, hg7⟩ : ∃ g, g = w8.heap.size := ⟨_, rfl⟩
        have l7 : u1.heap.size ≤ g7 := by rw [hg7]; exact HDD.out.size
        have l8 : w.heap.size ≤ g7 := by rw [hg7]; exact HBB.out.size
        rw [← hg7] at K7 lg
        obtain ⟨y0, hy0⟩ : ∃ Y_, Y_ = World.setCell U2 ⟨g7, 9, none⟩ (.int .i64 (u.cm + 1)) := ⟨_, rfl⟩
        have K70 := S10_9 K7 hy0
        have KT0 := fS KT2 hy0 (by omega)
        have D0 : Below u1.heap.size u1 y0 := by rw [hy0]; exact D.setCell (p := ⟨g7, 9, none⟩) l7 _
        have B0 : Below w.heap.size w y0 := by rw [hy0]; exact B.setCell (p := ⟨g7, 9, none⟩) l8 _
        have fz := K7.frozen 9
        have HY0 := Lib.hid hy0
        have HU2' : Hid (U2 = w8.alloc (.cells #[.slice q.a1 u.hs.length q.c1, .slice q.a2 u.ts.length q.c2, .slice q.a3 u.ns.length q.c3, .int .i64 u.r, .int .i64 u.hd, .slice q.a4 u.ac.length q.c4, .int .i64 u.rt, .int .i64 u.tm, .int .i64 u.ls, .int .i64 u.cm] 49)) := HU2
        clear D2 hU2 hy0 D B
        obtain ⟨g0_, g1_, g2_, g3_, g4_, g5_, g6_, g7_, g8_, g9_⟩ := town_cells KT2
        obtain ⟨h0_, h1_, h2_, h3_, h4_, h5_, h6_, h7_, h8_, h9_⟩ := town_cells K7
        obtain ⟨i0_, i1_, i2_, i3_, i4_, i5_, i6_, i7_, i8_, i9_⟩ := town_cells KT0
        obtain ⟨j0_, j1_, j2_, j3_, j4_, j5_, j6_, j7_, j8_, j9_⟩ := town_cells K70
        clear KT2 K7 KT0 K70
        subst hg7
        go_wp2_with (first | (show wpList _ _ _ ({ dst := some _, op := _, type := _, pos := _, after := _, guard := _ } :: _) _ (World.alloc _ _); rw [← HU2.out]) | (show wpList _ _ _ _ _ (World.setCell U2 _ _); rw [← HY0.out]))
        refine (CN.out _ D0).mono ?_
        rintro e u9 ⟨rfl, C⟩
        go_wp2_with fail
        go_ret
        exact ⟨rfl, bel_tr B0 C⟩

theorem lifted (os : Os) (started : os.Started) (H : Type) (enc : TypeId × Value → H) :
    ReturnsInHanded {} Try.checked os 6 .any (Rows.fnValidTownSpec.pre6 enc Try.prog Try.f6 Rows.fnValidTownRow.domain false) (Rows.fnValidTownSpec.post enc Try.prog Try.f6 false true false false) := by
  refine returnsInHanded_of_change (C := Try.checked) own started (by kernel_rfl) Try.func6
    (ChangeSpec.witness6 (enc := enc) (C := Try.checked) false ⟨#[], #[.slice none 0 0], []⟩ 8 (by kernel_rfl) (by kernel_rfl) (by kernel_rfl) (by kernel_rfl)) ?_
  intro W base args ds gs before hval0 hW hcnd _
  have hval : ∀ (j : Nat) t v, Try.f6.params[j]? = some t → args[j]? = some v → Value.okWide Try.prog W .any base t v := hval0
  have hW' := hW
  obtain ⟨p, q, hA0, hV, rfl, hfz, hnd⟩ := hW
  have hA : DataW.TrodAll enc Try.prog W 0 (fun _ => true) true Try.f6.params.toList args.toList ds p := hA0
  rw [Try.params6] at hA hval
  obtain ⟨v0, vs0, e0, es0, p0, q0, hargs, rfl, rfl, h0, r0⟩ := trodAll_cons hA
  obtain ⟨rfl, rfl, rfl⟩ := trodAll_nil r0
  obtain rfl : args = #[v0] := by cases args; simp_all
  obtain ⟨rfl, rfl⟩ := trodVars_none hV
  have k0 := h0
  have lt0 : ∀ x ∈ p0, x.block < W.heap.size := by obtain ⟨m, hm⟩ := k0; exact DataW.trod_lt m _ _ _ hm
  obtain ⟨a0, len0, cap0, rfl⟩ := okWide_slice Try.underlying22 (hval 0 22 v0 rfl rfl)
  obtain ⟨z0, w0⟩ : ∃ zs, IsRow .u8 W a0 len0 cap0 zs := by
    obtain ⟨fuel, hf⟩ := h0
    rcases open_ints Try.underlying22 Try.underlying5 (by kernel_rfl) hf with ⟨hcs, _⟩ | ⟨x, l, c, zs, hcs, _, hl, hm, hz, _, hcell, hwz⟩
    · simp [Value.cells] at hcs
      obtain ⟨rfl, rfl, rfl⟩ := hcs
      exact ⟨[], .inl ⟨rfl, rfl, rfl, rfl⟩⟩
    · simp [Value.cells] at hcs
      obtain ⟨rfl, rfl, rfl⟩ := hcs
      exact ⟨zs, .inr ⟨_, rfl, hl, hm, by simpa using hz, hcell, hwz⟩⟩
  clear hA0 hval0
  refine (walk a0 len0 cap0 z0 W w0).mono fun e W' ⟨he, bel⟩ => ?_
  subst he
  exact ⟨_, rfl, _, _, _, [], _, [], hW', trodAll_mk1 (shut_bool Try.underlying4 _), (trodAll_cons_mk (Below.trod laidOut (by kernel_rfl) (of_decide_eq_true (by kernel_rfl)) k0 bel lt0) trodAll_mk0), rfl, bel.frame _, fun h => by cases h⟩

theorem over : Rows.fnValidTownRow.holds Try.pinned (OpenSpec.ofChange Rows.fnValidTownSpec) :=
  OpenClaim.holds_of_wide 6 Try.f6 rfl rfl rfl rfl rfl rfl rfl ⟨rfl, rfl, rfl, rfl, rfl⟩ rfl rfl rfl rfl rfl (by kernel_rfl) Try.func6 (by kernel_rfl)
    (of_decide_eq_true (by kernel_rfl)) (by unfold Func.isWrapper; first | (rw [if_pos (by decide +kernel)]; kernel_rfl) | (rw [if_neg (by decide +kernel)]; exact ⟨rfl, rfl⟩))
    (fun os started H enc _ => lifted os started H enc)

end Go.Proofs.Ytaehemmjemhgpaa.fnValidTown
namespace Go.Proofs.Ytaehemmjemhgpaa
/-- the statement -/
theorem fnValidTown_holds : Rows.FnValidTownSaid := fnValidTown.over
end Go.Proofs.Ytaehemmjemhgpaa
