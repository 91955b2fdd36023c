/- An hour, by the model. Condition: a valid town. -/
import Derived.Test.YtaehemmjemhgpaaPAG6
import Derived.Test.YtaehemmjemhgpaaPATwC
import Derived.Test.YtaehemmjemhgpaaPAG2
import Derived.StillTailTactics
set_option maxRecDepth 100000
set_option maxHeartbeats 16000000
namespace Go.Proofs.Ytaehemmjemhgpaa
open Go.RowKit
set_option linter.unusedSimpArgs false
set_option linter.unusedVariables false
/-- spec.hourEvent -/
theorem shour (a1 a2 a3 a4 : Option Addr) (c1 c2 c3 c4 : Nat) (hs : List Hd) (ts : List Tn) (ns : List Nd) (r hd : Int) (ac : List Ac) (rt tm ls cm n : Int) (w : World) (h : IsTw w ⟨a1, c1, a2, c2, a3, c3, a4, c4⟩ ⟨hs, ts, ns, r, hd, ac, rt, tm, ls, cm⟩) (hv : twB ⟨hs, ts, ns, r, hd, ac, rt, tm, ls, cm⟩ = true) :
    Calls Try.prog 182 #[.agg #[.slice a1 hs.length c1, .slice a2 ts.length c2, .slice a3 ns.length c3, .int .i64 r, .int .i64 hd, .slice a4 ac.length c4, .int .i64 rt, .int .i64 tm, .int .i64 ls, .int .i64 cm], .int .i64 n] w fun e w' => Below w.heap.size w w' ∧ (inB3 n 0 500 = false → e = .returned (.tuple #[.agg #[.slice a1 hs.length c1, .slice a2 ts.length c2, .slice a3 ns.length c3, .int .i64 r, .int .i64 hd, .slice a4 ac.length c4, .int .i64 rt, .int .i64 tm, .int .i64 ls, .int .i64 cm], .bool false])) ∧ (inB3 n 0 500 = true → ∃ A c, e = .returned (.tuple #[.agg #[.slice a1 hs.length c1, .slice a2 ts.length c2, .slice a3 ns.length c3, .int .i64 r, .int .i64 (stepH r hd (n - lostV ns n) rt), .slice A (addA ac (whoM ts tm) (giveH hd (n - lostV ns n) rt)).length c, .int .i64 rt, .int .i64 (tm + 1), .int .i64 (ls + lostV ns n + spillH r hd (n - lostV ns n) rt), .int .i64 (cm + n)], .bool true]) ∧ OwnAc w' w.heap.size (.slice A (addA ac (whoM ts tm) (giveH hd (n - lostV ns n) rt)).length c) (addA ac (whoM ts tm) (giveH hd (n - lostV ns n) rt))) := by
  have HI := Lib.hid (fun W (hW : Below w.heap.size w W) => tw_below h hW)
  have HK := tw_ok hv
  obtain ⟨_, _, _, _, n1, n2, n3, n4, k1, k2, k3, k4⟩ := h
  dsimp only at n1 n2 n3 n4 k1 k2 k3 k4
  cases hr : inB3 n 0 500 with
  | false =>
    have CR := fun W => srange3 n 0 500 W
    rw [hr] at CR
    clear HK n1 n2 n3 n4 k1 k2 k3 k4 hr
    have KA := (Blk.new w 49 #[.slice a1 hs.length c1, .slice a2 ts.length c2, .slice a3 ns.length c3, .int .i64 r, .int .i64 hd, .slice a4 ac.length c4, .int .i64 rt, .int .i64 tm, .int .i64 ls, .int .i64 cm]).alloc (.cells #[.slice none 0 0, .slice none 0 0, .slice none 0 0, .int .i64 0, .int .i64 0, .slice none 0 0, .int .i64 0, .int .i64 0, .int .i64 0, .int .i64 0] 49)
    have KR : Blk ((w.alloc (.cells #[.slice a1 hs.length c1, .slice a2 ts.length c2, .slice a3 ns.length c3, .int .i64 r, .int .i64 hd, .slice a4 ac.length c4, .int .i64 rt, .int .i64 tm, .int .i64 ls, .int .i64 cm] 49)).alloc (.cells #[.slice none 0 0, .slice none 0 0, .slice none 0 0, .int .i64 0, .int .i64 0, .slice none 0 0, .int .i64 0, .int .i64 0, .int .i64 0, .int .i64 0] 49)) (w.heap.size + 1) 49 #[.slice none 0 0, .slice none 0 0, .slice none 0 0, .int .i64 0, .int .i64 0, .slice none 0 0, .int .i64 0, .int .i64 0, .int .i64 0, .int .i64 0] := by
      have := Blk.new (w.alloc (.cells #[.slice a1 hs.length c1, .slice a2 ts.length c2, .slice a3 ns.length c3, .int .i64 r, .int .i64 hd, .slice a4 ac.length c4, .int .i64 rt, .int .i64 tm, .int .i64 ls, .int .i64 cm] 49)) 49 #[.slice none 0 0, .slice none 0 0, .slice none 0 0, .int .i64 0, .int .i64 0, .slice none 0 0, .int .i64 0, .int .i64 0, .int .i64 0, .int .i64 0]
      rw [World.size_alloc] at this; exact this
    have B : Below w.heap.size w ((w.alloc (.cells #[.slice a1 hs.length c1, .slice a2 ts.length c2, .slice a3 ns.length c3, .int .i64 r, .int .i64 hd, .slice a4 ac.length c4, .int .i64 rt, .int .i64 tm, .int .i64 ls, .int .i64 cm] 49)).alloc (.cells #[.slice none 0 0, .slice none 0 0, .slice none 0 0, .int .i64 0, .int .i64 0, .slice none 0 0, .int .i64 0, .int .i64 0, .int .i64 0, .int .i64 0] 49)) := by go_grown
    go_enter Try.func182, Try.ntmps182
    go_wp2_with fail
    generalize (w.alloc (.cells #[.slice a1 hs.length c1, .slice a2 ts.length c2, .slice a3 ns.length c3, .int .i64 r, .int .i64 hd, .slice a4 ac.length c4, .int .i64 rt, .int .i64 tm, .int .i64 ls, .int .i64 cm] 49)).alloc (.cells #[.slice none 0 0, .slice none 0 0, .slice none 0 0, .int .i64 0, .int .i64 0, .slice none 0 0, .int .i64 0, .int .i64 0, .int .i64 0, .int .i64 0] 49) = u0 at KA KR B ⊢
    refine (CR _).mono ?_
    rintro e u1 ⟨rfl, rfl⟩
    have fr0 := KR.frozen 0
    have fr1 := KR.frozen 1
    have fr2 := KR.frozen 2
    have fr3 := KR.frozen 3
    have fr4 := KR.frozen 4
    have fr5 := KR.frozen 5
    have fr6 := KR.frozen 6
    have fr7 := KR.frozen 7
    have fr8 := KR.frozen 8
    have fr9 := KR.frozen 9
    obtain ⟨qA_0, qA_1, qA_2, qA_3, qA_4, qA_5, qA_6, qA_7, qA_8, qA_9⟩ := town_cells KA
    obtain ⟨qR_0, qR_1, qR_2, qR_3, qR_4, qR_5, qR_6, qR_7, qR_8, qR_9⟩ := town_cells KR
    have HF := Lib.hid (And.intro KA (And.intro KR B))
    clear KA KR B
    go_wp2_with fail
    clear fr0 fr1 fr2 fr3 fr4 fr5 fr6 fr7 fr8 fr9
    clear qA_0 qA_1 qA_2 qA_3 qA_4 qA_5 qA_6 qA_7 qA_8 qA_9 qR_0 qR_1 qR_2 qR_3 qR_4 qR_5 qR_6 qR_7 qR_8 qR_9
    obtain ⟨KA, KR, B⟩ := HF.out
    clear HF
    obtain ⟨uf, hy⟩ : ∃ y, y = sets10 u0 (w.heap.size + 1) (.slice a1 hs.length c1) (.slice a2 ts.length c2) (.slice a3 ns.length c3) (.int .i64 r) (.int .i64 hd) (.slice a4 ac.length c4) (.int .i64 rt) (.int .i64 tm) (.int .i64 ls) (.int .i64 cm) := ⟨_, rfl⟩
    change bodyPost _ _ _ _ _ (sets10 _ _ _ _ _ _ _ _ _ _ _ _)
    rw [← hy]
    replace B := X10B B hy (by omega)
    have KOLD := KR
    replace KR := X10b KR hy
    clear KA
    clear KOLD hy
    obtain ⟨qR_0, qR_1, qR_2, qR_3, qR_4, qR_5, qR_6, qR_7, qR_8, qR_9⟩ := town_cells KR
    refine bodyPost_ret (v := .tuple #[.agg #[.slice a1 hs.length c1, .slice a2 ts.length c2, .slice a3 ns.length c3, .int .i64 r, .int .i64 hd, .slice a4 ac.length c4, .int .i64 rt, .int .i64 tm, .int .i64 ls, .int .i64 cm], .bool false]) (by simp [results, Try.results182, go_sem, qR_0, qR_1, qR_2, qR_3, qR_4, qR_5, qR_6, qR_7, qR_8, qR_9]) rfl ⟨B, fun _ => rfl, fun c => by cases c⟩
  | true =>
    have hn := inB3_yes hr
    have CR := fun W => srange3 n 0 500 W
    rw [hr] at CR
    obtain ⟨l0, l1, hst, g0, g1, p0, p1⟩ := hour_nums HK hn
    have HAC := hour_ac HK ⟨g0, g1⟩
    have v2 := HK.v2
    obtain ⟨t0, t1⟩ := HK.v7
    obtain ⟨s0, s1⟩ := HK.v8
    obtain ⟨m0, m1⟩ := HK.v9
    dsimp only at l0 l1 hst g0 g1 p0 p1 HAC v2 t0 t1 s0 s1 m0 m1
    have CL := Lib.hid (fun W (hW : Below w.heap.size w W) => sLost a3 c3 ns n W (HI.out W hW).h3 n3)
    have v4 := HK.v4
    have v6 := HK.v6
    dsimp only at v4 v6
    have CB := fun W => sHour r hd (n - lostV ns n) rt W v4 ⟨by omega, by omega⟩ v6
    have CT := Lib.hid (fun W (hW : Below w.heap.size w W) => sturnAt a2 c2 ts tm W (HI.out W hW).h2 v2 t0 (by omega))
    have hq : (ts.getD (idxT ts (tm % sumT ts)) tn0).1 = whoM ts tm := rfl
    have hix : idxT ts (tm % sumT ts) < ts.length := by
      obtain ⟨_, _, _, s0_, s1_⟩ := vt_is v2
      exact idx_lt ts _ (Int.emod_lt_of_pos _ (by omega)) (Int.emod_nonneg _ (by omega))
    have CA := Lib.hid (fun W (hW : Below w.heap.size w W) => saddTo a4 c4 ac (whoM ts tm) (giveH hd (n - lostV ns n) rt) W (HI.out W hW).h4 n4 HAC)
    have HT := Lib.hid (fun W (hW : Below w.heap.size w W) => (HI.out W hW).h2)
    generalize idxT ts (tm % sumT ts) = ix at CT hq hix
    generalize whoM ts tm = q at hq CA ⊢
    generalize lostV ns n = L at *
    generalize stepH r hd (n - L) rt = S at *
    generalize giveH hd (n - L) rt = G at *
    generalize spillH r hd (n - L) rt = P at *
    have wz : IntKind.i64.wrap (n - L) = n - L := by rw [IntKind.wrap_i64]; omega
    have wy : IntKind.i64.wrap (ls + L) = ls + L := by rw [IntKind.wrap_i64]; omega
    have wx : IntKind.i64.wrap (ls + L + P) = ls + L + P := by rw [IntKind.wrap_i64]; omega
    have ww : IntKind.i64.wrap (cm + n) = cm + n := by rw [IntKind.wrap_i64]; omega
    have wv : IntKind.i64.wrap (tm + 1) = tm + 1 := by rw [IntKind.wrap_i64]; omega
    have ix0 : (0 : Int) ≤ (ix : Int) := by omega
    have ix1 : (ix : Int) < (ts.length : Int) := by omega
    clear HAC v2 v4 v6 HI HK hst hr hn n1 n2 n3 n4 k1 k2 k3 k4 l0 l1 g0 g1 p0 p1 t0 t1 s0 s1 m0 m1
    have KA := (Blk.new w 49 #[.slice a1 hs.length c1, .slice a2 ts.length c2, .slice a3 ns.length c3, .int .i64 r, .int .i64 hd, .slice a4 ac.length c4, .int .i64 rt, .int .i64 tm, .int .i64 ls, .int .i64 cm]).alloc (.cells #[.slice none 0 0, .slice none 0 0, .slice none 0 0, .int .i64 0, .int .i64 0, .slice none 0 0, .int .i64 0, .int .i64 0, .int .i64 0, .int .i64 0] 49)
    have KR : Blk ((w.alloc (.cells #[.slice a1 hs.length c1, .slice a2 ts.length c2, .slice a3 ns.length c3, .int .i64 r, .int .i64 hd, .slice a4 ac.length c4, .int .i64 rt, .int .i64 tm, .int .i64 ls, .int .i64 cm] 49)).alloc (.cells #[.slice none 0 0, .slice none 0 0, .slice none 0 0, .int .i64 0, .int .i64 0, .slice none 0 0, .int .i64 0, .int .i64 0, .int .i64 0, .int .i64 0] 49)) (w.heap.size + 1) 49 #[.slice none 0 0, .slice none 0 0, .slice none 0 0, .int .i64 0, .int .i64 0, .slice none 0 0, .int .i64 0, .int .i64 0, .int .i64 0, .int .i64 0] := by
      have := Blk.new (w.alloc (.cells #[.slice a1 hs.length c1, .slice a2 ts.length c2, .slice a3 ns.length c3, .int .i64 r, .int .i64 hd, .slice a4 ac.length c4, .int .i64 rt, .int .i64 tm, .int .i64 ls, .int .i64 cm] 49)) 49 #[.slice none 0 0, .slice none 0 0, .slice none 0 0, .int .i64 0, .int .i64 0, .slice none 0 0, .int .i64 0, .int .i64 0, .int .i64 0, .int .i64 0]
      rw [World.size_alloc] at this; exact this
    have B : Below w.heap.size w ((w.alloc (.cells #[.slice a1 hs.length c1, .slice a2 ts.length c2, .slice a3 ns.length c3, .int .i64 r, .int .i64 hd, .slice a4 ac.length c4, .int .i64 rt, .int .i64 tm, .int .i64 ls, .int .i64 cm] 49)).alloc (.cells #[.slice none 0 0, .slice none 0 0, .slice none 0 0, .int .i64 0, .int .i64 0, .slice none 0 0, .int .i64 0, .int .i64 0, .int .i64 0, .int .i64 0] 49)) := by go_grown
    go_enter Try.func182, Try.ntmps182
    go_wp2_with fail
    generalize (w.alloc (.cells #[.slice a1 hs.length c1, .slice a2 ts.length c2, .slice a3 ns.length c3, .int .i64 r, .int .i64 hd, .slice a4 ac.length c4, .int .i64 rt, .int .i64 tm, .int .i64 ls, .int .i64 cm] 49)).alloc (.cells #[.slice none 0 0, .slice none 0 0, .slice none 0 0, .int .i64 0, .int .i64 0, .slice none 0 0, .int .i64 0, .int .i64 0, .int .i64 0, .int .i64 0] 49) = u0 at KA KR B ⊢
    refine (CR _).mono ?_
    rintro e u1 ⟨rfl, rfl⟩
    obtain ⟨qA_0, qA_1, qA_2, qA_3, qA_4, qA_5, qA_6, qA_7, qA_8, qA_9⟩ := town_cells KA
    obtain ⟨qR_0, qR_1, qR_2, qR_3, qR_4, qR_5, qR_6, qR_7, qR_8, qR_9⟩ := town_cells KR
    go_wp2_with fail
    refine (CL.out _ B).mono ?_
    rintro e u2 ⟨rfl, C⟩
    clear qA_0 qA_1 qA_2 qA_3 qA_4 qA_5 qA_6 qA_7 qA_8 qA_9 qR_0 qR_1 qR_2 qR_3 qR_4 qR_5 qR_6 qR_7 qR_8 qR_9
    replace KA := KA.next C
    replace KR := KR.next C
    replace B := bel_tr B C
    clear C
    obtain ⟨qA_0, qA_1, qA_2, qA_3, qA_4, qA_5, qA_6, qA_7, qA_8, qA_9⟩ := town_cells KA
    obtain ⟨qR_0, qR_1, qR_2, qR_3, qR_4, qR_5, qR_6, qR_7, qR_8, qR_9⟩ := town_cells KR
    go_wp2_with fail
    refine (CB _).mono ?_
    rintro e u3 ⟨rfl, C⟩
    clear qA_0 qA_1 qA_2 qA_3 qA_4 qA_5 qA_6 qA_7 qA_8 qA_9 qR_0 qR_1 qR_2 qR_3 qR_4 qR_5 qR_6 qR_7 qR_8 qR_9
    replace KA := KA.next C
    replace KR := KR.next C
    replace B := bel_tr B C
    clear C
    have hsz : w.heap.size + 1 < u3.heap.size := KR.lt
    have HW : Hid (Blk (u3.alloc (.cells #[.int .i64 r, .int .i64 S] 46)) (w.heap.size) 49 #[.slice a1 hs.length c1, .slice a2 ts.length c2, .slice a3 ns.length c3, .int .i64 r, .int .i64 hd, .slice a4 ac.length c4, .int .i64 rt, .int .i64 tm, .int .i64 ls, .int .i64 cm] ∧ Blk (u3.alloc (.cells #[.int .i64 r, .int .i64 S] 46)) (w.heap.size + 1) 49 #[.slice none 0 0, .slice none 0 0, .slice none 0 0, .int .i64 0, .int .i64 0, .slice none 0 0, .int .i64 0, .int .i64 0, .int .i64 0, .int .i64 0] ∧ Blk (u3.alloc (.cells #[.int .i64 r, .int .i64 S] 46)) (u3.heap.size) 46 #[.int .i64 r, .int .i64 S] ∧ Below w.heap.size w (u3.alloc (.cells #[.int .i64 r, .int .i64 S] 46))) := ⟨KA.alloc (.cells #[.int .i64 r, .int .i64 S] 46), KR.alloc (.cells #[.int .i64 r, .int .i64 S] 46), Blk.new u3 46 #[.int .i64 r, .int .i64 S], B.alloc B.size (.cells #[.int .i64 r, .int .i64 S] 46)⟩
    obtain ⟨qA_0, qA_1, qA_2, qA_3, qA_4, qA_5, qA_6, qA_7, qA_8, qA_9⟩ := town_cells KA
    clear KA KR B
    go_wp2_with fail
    generalize u3.alloc (.cells #[.int .i64 r, .int .i64 S] 46) = u4 at HW ⊢
    generalize u3.heap.size = gs at hsz HW ⊢
    obtain ⟨KA, KR, KS, B⟩ := HW.out
    clear HW qA_0 qA_1 qA_2 qA_3 qA_4 qA_5 qA_6 qA_7 qA_8 qA_9
    replace KA := KA.drew
    replace KR := KR.drew
    replace KS := KS.drew
    replace B := B.drew
    rcases HT.out _ B with h0 | ⟨gt, ot, rfl, hct⟩
    · rw [h0] at ix1; exact absurd ix1 (by simp)
    have hc0 := (hct ix hix).1
    rw [hq] at hc0
    clear hct
    obtain ⟨qA_0, qA_1, qA_2, qA_3, qA_4, qA_5, qA_6, qA_7, qA_8, qA_9⟩ := town_cells KA
    refine wp_region_still_tail 13 (by kernel_rfl) (by kernel_rfl) ?_
    simp only [List.take_succ_cons, List.take_zero, List.drop_succ_cons, List.drop_zero]
    iterate 8 still_step
    still_call ((CT.out _ B).mono (fun _ _ h => ⟨h.1, h.2.symm⟩))
    iterate 4 still_step
    refine wpStill_nil ?_
    change wpList _ _ _ _ _ u4.drew
    generalize u4.drew = u5 at KA KR KS B hc0 qA_0 qA_1 qA_2 qA_3 qA_4 qA_5 qA_6 qA_7 qA_8 qA_9 ⊢
    go_wp2_with fail
    refine (CA.out _ B).mono ?_
    rintro e u6 ⟨v, rfl, O4, C⟩
    obtain ⟨bO4, kO4, hv_, hkO4⟩ := own_form O4
    subst hv_
    unfold OwnAc at O4
    have O4 := rowBase O4 B.size
    clear hc0 qA_0 qA_1 qA_2 qA_3 qA_4 qA_5 qA_6 qA_7 qA_8 qA_9
    replace KA := KA.next C
    replace KR := KR.next C
    replace KS := KS.next C
    replace B := bel_tr B C
    clear C
    have fz0 := KA.frozen 5
    obtain ⟨qA_0, qA_1, qA_2, qA_3, qA_4, qA_5, qA_6, qA_7, qA_8, qA_9⟩ := town_cells KA
    obtain ⟨qR_0, qR_1, qR_2, qR_3, qR_4, qR_5, qR_6, qR_7, qR_8, qR_9⟩ := town_cells KR
    obtain ⟨qS_0, qS_1⟩ := blk_c2 KS
    obtain ⟨y0s, hy⟩ : ∃ y, y = World.setCell u6 ⟨w.heap.size, 5, none⟩ (.slice bO4 (addA ac q G).length kO4) := ⟨_, rfl⟩
    replace O4 := rS O4 KA hy (by decide)
    replace KR := fS KR hy (by omega)
    replace KS := fS KS hy (by omega)
    replace KA := S10_5 KA hy
    replace B := bS B hy (by omega)
    have HY := Lib.hid hy
    clear hy
    have HS0 := Lib.hid (And.intro KA (And.intro KR (And.intro KS (And.intro O4 B))))
    clear KA KR KS O4 B
    go_wp2_with (first | (show wpList _ _ _ _ _ (World.setCell u6 _ _); rw [← HY.out]; clear HY fz0; clear qA_0 qA_1 qA_2 qA_3 qA_4 qA_5 qA_6 qA_7 qA_8 qA_9 qR_0 qR_1 qR_2 qR_3 qR_4 qR_5 qR_6 qR_7 qR_8 qR_9 qS_0 qS_1; obtain ⟨KA, KR, KS, O4, B⟩ := HS0.out; clear HS0; have fz0 := KA.frozen 3; have fz1 := KA.frozen 4; obtain ⟨qA_0, qA_1, qA_2, qA_3, qA_4, qA_5, qA_6, qA_7, qA_8, qA_9⟩ := town_cells KA; obtain ⟨qR_0, qR_1, qR_2, qR_3, qR_4, qR_5, qR_6, qR_7, qR_8, qR_9⟩ := town_cells KR; obtain ⟨qS_0, qS_1⟩ := blk_c2 KS; obtain ⟨y1s, hy⟩ : ∃ y, y = World.setCell (World.setCell y0s ⟨w.heap.size, 3, none⟩ (.int .i64 r)) ⟨w.heap.size, 4, none⟩ (.int .i64 S) := ⟨_, rfl⟩; replace O4 := rS2 O4 KA hy (by decide); replace KR := fS2 KR hy (by omega); replace KS := fS2 KS hy (by omega); replace KA := S10_3x2 KA hy; replace B := bS2 B hy (by omega); have HY := Lib.hid hy; clear hy; have HS1 := Lib.hid (And.intro KA (And.intro KR (And.intro KS (And.intro O4 B)))); clear KA KR KS O4 B) | (show wpList _ _ _ _ _ (World.setCell (World.setCell y0s _ _) _ _); rw [← HY.out]; clear HY fz0 fz1; clear qA_0 qA_1 qA_2 qA_3 qA_4 qA_5 qA_6 qA_7 qA_8 qA_9 qR_0 qR_1 qR_2 qR_3 qR_4 qR_5 qR_6 qR_7 qR_8 qR_9 qS_0 qS_1; obtain ⟨KA, KR, KS, O4, B⟩ := HS1.out; clear HS1; have fz0 := KA.frozen 8; obtain ⟨qA_0, qA_1, qA_2, qA_3, qA_4, qA_5, qA_6, qA_7, qA_8, qA_9⟩ := town_cells KA; obtain ⟨qR_0, qR_1, qR_2, qR_3, qR_4, qR_5, qR_6, qR_7, qR_8, qR_9⟩ := town_cells KR; obtain ⟨qS_0, qS_1⟩ := blk_c2 KS; obtain ⟨y2s, hy⟩ : ∃ y, y = World.setCell y1s ⟨w.heap.size, 8, none⟩ (.int .i64 (ls + L + P)) := ⟨_, rfl⟩; replace O4 := rS O4 KA hy (by decide); replace KR := fS KR hy (by omega); replace KS := fS KS hy (by omega); replace KA := S10_8 KA hy; replace B := bS B hy (by omega); have HY := Lib.hid hy; clear hy; have HS2 := Lib.hid (And.intro KA (And.intro KR (And.intro KS (And.intro O4 B)))); clear KA KR KS O4 B) | (show wpList _ _ _ _ _ (World.setCell y1s _ _); rw [← HY.out]; clear HY fz0; clear qA_0 qA_1 qA_2 qA_3 qA_4 qA_5 qA_6 qA_7 qA_8 qA_9 qR_0 qR_1 qR_2 qR_3 qR_4 qR_5 qR_6 qR_7 qR_8 qR_9 qS_0 qS_1; obtain ⟨KA, KR, KS, O4, B⟩ := HS2.out; clear HS2; have fz0 := KA.frozen 9; obtain ⟨qA_0, qA_1, qA_2, qA_3, qA_4, qA_5, qA_6, qA_7, qA_8, qA_9⟩ := town_cells KA; obtain ⟨qR_0, qR_1, qR_2, qR_3, qR_4, qR_5, qR_6, qR_7, qR_8, qR_9⟩ := town_cells KR; obtain ⟨qS_0, qS_1⟩ := blk_c2 KS; obtain ⟨y3s, hy⟩ : ∃ y, y = World.setCell y2s ⟨w.heap.size, 9, none⟩ (.int .i64 (cm + n)) := ⟨_, rfl⟩; replace O4 := rS O4 KA hy (by decide); replace KR := fS KR hy (by omega); replace KS := fS KS hy (by omega); replace KA := S10_9 KA hy; replace B := bS B hy (by omega); have HY := Lib.hid hy; clear hy; have HS3 := Lib.hid (And.intro KA (And.intro KR (And.intro KS (And.intro O4 B)))); clear KA KR KS O4 B) | (show wpList _ _ _ _ _ (World.setCell y2s _ _); rw [← HY.out]; clear HY fz0; clear qA_0 qA_1 qA_2 qA_3 qA_4 qA_5 qA_6 qA_7 qA_8 qA_9 qR_0 qR_1 qR_2 qR_3 qR_4 qR_5 qR_6 qR_7 qR_8 qR_9 qS_0 qS_1; obtain ⟨KA, KR, KS, O4, B⟩ := HS3.out; clear HS3; have fz0 := KA.frozen 7; obtain ⟨qA_0, qA_1, qA_2, qA_3, qA_4, qA_5, qA_6, qA_7, qA_8, qA_9⟩ := town_cells KA; obtain ⟨qR_0, qR_1, qR_2, qR_3, qR_4, qR_5, qR_6, qR_7, qR_8, qR_9⟩ := town_cells KR; obtain ⟨qS_0, qS_1⟩ := blk_c2 KS; obtain ⟨y4s, hy⟩ : ∃ y, y = World.setCell y3s ⟨w.heap.size, 7, none⟩ (.int .i64 (tm + 1)) := ⟨_, rfl⟩; replace O4 := rS O4 KA hy (by decide); replace KR := fS KR hy (by omega); replace KS := fS KS hy (by omega); replace KA := S10_7 KA hy; replace B := bS B hy (by omega); have HY := Lib.hid hy; clear hy; have HS4 := Lib.hid (And.intro KA (And.intro KR (And.intro KS (And.intro O4 B)))); clear KA KR KS O4 B) | (show wpList _ _ _ _ _ (World.setCell y3s _ _); rw [← HY.out]; clear HY fz0; clear qA_0 qA_1 qA_2 qA_3 qA_4 qA_5 qA_6 qA_7 qA_8 qA_9 qR_0 qR_1 qR_2 qR_3 qR_4 qR_5 qR_6 qR_7 qR_8 qR_9 qS_0 qS_1; obtain ⟨KA, KR, KS, O4, B⟩ := HS4.out; clear HS4; have fr0 := KR.frozen 0; have fr1 := KR.frozen 1; have fr2 := KR.frozen 2; have fr3 := KR.frozen 3; have fr4 := KR.frozen 4; have fr5 := KR.frozen 5; have fr6 := KR.frozen 6; have fr7 := KR.frozen 7; have fr8 := KR.frozen 8; have fr9 := KR.frozen 9; obtain ⟨qA_0, qA_1, qA_2, qA_3, qA_4, qA_5, qA_6, qA_7, qA_8, qA_9⟩ := town_cells KA; obtain ⟨qR_0, qR_1, qR_2, qR_3, qR_4, qR_5, qR_6, qR_7, qR_8, qR_9⟩ := town_cells KR; obtain ⟨qS_0, qS_1⟩ := blk_c2 KS; have HF := Lib.hid (And.intro KA (And.intro KR (And.intro KS (And.intro O4 B)))); clear KA KR KS O4 B))
    clear fr0 fr1 fr2 fr3 fr4 fr5 fr6 fr7 fr8 fr9
    clear qA_0 qA_1 qA_2 qA_3 qA_4 qA_5 qA_6 qA_7 qA_8 qA_9 qR_0 qR_1 qR_2 qR_3 qR_4 qR_5 qR_6 qR_7 qR_8 qR_9 qS_0 qS_1
    obtain ⟨KA, KR, KS, O4, B⟩ := HF.out
    clear HF
    obtain ⟨uf, hy⟩ : ∃ y, y = sets10 y4s (w.heap.size + 1) (.slice a1 hs.length c1) (.slice (some ⟨gt, ot, none⟩) ts.length c2) (.slice a3 ns.length c3) (.int .i64 r) (.int .i64 S) (.slice bO4 (addA ac q G).length kO4) (.int .i64 rt) (.int .i64 (tm + 1)) (.int .i64 (ls + L + P)) (.int .i64 (cm + n)) := ⟨_, rfl⟩
    change bodyPost _ _ _ _ _ (sets10 _ _ _ _ _ _ _ _ _ _ _ _)
    rw [← hy]
    replace O4 := X10r O4 KR hy (by decide)
    replace B := X10B B hy (by omega)
    have KOLD := KR
    replace KR := X10b KR hy
    clear KA
    clear KS
    clear KOLD hy
    obtain ⟨qR_0, qR_1, qR_2, qR_3, qR_4, qR_5, qR_6, qR_7, qR_8, qR_9⟩ := town_cells KR
    refine bodyPost_ret (v := .tuple #[.agg #[.slice a1 hs.length c1, .slice (some ⟨gt, ot, none⟩) ts.length c2, .slice a3 ns.length c3, .int .i64 r, .int .i64 S, .slice bO4 (addA ac q G).length kO4, .int .i64 rt, .int .i64 (tm + 1), .int .i64 (ls + L + P), .int .i64 (cm + n)], .bool true]) (by simp [results, Try.results182, go_sem, qR_0, qR_1, qR_2, qR_3, qR_4, qR_5, qR_6, qR_7, qR_8, qR_9]) rfl ⟨B, (fun c => by cases c), fun _ => ⟨bO4, kO4, rfl, O4⟩⟩
end Go.Proofs.Ytaehemmjemhgpaa
