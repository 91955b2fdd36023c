/- A town after an event, by the model. Condition: lists that can be read. -/
import Derived.Test.YtaehemmjemhgpaaPASaA
set_option maxRecDepth 100000
set_option maxHeartbeats 16000000
namespace Go.Proofs.Ytaehemmjemhgpaa
open Go.RowKit
set_option linter.unusedSimpArgs false
set_option linter.unusedVariables false
/-- spec.applyEvent: turns exchanged -/
theorem ssa2 (a1 a2 a3 a4 : Option Addr) (c1 c2 c3 c4 : Nat) (hs : List Hd) (ts : List Tn) (ns : List Nd) (r hd : Int) (ac : List Ac) (rt tm ls cm : Int) (k dk o tt n d : Int) (A : Option Addr) (zs : List Int) (cz : Nat) (at_ nu : Int) (w : World) (h : IsTw w ⟨a1, c1, a2, c2, a3, c3, a4, c4⟩ ⟨hs, ts, ns, r, hd, ac, rt, tm, ls, cm⟩) (hv : twB ⟨hs, ts, ns, r, hd, ac, rt, tm, ls, cm⟩ = true) (hk : k = 2) :
    Calls Try.prog 171 #[.agg #[.slice a1 hs.length c1, .slice a2 ts.length c2, .slice a3 ns.length c3, .int .i64 r, .int .i64 hd, .slice a4 ac.length c4, .int .i64 rt, .int .i64 tm, .int .i64 ls, .int .i64 cm], .agg #[.int .i64 k, .int .i64 dk, .int .i64 o, .int .i64 tt, .int .i64 n, .int .i64 d, .slice A zs.length cz, .int .i64 at_, .int .i64 nu]] w fun e w' => Below w.heap.size w w' ∧ (swB ts at_ nu = false → e = .returned (.tuple #[.agg #[.slice none 0 0, .slice none 0 0, .slice none 0 0, .int .i64 0, .int .i64 0, .slice none 0 0, .int .i64 0, .int .i64 0, .int .i64 0, .int .i64 0], .bool false])) ∧ (swB ts at_ nu = true → twB ⟨hs, swL ts at_ nu, ns, r, hd, ac, rt, tm, ls, cm⟩ = false → e = .returned (.tuple #[.agg #[.slice none 0 0, .slice none 0 0, .slice none 0 0, .int .i64 0, .int .i64 0, .slice none 0 0, .int .i64 0, .int .i64 0, .int .i64 0, .int .i64 0], .bool false])) ∧ (swB ts at_ nu = true → twB ⟨hs, swL ts at_ nu, ns, r, hd, ac, rt, tm, ls, cm⟩ = true → ∃ q, e = .returned (.tuple #[twV q ⟨hs, swL ts at_ nu, ns, r, hd, ac, rt, tm, ls, cm⟩, .bool true]) ∧ TwO w' w.heap.size q ⟨hs, swL ts at_ nu, ns, r, hd, ac, rt, tm, ls, cm⟩) := by
  have HI := Lib.hid (fun W (hW : Below w.heap.size w W) => tw_below h hW)
  obtain ⟨_, _, _, _, n1, n2, n3, n4, k1, k2, k3, k4⟩ := h
  dsimp only at n1 n2 n3 n4 k1 k2 k3 k4
  have hll : (swL ts at_ nu).length ≤ 1048576 := (by unfold swL; rw [List.length_set, List.length_set]; exact n2)
  have hlp : 0 < (swL ts at_ nu).length := (by unfold swL; rw [List.length_set, List.length_set]; exact (vt_is (tw_ok hv).v2).1)
  have HN := Lib.hid (show hs.length ≤ 1048576 ∧ ts.length ≤ 1048576 ∧ ns.length ≤ 1048576 ∧ ac.length ≤ 1048576 from ⟨n1, n2, n3, n4⟩)
  have HL := Lib.hid hll
  clear hll
  have HLP := Lib.hid hlp
  clear hlp
  subst hk
  go_enter Try.func171, Try.ntmps171
  have HP := Lib.hid (fun W (hW : Below w.heap.size w W) => sSwap a2 c2 ts at_ nu W (HI.out W hW).h2 n2 k2)
  have HV := Lib.hid (fun W q (hW : IsTw W q ⟨hs, swL ts at_ nu, ns, r, hd, ac, rt, tm, ls, cm⟩) => svtw q ⟨hs, swL ts at_ nu, ns, r, hd, ac, rt, tm, ls, cm⟩ W hW)
  clear hv n1 n2 n3 n4 k1 k2 k3 k4
  obtain ⟨u0, hy, KA, KE, KR, B⟩ := three w 49 63 49 #[.slice a1 hs.length c1, .slice a2 ts.length c2, .slice a3 ns.length c3, .int .i64 r, .int .i64 hd, .slice a4 ac.length c4, .int .i64 rt, .int .i64 tm, .int .i64 ls, .int .i64 cm] #[.int .i64 2, .int .i64 dk, .int .i64 o, .int .i64 tt, .int .i64 n, .int .i64 d, .slice A zs.length cz, .int .i64 at_, .int .i64 nu] #[.slice none 0 0, .slice none 0 0, .slice none 0 0, .int .i64 0, .int .i64 0, .slice none 0 0, .int .i64 0, .int .i64 0, .int .i64 0, .int .i64 0]
  have HY := Lib.hid hy
  clear hy
  have HS0 := Lib.hid (And.intro KA (And.intro KE (And.intro KR B)))
  clear KA KE KR B
  go_wp2_with (first | (show wpList _ _ _ _ _ _; rw [← HY.out]; clear HY; obtain ⟨KA, KE, KR, B⟩ := HS0.out; clear HS0; obtain ⟨qA_0, qA_1, qA_2, qA_3, qA_4, qA_5, qA_6, qA_7, qA_8, qA_9⟩ := town_cells KA; obtain ⟨qE_0, qE_1, qE_2, qE_3, qE_4, qE_5, qE_6, qE_7, qE_8⟩ := cells9 KE; obtain ⟨qR_0, qR_1, qR_2, qR_3, qR_4, qR_5, qR_6, qR_7, qR_8, qR_9⟩ := town_cells KR))
  refine (scopyTw ⟨a1, c1, a2, c2, a3, c3, a4, c4⟩ ⟨hs, ts, ns, r, hd, ac, rt, tm, ls, cm⟩ _ (HI.out _ B)).mono ?_
  rintro e u1 ⟨⟨bO1, kO1, bO2, kO2, bO3, kO3, bO4, kO4⟩, he, G, C⟩
  change e = .returned (.agg #[.slice bO1 hs.length kO1, .slice bO2 ts.length kO2, .slice bO3 ns.length kO3, .int .i64 r, .int .i64 hd, .slice bO4 ac.length kO4, .int .i64 rt, .int .i64 tm, .int .i64 ls, .int .i64 cm]) at he
  subst he
  clear qA_0 qA_1 qA_2 qA_3 qA_4 qA_5 qA_6 qA_7 qA_8 qA_9 qE_0 qE_1 qE_2 qE_3 qE_4 qE_5 qE_6 qE_7 qE_8 qR_0 qR_1 qR_2 qR_3 qR_4 qR_5 qR_6 qR_7 qR_8 qR_9
  have hB0 := B.size
  replace KA := KA.next C
  replace KE := KE.next C
  replace KR := KR.next C
  replace B := bel_tr B C
  clear C
  have O1 := rowBase G.g1 hB0
  have O2 := rowBase G.g2 hB0
  have O3 := rowBase G.g3 hB0
  have O4 := rowBase G.g4 hB0
  dsimp only at O1 O2 O3 O4
  clear G hB0
  have hsz : w.heap.size + 1 + 1 < u1.heap.size := KR.lt
  have CA := (Below.refl _ u1).alloc (Nat.le_refl _) (.cells #[.slice bO1 hs.length kO1, .slice bO2 ts.length kO2, .slice bO3 ns.length kO3, .int .i64 r, .int .i64 hd, .slice bO4 ac.length kO4, .int .i64 rt, .int .i64 tm, .int .i64 ls, .int .i64 cm] 49)
  replace KA := KA.alloc (.cells #[.slice bO1 hs.length kO1, .slice bO2 ts.length kO2, .slice bO3 ns.length kO3, .int .i64 r, .int .i64 hd, .slice bO4 ac.length kO4, .int .i64 rt, .int .i64 tm, .int .i64 ls, .int .i64 cm] 49)
  replace KE := KE.alloc (.cells #[.slice bO1 hs.length kO1, .slice bO2 ts.length kO2, .slice bO3 ns.length kO3, .int .i64 r, .int .i64 hd, .slice bO4 ac.length kO4, .int .i64 rt, .int .i64 tm, .int .i64 ls, .int .i64 cm] 49)
  replace KR := KR.alloc (.cells #[.slice bO1 hs.length kO1, .slice bO2 ts.length kO2, .slice bO3 ns.length kO3, .int .i64 r, .int .i64 hd, .slice bO4 ac.length kO4, .int .i64 rt, .int .i64 tm, .int .i64 ls, .int .i64 cm] 49)
  replace O1 := rowN O1 CA
  replace O2 := rowN O2 CA
  replace O3 := rowN O3 CA
  replace O4 := rowN O4 CA
  have KO := Blk.new u1 49 #[.slice bO1 hs.length kO1, .slice bO2 ts.length kO2, .slice bO3 ns.length kO3, .int .i64 r, .int .i64 hd, .slice bO4 ac.length kO4, .int .i64 rt, .int .i64 tm, .int .i64 ls, .int .i64 cm]
  replace B := B.alloc B.size (.cells #[.slice bO1 hs.length kO1, .slice bO2 ts.length kO2, .slice bO3 ns.length kO3, .int .i64 r, .int .i64 hd, .slice bO4 ac.length kO4, .int .i64 rt, .int .i64 tm, .int .i64 ls, .int .i64 cm] 49)
  clear CA
  clear HI
  obtain ⟨u2, hy⟩ : ∃ y, y = u1.alloc (.cells #[.slice bO1 hs.length kO1, .slice bO2 ts.length kO2, .slice bO3 ns.length kO3, .int .i64 r, .int .i64 hd, .slice bO4 ac.length kO4, .int .i64 rt, .int .i64 tm, .int .i64 ls, .int .i64 cm] 49) := ⟨_, rfl⟩
  rw [← hy] at KA KE KR KO O1 O2 O3 O4 B
  have HY := Lib.hid hy
  clear hy
  have HS1 := Lib.hid (And.intro KA (And.intro KE (And.intro KR (And.intro KO (And.intro O1 (And.intro O2 (And.intro O3 (And.intro O4 B))))))))
  clear KA KE KR KO O1 O2 O3 O4 B
  go_wp2_with (first | (show wpList _ _ _ _ _ _; rw [← HY.out]; clear HY; obtain ⟨KA, KE, KR, KO, O1, O2, O3, O4, B⟩ := HS1.out; clear HS1; obtain ⟨qA_0, qA_1, qA_2, qA_3, qA_4, qA_5, qA_6, qA_7, qA_8, qA_9⟩ := town_cells KA; obtain ⟨qE_0, qE_1, qE_2, qE_3, qE_4, qE_5, qE_6, qE_7, qE_8⟩ := cells9 KE; obtain ⟨qR_0, qR_1, qR_2, qR_3, qR_4, qR_5, qR_6, qR_7, qR_8, qR_9⟩ := town_cells KR; obtain ⟨qO_0, qO_1, qO_2, qO_3, qO_4, qO_5, qO_6, qO_7, qO_8, qO_9⟩ := town_cells KO))
  have HQ := HP.out _ B
  clear HP
  cases hb : swB ts at_ nu with
  | false =>
    rw [hb] at HQ
    refine HQ.mono ?_
    rintro e u3 ⟨m1, m2, C⟩
    obtain rfl := m1 rfl
    clear m1 m2 HQ HV HLP
    clear qA_0 qA_1 qA_2 qA_3 qA_4 qA_5 qA_6 qA_7 qA_8 qA_9 qE_0 qE_1 qE_2 qE_3 qE_4 qE_5 qE_6 qE_7 qE_8 qR_0 qR_1 qR_2 qR_3 qR_4 qR_5 qR_6 qR_7 qR_8 qR_9 qO_0 qO_1 qO_2 qO_3 qO_4 qO_5 qO_6 qO_7 qO_8 qO_9
    replace KA := KA.next C
    replace KE := KE.next C
    replace KR := KR.next C
    replace KO := KO.next C
    replace O1 := rowN O1 C
    replace O2 := rowN O2 C
    replace O3 := rowN O3 C
    replace O4 := rowN O4 C
    replace B := bel_tr B C
    clear C
    clear O2
    have fz0 := KO.frozen 1
    obtain ⟨qA_0, qA_1, qA_2, qA_3, qA_4, qA_5, qA_6, qA_7, qA_8, qA_9⟩ := town_cells KA
    obtain ⟨qE_0, qE_1, qE_2, qE_3, qE_4, qE_5, qE_6, qE_7, qE_8⟩ := cells9 KE
    obtain ⟨qR_0, qR_1, qR_2, qR_3, qR_4, qR_5, qR_6, qR_7, qR_8, qR_9⟩ := town_cells KR
    obtain ⟨qO_0, qO_1, qO_2, qO_3, qO_4, qO_5, qO_6, qO_7, qO_8, qO_9⟩ := town_cells KO
    obtain ⟨y2s, hy⟩ : ∃ y, y = World.setCell u3 ⟨u1.heap.size, 1, none⟩ (.slice none 0 0) := ⟨_, rfl⟩
    replace O1 := rS O1 KO hy (by decide)
    replace O3 := rS O3 KO hy (by decide)
    replace O4 := rS O4 KO hy (by decide)
    replace KA := fS KA hy (by omega)
    replace KE := fS KE hy (by omega)
    replace KR := fS KR hy (by omega)
    replace KO := S10_1 KO hy
    replace B := bS B hy (by omega)
    have HY := Lib.hid hy
    clear hy
    have HS2 := Lib.hid (And.intro KA (And.intro KE (And.intro KR (And.intro KO (And.intro O1 (And.intro O3 (And.intro O4 B)))))))
    clear KA KE KR KO O1 O3 O4 B
    go_wp2_with (first | (show wpList _ _ _ _ _ (World.setCell u3 _ _); rw [← HY.out]; clear HY fz0; clear qA_0 qA_1 qA_2 qA_3 qA_4 qA_5 qA_6 qA_7 qA_8 qA_9 qE_0 qE_1 qE_2 qE_3 qE_4 qE_5 qE_6 qE_7 qE_8 qR_0 qR_1 qR_2 qR_3 qR_4 qR_5 qR_6 qR_7 qR_8 qR_9 qO_0 qO_1 qO_2 qO_3 qO_4 qO_5 qO_6 qO_7 qO_8 qO_9; obtain ⟨KA, KE, KR, KO, O1, O3, O4, B⟩ := HS2.out; clear HS2; have fr0 := KR.frozen 0; have fr1 := KR.frozen 1; have fr2 := KR.frozen 2; have fr3 := KR.frozen 3; have fr4 := KR.frozen 4; have fr5 := KR.frozen 5; have fr6 := KR.frozen 6; have fr7 := KR.frozen 7; have fr8 := KR.frozen 8; have fr9 := KR.frozen 9; obtain ⟨qA_0, qA_1, qA_2, qA_3, qA_4, qA_5, qA_6, qA_7, qA_8, qA_9⟩ := town_cells KA; obtain ⟨qE_0, qE_1, qE_2, qE_3, qE_4, qE_5, qE_6, qE_7, qE_8⟩ := cells9 KE; obtain ⟨qR_0, qR_1, qR_2, qR_3, qR_4, qR_5, qR_6, qR_7, qR_8, qR_9⟩ := town_cells KR; obtain ⟨qO_0, qO_1, qO_2, qO_3, qO_4, qO_5, qO_6, qO_7, qO_8, qO_9⟩ := town_cells KO; have HF := Lib.hid (And.intro KA (And.intro KE (And.intro KR (And.intro KO (And.intro O1 (And.intro O3 (And.intro O4 B))))))); clear KA KE KR KO O1 O3 O4 B))
    clear fr0 fr1 fr2 fr3 fr4 fr5 fr6 fr7 fr8 fr9
    clear qA_0 qA_1 qA_2 qA_3 qA_4 qA_5 qA_6 qA_7 qA_8 qA_9 qE_0 qE_1 qE_2 qE_3 qE_4 qE_5 qE_6 qE_7 qE_8 qR_0 qR_1 qR_2 qR_3 qR_4 qR_5 qR_6 qR_7 qR_8 qR_9 qO_0 qO_1 qO_2 qO_3 qO_4 qO_5 qO_6 qO_7 qO_8 qO_9
    obtain ⟨KA, KE, KR, KO, O1, O3, O4, B⟩ := HF.out
    clear HF
    obtain ⟨uf, hy⟩ : ∃ y, y = sets10 y2s (w.heap.size + 1 + 1) (.slice none 0 0) (.slice none 0 0) (.slice none 0 0) (.int .i64 0) (.int .i64 0) (.slice none 0 0) (.int .i64 0) (.int .i64 0) (.int .i64 0) (.int .i64 0) := ⟨_, rfl⟩
    change bodyPost _ _ _ _ _ (sets10 _ _ _ _ _ _ _ _ _ _ _ _)
    rw [← hy]
    replace O1 := X10r O1 KR hy (by decide)
    replace O3 := X10r O3 KR hy (by decide)
    replace O4 := X10r O4 KR hy (by decide)
    replace B := X10B B hy (by omega)
    have KOLD := KR
    replace KR := X10b KR hy
    clear KA
    clear KE
    clear KO
    clear KOLD hy
    obtain ⟨qR_0, qR_1, qR_2, qR_3, qR_4, qR_5, qR_6, qR_7, qR_8, qR_9⟩ := town_cells KR
    refine bodyPost_ret (v := .tuple #[.agg #[.slice none 0 0, .slice none 0 0, .slice none 0 0, .int .i64 0, .int .i64 0, .slice none 0 0, .int .i64 0, .int .i64 0, .int .i64 0, .int .i64 0], .bool false]) (by simp [results, Try.results171, go_sem, qR_0, qR_1, qR_2, qR_3, qR_4, qR_5, qR_6, qR_7, qR_8, qR_9]) rfl ⟨B, (fun _ => rfl), (fun c => Bool.noConfusion (hb.symm.trans c)), (fun c => Bool.noConfusion (hb.symm.trans c))⟩
  | true =>
    rw [hb] at HQ
    refine HQ.mono ?_
    rintro e u3 ⟨m1, m2, C⟩
    obtain ⟨g, cap, rfl, lg, F1, hcap⟩ := m2 rfl
    have wg : w.heap.size ≤ g := Nat.le_trans B.size lg
    clear m1 m2 HQ
    clear qA_0 qA_1 qA_2 qA_3 qA_4 qA_5 qA_6 qA_7 qA_8 qA_9 qE_0 qE_1 qE_2 qE_3 qE_4 qE_5 qE_6 qE_7 qE_8 qR_0 qR_1 qR_2 qR_3 qR_4 qR_5 qR_6 qR_7 qR_8 qR_9 qO_0 qO_1 qO_2 qO_3 qO_4 qO_5 qO_6 qO_7 qO_8 qO_9
    replace KA := KA.next C
    replace KE := KE.next C
    replace KR := KR.next C
    replace KO := KO.next C
    replace O1 := rowN O1 C
    replace O2 := rowN O2 C
    replace O3 := rowN O3 C
    replace O4 := rowN O4 C
    replace B := bel_tr B C
    clear C lg
    have eok := HLP.out
    clear HLP
    clear O2
    have fz0 := KO.frozen 1
    obtain ⟨qA_0, qA_1, qA_2, qA_3, qA_4, qA_5, qA_6, qA_7, qA_8, qA_9⟩ := town_cells KA
    obtain ⟨qE_0, qE_1, qE_2, qE_3, qE_4, qE_5, qE_6, qE_7, qE_8⟩ := cells9 KE
    obtain ⟨qR_0, qR_1, qR_2, qR_3, qR_4, qR_5, qR_6, qR_7, qR_8, qR_9⟩ := town_cells KR
    obtain ⟨qO_0, qO_1, qO_2, qO_3, qO_4, qO_5, qO_6, qO_7, qO_8, qO_9⟩ := town_cells KO
    obtain ⟨y2s, hy⟩ : ∃ y, y = World.setCell u3 ⟨u1.heap.size, 1, none⟩ (.slice (some ⟨g, 0, none⟩) (swL ts at_ nu).length cap) := ⟨_, rfl⟩
    replace O1 := rS O1 KO hy (by decide)
    replace O3 := rS O3 KO hy (by decide)
    replace O4 := rS O4 KO hy (by decide)
    replace F1 := lS F1 KO hy (by decide)
    replace KA := fS KA hy (by omega)
    replace KE := fS KE hy (by omega)
    replace KR := fS KR hy (by omega)
    replace KO := S10_1 KO hy
    replace B := bS B hy (by omega)
    have HY := Lib.hid hy
    clear hy
    have HS2 := Lib.hid (And.intro KA (And.intro KE (And.intro KR (And.intro KO (And.intro O1 (And.intro O3 (And.intro O4 (And.intro F1 B))))))))
    clear KA KE KR KO O1 O3 O4 F1 B
    go_wp2_with (first | (show wpList _ _ _ _ _ (World.setCell u3 _ _); rw [← HY.out]; clear HY fz0; clear qA_0 qA_1 qA_2 qA_3 qA_4 qA_5 qA_6 qA_7 qA_8 qA_9 qE_0 qE_1 qE_2 qE_3 qE_4 qE_5 qE_6 qE_7 qE_8 qR_0 qR_1 qR_2 qR_3 qR_4 qR_5 qR_6 qR_7 qR_8 qR_9 qO_0 qO_1 qO_2 qO_3 qO_4 qO_5 qO_6 qO_7 qO_8 qO_9; obtain ⟨KA, KE, KR, KO, O1, O3, O4, F1, B⟩ := HS2.out; clear HS2; obtain ⟨qA_0, qA_1, qA_2, qA_3, qA_4, qA_5, qA_6, qA_7, qA_8, qA_9⟩ := town_cells KA; obtain ⟨qE_0, qE_1, qE_2, qE_3, qE_4, qE_5, qE_6, qE_7, qE_8⟩ := cells9 KE; obtain ⟨qR_0, qR_1, qR_2, qR_3, qR_4, qR_5, qR_6, qR_7, qR_8, qR_9⟩ := town_cells KR; obtain ⟨qO_0, qO_1, qO_2, qO_3, qO_4, qO_5, qO_6, qO_7, qO_8, qO_9⟩ := town_cells KO))
    clear qA_0 qA_1 qA_2 qA_3 qA_4 qA_5 qA_6 qA_7 qA_8 qA_9 qE_0 qE_1 qE_2 qE_3 qE_4 qE_5 qE_6 qE_7 qE_8 qR_0 qR_1 qR_2 qR_3 qR_4 qR_5 qR_6 qR_7 qR_8 qR_9 qO_0 qO_1 qO_2 qO_3 qO_4 qO_5 qO_6 qO_7 qO_8 qO_9
    have HT : TwO y2s w.heap.size ⟨bO1, kO1, some ⟨g, 0, none⟩, cap, bO3, kO3, bO4, kO4⟩ ⟨hs, swL ts at_ nu, ns, r, hd, ac, rt, tm, ls, cm⟩ := ⟨own_rowF (zs := flatH hs) O1, HN.out.1, .inr ⟨g, cap, rfl, wg, F1, hcap⟩, HL.out, own_rowF (zs := flatNd ns) O3, HN.out.2.2.1, own_rowF (zs := flatAc ac) O4, HN.out.2.2.2⟩
    have HW := HV.out _ _ HT.is
    clear HV HT eok
    obtain ⟨vb, hvb⟩ : ∃ vb, twB ⟨hs, swL ts at_ nu, ns, r, hd, ac, rt, tm, ls, cm⟩ = vb := ⟨_, rfl⟩
    rw [hvb] at HW
    refine HW.mono ?_
    clear HW
    rintro e u5 ⟨rfl, C⟩
    replace KA := KA.next C
    replace KE := KE.next C
    replace KR := KR.next C
    replace KO := KO.next C
    replace O1 := rowN O1 C
    replace O3 := rowN O3 C
    replace O4 := rowN O4 C
    replace F1 := flN F1 C
    replace B := bel_tr B C
    clear C
    cases vb with
    | false =>
      have fr0 := KR.frozen 0
      have fr1 := KR.frozen 1
      have fr2 := KR.frozen 2
      have fr3 := KR.frozen 3
      have fr4 := KR.frozen 4
      have fr5 := KR.frozen 5
      have fr6 := KR.frozen 6
      have fr7 := KR.frozen 7
      have fr8 := KR.frozen 8
      have fr9 := KR.frozen 9
      obtain ⟨qA_0, qA_1, qA_2, qA_3, qA_4, qA_5, qA_6, qA_7, qA_8, qA_9⟩ := town_cells KA
      obtain ⟨qE_0, qE_1, qE_2, qE_3, qE_4, qE_5, qE_6, qE_7, qE_8⟩ := cells9 KE
      obtain ⟨qR_0, qR_1, qR_2, qR_3, qR_4, qR_5, qR_6, qR_7, qR_8, qR_9⟩ := town_cells KR
      obtain ⟨qO_0, qO_1, qO_2, qO_3, qO_4, qO_5, qO_6, qO_7, qO_8, qO_9⟩ := town_cells KO
      have HF := Lib.hid (And.intro KA (And.intro KE (And.intro KR (And.intro KO (And.intro O1 (And.intro O3 (And.intro O4 (And.intro F1 B))))))))
      clear KA KE KR KO O1 O3 O4 F1 B
      go_wp2_with fail
      clear fr0 fr1 fr2 fr3 fr4 fr5 fr6 fr7 fr8 fr9
      clear qA_0 qA_1 qA_2 qA_3 qA_4 qA_5 qA_6 qA_7 qA_8 qA_9 qE_0 qE_1 qE_2 qE_3 qE_4 qE_5 qE_6 qE_7 qE_8 qR_0 qR_1 qR_2 qR_3 qR_4 qR_5 qR_6 qR_7 qR_8 qR_9 qO_0 qO_1 qO_2 qO_3 qO_4 qO_5 qO_6 qO_7 qO_8 qO_9
      obtain ⟨KA, KE, KR, KO, O1, O3, O4, F1, B⟩ := HF.out
      clear HF
      obtain ⟨uf, hy⟩ : ∃ y, y = sets10 u5 (w.heap.size + 1 + 1) (.slice none 0 0) (.slice none 0 0) (.slice none 0 0) (.int .i64 0) (.int .i64 0) (.slice none 0 0) (.int .i64 0) (.int .i64 0) (.int .i64 0) (.int .i64 0) := ⟨_, rfl⟩
      change bodyPost _ _ _ _ _ (sets10 _ _ _ _ _ _ _ _ _ _ _ _)
      rw [← hy]
      replace O1 := X10r O1 KR hy (by decide)
      replace O3 := X10r O3 KR hy (by decide)
      replace O4 := X10r O4 KR hy (by decide)
      replace F1 := X10l F1 KR hy (by decide)
      replace B := X10B B hy (by omega)
      have KOLD := KR
      replace KR := X10b KR hy
      clear KA
      clear KE
      clear KO
      clear KOLD hy
      obtain ⟨qR_0, qR_1, qR_2, qR_3, qR_4, qR_5, qR_6, qR_7, qR_8, qR_9⟩ := town_cells KR
      refine bodyPost_ret (v := .tuple #[.agg #[.slice none 0 0, .slice none 0 0, .slice none 0 0, .int .i64 0, .int .i64 0, .slice none 0 0, .int .i64 0, .int .i64 0, .int .i64 0, .int .i64 0], .bool false]) (by simp [results, Try.results171, go_sem, qR_0, qR_1, qR_2, qR_3, qR_4, qR_5, qR_6, qR_7, qR_8, qR_9]) rfl ⟨B, (fun c => Bool.noConfusion (hb.symm.trans c)), (fun _ _ => rfl), (fun _ c => Bool.noConfusion (hvb.symm.trans c))⟩
    | true =>
      have fr0 := KR.frozen 0
      have fr1 := KR.frozen 1
      have fr2 := KR.frozen 2
      have fr3 := KR.frozen 3
      have fr4 := KR.frozen 4
      have fr5 := KR.frozen 5
      have fr6 := KR.frozen 6
      have fr7 := KR.frozen 7
      have fr8 := KR.frozen 8
      have fr9 := KR.frozen 9
      obtain ⟨qA_0, qA_1, qA_2, qA_3, qA_4, qA_5, qA_6, qA_7, qA_8, qA_9⟩ := town_cells KA
      obtain ⟨qE_0, qE_1, qE_2, qE_3, qE_4, qE_5, qE_6, qE_7, qE_8⟩ := cells9 KE
      obtain ⟨qR_0, qR_1, qR_2, qR_3, qR_4, qR_5, qR_6, qR_7, qR_8, qR_9⟩ := town_cells KR
      obtain ⟨qO_0, qO_1, qO_2, qO_3, qO_4, qO_5, qO_6, qO_7, qO_8, qO_9⟩ := town_cells KO
      have HF := Lib.hid (And.intro KA (And.intro KE (And.intro KR (And.intro KO (And.intro O1 (And.intro O3 (And.intro O4 (And.intro F1 B))))))))
      clear KA KE KR KO O1 O3 O4 F1 B
      go_wp2_with fail
      clear fr0 fr1 fr2 fr3 fr4 fr5 fr6 fr7 fr8 fr9
      clear qA_0 qA_1 qA_2 qA_3 qA_4 qA_5 qA_6 qA_7 qA_8 qA_9 qE_0 qE_1 qE_2 qE_3 qE_4 qE_5 qE_6 qE_7 qE_8 qR_0 qR_1 qR_2 qR_3 qR_4 qR_5 qR_6 qR_7 qR_8 qR_9 qO_0 qO_1 qO_2 qO_3 qO_4 qO_5 qO_6 qO_7 qO_8 qO_9
      obtain ⟨KA, KE, KR, KO, O1, O3, O4, F1, B⟩ := HF.out
      clear HF
      obtain ⟨uf, hy⟩ : ∃ y, y = sets10 u5 (w.heap.size + 1 + 1) (.slice bO1 hs.length kO1) (.slice (some ⟨g, 0, none⟩) (swL ts at_ nu).length cap) (.slice bO3 ns.length kO3) (.int .i64 r) (.int .i64 hd) (.slice bO4 ac.length kO4) (.int .i64 rt) (.int .i64 tm) (.int .i64 ls) (.int .i64 cm) := ⟨_, rfl⟩
      change bodyPost _ _ _ _ _ (sets10 _ _ _ _ _ _ _ _ _ _ _ _)
      rw [← hy]
      replace O1 := X10r O1 KR hy (by decide)
      replace O3 := X10r O3 KR hy (by decide)
      replace O4 := X10r O4 KR hy (by decide)
      replace F1 := X10l F1 KR hy (by decide)
      replace B := X10B B hy (by omega)
      have KOLD := KR
      replace KR := X10b KR hy
      clear KA
      clear KE
      clear KO
      clear KOLD hy
      obtain ⟨qR_0, qR_1, qR_2, qR_3, qR_4, qR_5, qR_6, qR_7, qR_8, qR_9⟩ := town_cells KR
      refine bodyPost_ret (v := .tuple #[.agg #[.slice bO1 hs.length kO1, .slice (some ⟨g, 0, none⟩) (swL ts at_ nu).length cap, .slice bO3 ns.length kO3, .int .i64 r, .int .i64 hd, .slice bO4 ac.length kO4, .int .i64 rt, .int .i64 tm, .int .i64 ls, .int .i64 cm], .bool true]) (by simp [results, Try.results171, go_sem, qR_0, qR_1, qR_2, qR_3, qR_4, qR_5, qR_6, qR_7, qR_8, qR_9]) rfl ⟨B, (fun c => Bool.noConfusion (hb.symm.trans c)), (fun _ c => Bool.noConfusion (hvb.symm.trans c)), fun _ _ => ⟨⟨bO1, kO1, some ⟨g, 0, none⟩, cap, bO3, kO3, bO4, kO4⟩, rfl, ⟨own_rowF (zs := flatH hs) O1, HN.out.1, .inr ⟨g, cap, rfl, wg, F1, hcap⟩, HL.out, own_rowF (zs := flatNd ns) O3, HN.out.2.2.1, own_rowF (zs := flatAc ac) O4, HN.out.2.2.2⟩⟩⟩
/-- spec.applyEvent: a gate -/
theorem ssa3 (a1 a2 a3 a4 : Option Addr) (c1 c2 c3 c4 : Nat) (hs : List Hd) (ts : List Tn) (ns : List Nd) (r hd : Int) (ac : List Ac) (rt tm ls cm : Int) (k dk o tt n d : Int) (A : Option Addr) (zs : List Int) (cz : Nat) (at_ nu : Int) (w : World) (h : IsTw w ⟨a1, c1, a2, c2, a3, c3, a4, c4⟩ ⟨hs, ts, ns, r, hd, ac, rt, tm, ls, cm⟩) (hv : twB ⟨hs, ts, ns, r, hd, ac, rt, tm, ls, cm⟩ = true) (hk : k = 3) :
    Calls Try.prog 171 #[.agg #[.slice a1 hs.length c1, .slice a2 ts.length c2, .slice a3 ns.length c3, .int .i64 r, .int .i64 hd, .slice a4 ac.length c4, .int .i64 rt, .int .i64 tm, .int .i64 ls, .int .i64 cm], .agg #[.int .i64 k, .int .i64 dk, .int .i64 o, .int .i64 tt, .int .i64 n, .int .i64 d, .slice A zs.length cz, .int .i64 at_, .int .i64 nu]] w fun e w' => Below w.heap.size w w' ∧ (sgB ns at_ nu = false → e = .returned (.tuple #[.agg #[.slice none 0 0, .slice none 0 0, .slice none 0 0, .int .i64 0, .int .i64 0, .slice none 0 0, .int .i64 0, .int .i64 0, .int .i64 0, .int .i64 0], .bool false])) ∧ (sgB ns at_ nu = true → twB ⟨hs, ts, sgL ns at_ nu, r, hd, ac, rt, tm, ls, cm⟩ = false → e = .returned (.tuple #[.agg #[.slice none 0 0, .slice none 0 0, .slice none 0 0, .int .i64 0, .int .i64 0, .slice none 0 0, .int .i64 0, .int .i64 0, .int .i64 0, .int .i64 0], .bool false])) ∧ (sgB ns at_ nu = true → twB ⟨hs, ts, sgL ns at_ nu, r, hd, ac, rt, tm, ls, cm⟩ = true → ∃ q, e = .returned (.tuple #[twV q ⟨hs, ts, sgL ns at_ nu, r, hd, ac, rt, tm, ls, cm⟩, .bool true]) ∧ TwO w' w.heap.size q ⟨hs, ts, sgL ns at_ nu, r, hd, ac, rt, tm, ls, cm⟩) := by
  have HI := Lib.hid (fun W (hW : Below w.heap.size w W) => tw_below h hW)
  obtain ⟨_, _, _, _, n1, n2, n3, n4, k1, k2, k3, k4⟩ := h
  dsimp only at n1 n2 n3 n4 k1 k2 k3 k4
  have hll : (sgL ns at_ nu).length ≤ 1048576 := (by unfold sgL; rw [List.length_set]; exact n3)
  have hlp : 0 < (sgL ns at_ nu).length := (by unfold sgL; rw [List.length_set]; exact (vn_is (tw_ok hv).v3).1)
  have HN := Lib.hid (show hs.length ≤ 1048576 ∧ ts.length ≤ 1048576 ∧ ns.length ≤ 1048576 ∧ ac.length ≤ 1048576 from ⟨n1, n2, n3, n4⟩)
  have HL := Lib.hid hll
  clear hll
  have HLP := Lib.hid hlp
  clear hlp
  subst hk
  go_enter Try.func171, Try.ntmps171
  have HP := Lib.hid (fun W (hW : Below w.heap.size w W) => sSetGate a3 c3 ns at_ nu W (HI.out W hW).h3 n3 k3)
  have HV := Lib.hid (fun W q (hW : IsTw W q ⟨hs, ts, sgL ns at_ nu, r, hd, ac, rt, tm, ls, cm⟩) => svtw q ⟨hs, ts, sgL ns at_ nu, r, hd, ac, rt, tm, ls, cm⟩ W hW)
  clear hv n1 n2 n3 n4 k1 k2 k3 k4
  obtain ⟨u0, hy, KA, KE, KR, B⟩ := three w 49 63 49 #[.slice a1 hs.length c1, .slice a2 ts.length c2, .slice a3 ns.length c3, .int .i64 r, .int .i64 hd, .slice a4 ac.length c4, .int .i64 rt, .int .i64 tm, .int .i64 ls, .int .i64 cm] #[.int .i64 3, .int .i64 dk, .int .i64 o, .int .i64 tt, .int .i64 n, .int .i64 d, .slice A zs.length cz, .int .i64 at_, .int .i64 nu] #[.slice none 0 0, .slice none 0 0, .slice none 0 0, .int .i64 0, .int .i64 0, .slice none 0 0, .int .i64 0, .int .i64 0, .int .i64 0, .int .i64 0]
  have HY := Lib.hid hy
  clear hy
  have HS0 := Lib.hid (And.intro KA (And.intro KE (And.intro KR B)))
  clear KA KE KR B
  go_wp2_with (first | (show wpList _ _ _ _ _ _; rw [← HY.out]; clear HY; obtain ⟨KA, KE, KR, B⟩ := HS0.out; clear HS0; obtain ⟨qA_0, qA_1, qA_2, qA_3, qA_4, qA_5, qA_6, qA_7, qA_8, qA_9⟩ := town_cells KA; obtain ⟨qE_0, qE_1, qE_2, qE_3, qE_4, qE_5, qE_6, qE_7, qE_8⟩ := cells9 KE; obtain ⟨qR_0, qR_1, qR_2, qR_3, qR_4, qR_5, qR_6, qR_7, qR_8, qR_9⟩ := town_cells KR))
  refine (scopyTw ⟨a1, c1, a2, c2, a3, c3, a4, c4⟩ ⟨hs, ts, ns, r, hd, ac, rt, tm, ls, cm⟩ _ (HI.out _ B)).mono ?_
  rintro e u1 ⟨⟨bO1, kO1, bO2, kO2, bO3, kO3, bO4, kO4⟩, he, G, C⟩
  change e = .returned (.agg #[.slice bO1 hs.length kO1, .slice bO2 ts.length kO2, .slice bO3 ns.length kO3, .int .i64 r, .int .i64 hd, .slice bO4 ac.length kO4, .int .i64 rt, .int .i64 tm, .int .i64 ls, .int .i64 cm]) at he
  subst he
  clear qA_0 qA_1 qA_2 qA_3 qA_4 qA_5 qA_6 qA_7 qA_8 qA_9 qE_0 qE_1 qE_2 qE_3 qE_4 qE_5 qE_6 qE_7 qE_8 qR_0 qR_1 qR_2 qR_3 qR_4 qR_5 qR_6 qR_7 qR_8 qR_9
  have hB0 := B.size
  replace KA := KA.next C
  replace KE := KE.next C
  replace KR := KR.next C
  replace B := bel_tr B C
  clear C
  have O1 := rowBase G.g1 hB0
  have O2 := rowBase G.g2 hB0
  have O3 := rowBase G.g3 hB0
  have O4 := rowBase G.g4 hB0
  dsimp only at O1 O2 O3 O4
  clear G hB0
  have hsz : w.heap.size + 1 + 1 < u1.heap.size := KR.lt
  have CA := (Below.refl _ u1).alloc (Nat.le_refl _) (.cells #[.slice bO1 hs.length kO1, .slice bO2 ts.length kO2, .slice bO3 ns.length kO3, .int .i64 r, .int .i64 hd, .slice bO4 ac.length kO4, .int .i64 rt, .int .i64 tm, .int .i64 ls, .int .i64 cm] 49)
  replace KA := KA.alloc (.cells #[.slice bO1 hs.length kO1, .slice bO2 ts.length kO2, .slice bO3 ns.length kO3, .int .i64 r, .int .i64 hd, .slice bO4 ac.length kO4, .int .i64 rt, .int .i64 tm, .int .i64 ls, .int .i64 cm] 49)
  replace KE := KE.alloc (.cells #[.slice bO1 hs.length kO1, .slice bO2 ts.length kO2, .slice bO3 ns.length kO3, .int .i64 r, .int .i64 hd, .slice bO4 ac.length kO4, .int .i64 rt, .int .i64 tm, .int .i64 ls, .int .i64 cm] 49)
  replace KR := KR.alloc (.cells #[.slice bO1 hs.length kO1, .slice bO2 ts.length kO2, .slice bO3 ns.length kO3, .int .i64 r, .int .i64 hd, .slice bO4 ac.length kO4, .int .i64 rt, .int .i64 tm, .int .i64 ls, .int .i64 cm] 49)
  replace O1 := rowN O1 CA
  replace O2 := rowN O2 CA
  replace O3 := rowN O3 CA
  replace O4 := rowN O4 CA
  have KO := Blk.new u1 49 #[.slice bO1 hs.length kO1, .slice bO2 ts.length kO2, .slice bO3 ns.length kO3, .int .i64 r, .int .i64 hd, .slice bO4 ac.length kO4, .int .i64 rt, .int .i64 tm, .int .i64 ls, .int .i64 cm]
  replace B := B.alloc B.size (.cells #[.slice bO1 hs.length kO1, .slice bO2 ts.length kO2, .slice bO3 ns.length kO3, .int .i64 r, .int .i64 hd, .slice bO4 ac.length kO4, .int .i64 rt, .int .i64 tm, .int .i64 ls, .int .i64 cm] 49)
  clear CA
  clear HI
  obtain ⟨u2, hy⟩ : ∃ y, y = u1.alloc (.cells #[.slice bO1 hs.length kO1, .slice bO2 ts.length kO2, .slice bO3 ns.length kO3, .int .i64 r, .int .i64 hd, .slice bO4 ac.length kO4, .int .i64 rt, .int .i64 tm, .int .i64 ls, .int .i64 cm] 49) := ⟨_, rfl⟩
  rw [← hy] at KA KE KR KO O1 O2 O3 O4 B
  have HY := Lib.hid hy
  clear hy
  have HS1 := Lib.hid (And.intro KA (And.intro KE (And.intro KR (And.intro KO (And.intro O1 (And.intro O2 (And.intro O3 (And.intro O4 B))))))))
  clear KA KE KR KO O1 O2 O3 O4 B
  go_wp2_with (first | (show wpList _ _ _ _ _ _; rw [← HY.out]; clear HY; obtain ⟨KA, KE, KR, KO, O1, O2, O3, O4, B⟩ := HS1.out; clear HS1; obtain ⟨qA_0, qA_1, qA_2, qA_3, qA_4, qA_5, qA_6, qA_7, qA_8, qA_9⟩ := town_cells KA; obtain ⟨qE_0, qE_1, qE_2, qE_3, qE_4, qE_5, qE_6, qE_7, qE_8⟩ := cells9 KE; obtain ⟨qR_0, qR_1, qR_2, qR_3, qR_4, qR_5, qR_6, qR_7, qR_8, qR_9⟩ := town_cells KR; obtain ⟨qO_0, qO_1, qO_2, qO_3, qO_4, qO_5, qO_6, qO_7, qO_8, qO_9⟩ := town_cells KO))
  have HQ := HP.out _ B
  clear HP
  cases hb : sgB ns at_ nu with
  | false =>
    rw [hb] at HQ
    refine HQ.mono ?_
    rintro e u3 ⟨m1, m2, C⟩
    obtain rfl := m1 rfl
    clear m1 m2 HQ HV HLP
    clear qA_0 qA_1 qA_2 qA_3 qA_4 qA_5 qA_6 qA_7 qA_8 qA_9 qE_0 qE_1 qE_2 qE_3 qE_4 qE_5 qE_6 qE_7 qE_8 qR_0 qR_1 qR_2 qR_3 qR_4 qR_5 qR_6 qR_7 qR_8 qR_9 qO_0 qO_1 qO_2 qO_3 qO_4 qO_5 qO_6 qO_7 qO_8 qO_9
    replace KA := KA.next C
    replace KE := KE.next C
    replace KR := KR.next C
    replace KO := KO.next C
    replace O1 := rowN O1 C
    replace O2 := rowN O2 C
    replace O3 := rowN O3 C
    replace O4 := rowN O4 C
    replace B := bel_tr B C
    clear C
    clear O3
    have fz0 := KO.frozen 2
    obtain ⟨qA_0, qA_1, qA_2, qA_3, qA_4, qA_5, qA_6, qA_7, qA_8, qA_9⟩ := town_cells KA
    obtain ⟨qE_0, qE_1, qE_2, qE_3, qE_4, qE_5, qE_6, qE_7, qE_8⟩ := cells9 KE
    obtain ⟨qR_0, qR_1, qR_2, qR_3, qR_4, qR_5, qR_6, qR_7, qR_8, qR_9⟩ := town_cells KR
    obtain ⟨qO_0, qO_1, qO_2, qO_3, qO_4, qO_5, qO_6, qO_7, qO_8, qO_9⟩ := town_cells KO
    obtain ⟨y2s, hy⟩ : ∃ y, y = World.setCell u3 ⟨u1.heap.size, 2, none⟩ (.slice none 0 0) := ⟨_, rfl⟩
    replace O1 := rS O1 KO hy (by decide)
    replace O2 := rS O2 KO hy (by decide)
    replace O4 := rS O4 KO hy (by decide)
    replace KA := fS KA hy (by omega)
    replace KE := fS KE hy (by omega)
    replace KR := fS KR hy (by omega)
    replace KO := S10_2 KO hy
    replace B := bS B hy (by omega)
    have HY := Lib.hid hy
    clear hy
    have HS2 := Lib.hid (And.intro KA (And.intro KE (And.intro KR (And.intro KO (And.intro O1 (And.intro O2 (And.intro O4 B)))))))
    clear KA KE KR KO O1 O2 O4 B
    go_wp2_with (first | (show wpList _ _ _ _ _ (World.setCell u3 _ _); rw [← HY.out]; clear HY fz0; clear qA_0 qA_1 qA_2 qA_3 qA_4 qA_5 qA_6 qA_7 qA_8 qA_9 qE_0 qE_1 qE_2 qE_3 qE_4 qE_5 qE_6 qE_7 qE_8 qR_0 qR_1 qR_2 qR_3 qR_4 qR_5 qR_6 qR_7 qR_8 qR_9 qO_0 qO_1 qO_2 qO_3 qO_4 qO_5 qO_6 qO_7 qO_8 qO_9; obtain ⟨KA, KE, KR, KO, O1, O2, O4, B⟩ := HS2.out; clear HS2; have fr0 := KR.frozen 0; have fr1 := KR.frozen 1; have fr2 := KR.frozen 2; have fr3 := KR.frozen 3; have fr4 := KR.frozen 4; have fr5 := KR.frozen 5; have fr6 := KR.frozen 6; have fr7 := KR.frozen 7; have fr8 := KR.frozen 8; have fr9 := KR.frozen 9; obtain ⟨qA_0, qA_1, qA_2, qA_3, qA_4, qA_5, qA_6, qA_7, qA_8, qA_9⟩ := town_cells KA; obtain ⟨qE_0, qE_1, qE_2, qE_3, qE_4, qE_5, qE_6, qE_7, qE_8⟩ := cells9 KE; obtain ⟨qR_0, qR_1, qR_2, qR_3, qR_4, qR_5, qR_6, qR_7, qR_8, qR_9⟩ := town_cells KR; obtain ⟨qO_0, qO_1, qO_2, qO_3, qO_4, qO_5, qO_6, qO_7, qO_8, qO_9⟩ := town_cells KO; have HF := Lib.hid (And.intro KA (And.intro KE (And.intro KR (And.intro KO (And.intro O1 (And.intro O2 (And.intro O4 B))))))); clear KA KE KR KO O1 O2 O4 B))
    clear fr0 fr1 fr2 fr3 fr4 fr5 fr6 fr7 fr8 fr9
    clear qA_0 qA_1 qA_2 qA_3 qA_4 qA_5 qA_6 qA_7 qA_8 qA_9 qE_0 qE_1 qE_2 qE_3 qE_4 qE_5 qE_6 qE_7 qE_8 qR_0 qR_1 qR_2 qR_3 qR_4 qR_5 qR_6 qR_7 qR_8 qR_9 qO_0 qO_1 qO_2 qO_3 qO_4 qO_5 qO_6 qO_7 qO_8 qO_9
    obtain ⟨KA, KE, KR, KO, O1, O2, O4, B⟩ := HF.out
    clear HF
    obtain ⟨uf, hy⟩ : ∃ y, y = sets10 y2s (w.heap.size + 1 + 1) (.slice none 0 0) (.slice none 0 0) (.slice none 0 0) (.int .i64 0) (.int .i64 0) (.slice none 0 0) (.int .i64 0) (.int .i64 0) (.int .i64 0) (.int .i64 0) := ⟨_, rfl⟩
    change bodyPost _ _ _ _ _ (sets10 _ _ _ _ _ _ _ _ _ _ _ _)
    rw [← hy]
    replace O1 := X10r O1 KR hy (by decide)
    replace O2 := X10r O2 KR hy (by decide)
    replace O4 := X10r O4 KR hy (by decide)
    replace B := X10B B hy (by omega)
    have KOLD := KR
    replace KR := X10b KR hy
    clear KA
    clear KE
    clear KO
    clear KOLD hy
    obtain ⟨qR_0, qR_1, qR_2, qR_3, qR_4, qR_5, qR_6, qR_7, qR_8, qR_9⟩ := town_cells KR
    refine bodyPost_ret (v := .tuple #[.agg #[.slice none 0 0, .slice none 0 0, .slice none 0 0, .int .i64 0, .int .i64 0, .slice none 0 0, .int .i64 0, .int .i64 0, .int .i64 0, .int .i64 0], .bool false]) (by simp [results, Try.results171, go_sem, qR_0, qR_1, qR_2, qR_3, qR_4, qR_5, qR_6, qR_7, qR_8, qR_9]) rfl ⟨B, (fun _ => rfl), (fun c => Bool.noConfusion (hb.symm.trans c)), (fun c => Bool.noConfusion (hb.symm.trans c))⟩
  | true =>
    rw [hb] at HQ
    refine HQ.mono ?_
    rintro e u3 ⟨m1, m2, C⟩
    obtain ⟨g, cap, rfl, lg, F1, hcap⟩ := m2 rfl
    have wg : w.heap.size ≤ g := Nat.le_trans B.size lg
    clear m1 m2 HQ
    clear qA_0 qA_1 qA_2 qA_3 qA_4 qA_5 qA_6 qA_7 qA_8 qA_9 qE_0 qE_1 qE_2 qE_3 qE_4 qE_5 qE_6 qE_7 qE_8 qR_0 qR_1 qR_2 qR_3 qR_4 qR_5 qR_6 qR_7 qR_8 qR_9 qO_0 qO_1 qO_2 qO_3 qO_4 qO_5 qO_6 qO_7 qO_8 qO_9
    replace KA := KA.next C
    replace KE := KE.next C
    replace KR := KR.next C
    replace KO := KO.next C
    replace O1 := rowN O1 C
    replace O2 := rowN O2 C
    replace O3 := rowN O3 C
    replace O4 := rowN O4 C
    replace B := bel_tr B C
    clear C lg
    have eok := HLP.out
    clear HLP
    clear O3
    have fz0 := KO.frozen 2
    obtain ⟨qA_0, qA_1, qA_2, qA_3, qA_4, qA_5, qA_6, qA_7, qA_8, qA_9⟩ := town_cells KA
    obtain ⟨qE_0, qE_1, qE_2, qE_3, qE_4, qE_5, qE_6, qE_7, qE_8⟩ := cells9 KE
    obtain ⟨qR_0, qR_1, qR_2, qR_3, qR_4, qR_5, qR_6, qR_7, qR_8, qR_9⟩ := town_cells KR
    obtain ⟨qO_0, qO_1, qO_2, qO_3, qO_4, qO_5, qO_6, qO_7, qO_8, qO_9⟩ := town_cells KO
    obtain ⟨y2s, hy⟩ : ∃ y, y = World.setCell u3 ⟨u1.heap.size, 2, none⟩ (.slice (some ⟨g, 0, none⟩) (sgL ns at_ nu).length cap) := ⟨_, rfl⟩
    replace O1 := rS O1 KO hy (by decide)
    replace O2 := rS O2 KO hy (by decide)
    replace O4 := rS O4 KO hy (by decide)
    replace F1 := lS F1 KO hy (by decide)
    replace KA := fS KA hy (by omega)
    replace KE := fS KE hy (by omega)
    replace KR := fS KR hy (by omega)
    replace KO := S10_2 KO hy
    replace B := bS B hy (by omega)
    have HY := Lib.hid hy
    clear hy
    have HS2 := Lib.hid (And.intro KA (And.intro KE (And.intro KR (And.intro KO (And.intro O1 (And.intro O2 (And.intro O4 (And.intro F1 B))))))))
    clear KA KE KR KO O1 O2 O4 F1 B
    go_wp2_with (first | (show wpList _ _ _ _ _ (World.setCell u3 _ _); rw [← HY.out]; clear HY fz0; clear qA_0 qA_1 qA_2 qA_3 qA_4 qA_5 qA_6 qA_7 qA_8 qA_9 qE_0 qE_1 qE_2 qE_3 qE_4 qE_5 qE_6 qE_7 qE_8 qR_0 qR_1 qR_2 qR_3 qR_4 qR_5 qR_6 qR_7 qR_8 qR_9 qO_0 qO_1 qO_2 qO_3 qO_4 qO_5 qO_6 qO_7 qO_8 qO_9; obtain ⟨KA, KE, KR, KO, O1, O2, O4, F1, B⟩ := HS2.out; clear HS2; obtain ⟨qA_0, qA_1, qA_2, qA_3, qA_4, qA_5, qA_6, qA_7, qA_8, qA_9⟩ := town_cells KA; obtain ⟨qE_0, qE_1, qE_2, qE_3, qE_4, qE_5, qE_6, qE_7, qE_8⟩ := cells9 KE; obtain ⟨qR_0, qR_1, qR_2, qR_3, qR_4, qR_5, qR_6, qR_7, qR_8, qR_9⟩ := town_cells KR; obtain ⟨qO_0, qO_1, qO_2, qO_3, qO_4, qO_5, qO_6, qO_7, qO_8, qO_9⟩ := town_cells KO))
    clear qA_0 qA_1 qA_2 qA_3 qA_4 qA_5 qA_6 qA_7 qA_8 qA_9 qE_0 qE_1 qE_2 qE_3 qE_4 qE_5 qE_6 qE_7 qE_8 qR_0 qR_1 qR_2 qR_3 qR_4 qR_5 qR_6 qR_7 qR_8 qR_9 qO_0 qO_1 qO_2 qO_3 qO_4 qO_5 qO_6 qO_7 qO_8 qO_9
    have HT : TwO y2s w.heap.size ⟨bO1, kO1, bO2, kO2, some ⟨g, 0, none⟩, cap, bO4, kO4⟩ ⟨hs, ts, sgL ns at_ nu, r, hd, ac, rt, tm, ls, cm⟩ := ⟨own_rowF (zs := flatH hs) O1, HN.out.1, own_rowF (zs := flatTn ts) O2, HN.out.2.1, .inr ⟨g, cap, rfl, wg, F1, hcap⟩, HL.out, own_rowF (zs := flatAc ac) O4, HN.out.2.2.2⟩
    have HW := HV.out _ _ HT.is
    clear HV HT eok
    obtain ⟨vb, hvb⟩ : ∃ vb, twB ⟨hs, ts, sgL ns at_ nu, r, hd, ac, rt, tm, ls, cm⟩ = vb := ⟨_, rfl⟩
    rw [hvb] at HW
    refine HW.mono ?_
    clear HW
    rintro e u5 ⟨rfl, C⟩
    replace KA := KA.next C
    replace KE := KE.next C
    replace KR := KR.next C
    replace KO := KO.next C
    replace O1 := rowN O1 C
    replace O2 := rowN O2 C
    replace O4 := rowN O4 C
    replace F1 := flN F1 C
    replace B := bel_tr B C
    clear C
    cases vb with
    | false =>
      have fr0 := KR.frozen 0
      have fr1 := KR.frozen 1
      have fr2 := KR.frozen 2
      have fr3 := KR.frozen 3
      have fr4 := KR.frozen 4
      have fr5 := KR.frozen 5
      have fr6 := KR.frozen 6
      have fr7 := KR.frozen 7
      have fr8 := KR.frozen 8
      have fr9 := KR.frozen 9
      obtain ⟨qA_0, qA_1, qA_2, qA_3, qA_4, qA_5, qA_6, qA_7, qA_8, qA_9⟩ := town_cells KA
      obtain ⟨qE_0, qE_1, qE_2, qE_3, qE_4, qE_5, qE_6, qE_7, qE_8⟩ := cells9 KE
      obtain ⟨qR_0, qR_1, qR_2, qR_3, qR_4, qR_5, qR_6, qR_7, qR_8, qR_9⟩ := town_cells KR
      obtain ⟨qO_0, qO_1, qO_2, qO_3, qO_4, qO_5, qO_6, qO_7, qO_8, qO_9⟩ := town_cells KO
      have HF := Lib.hid (And.intro KA (And.intro KE (And.intro KR (And.intro KO (And.intro O1 (And.intro O2 (And.intro O4 (And.intro F1 B))))))))
      clear KA KE KR KO O1 O2 O4 F1 B
      go_wp2_with fail
      clear fr0 fr1 fr2 fr3 fr4 fr5 fr6 fr7 fr8 fr9
      clear qA_0 qA_1 qA_2 qA_3 qA_4 qA_5 qA_6 qA_7 qA_8 qA_9 qE_0 qE_1 qE_2 qE_3 qE_4 qE_5 qE_6 qE_7 qE_8 qR_0 qR_1 qR_2 qR_3 qR_4 qR_5 qR_6 qR_7 qR_8 qR_9 qO_0 qO_1 qO_2 qO_3 qO_4 qO_5 qO_6 qO_7 qO_8 qO_9
      obtain ⟨KA, KE, KR, KO, O1, O2, O4, F1, B⟩ := HF.out
      clear HF
      obtain ⟨uf, hy⟩ : ∃ y, y = sets10 u5 (w.heap.size + 1 + 1) (.slice none 0 0) (.slice none 0 0) (.slice none 0 0) (.int .i64 0) (.int .i64 0) (.slice none 0 0) (.int .i64 0) (.int .i64 0) (.int .i64 0) (.int .i64 0) := ⟨_, rfl⟩
      change bodyPost _ _ _ _ _ (sets10 _ _ _ _ _ _ _ _ _ _ _ _)
      rw [← hy]
      replace O1 := X10r O1 KR hy (by decide)
      replace O2 := X10r O2 KR hy (by decide)
      replace O4 := X10r O4 KR hy (by decide)
      replace F1 := X10l F1 KR hy (by decide)
      replace B := X10B B hy (by omega)
      have KOLD := KR
      replace KR := X10b KR hy
      clear KA
      clear KE
      clear KO
      clear KOLD hy
      obtain ⟨qR_0, qR_1, qR_2, qR_3, qR_4, qR_5, qR_6, qR_7, qR_8, qR_9⟩ := town_cells KR
      refine bodyPost_ret (v := .tuple #[.agg #[.slice none 0 0, .slice none 0 0, .slice none 0 0, .int .i64 0, .int .i64 0, .slice none 0 0, .int .i64 0, .int .i64 0, .int .i64 0, .int .i64 0], .bool false]) (by simp [results, Try.results171, go_sem, qR_0, qR_1, qR_2, qR_3, qR_4, qR_5, qR_6, qR_7, qR_8, qR_9]) rfl ⟨B, (fun c => Bool.noConfusion (hb.symm.trans c)), (fun _ _ => rfl), (fun _ c => Bool.noConfusion (hvb.symm.trans c))⟩
    | true =>
      have fr0 := KR.frozen 0
      have fr1 := KR.frozen 1
      have fr2 := KR.frozen 2
      have fr3 := KR.frozen 3
      have fr4 := KR.frozen 4
      have fr5 := KR.frozen 5
      have fr6 := KR.frozen 6
      have fr7 := KR.frozen 7
      have fr8 := KR.frozen 8
      have fr9 := KR.frozen 9
      obtain ⟨qA_0, qA_1, qA_2, qA_3, qA_4, qA_5, qA_6, qA_7, qA_8, qA_9⟩ := town_cells KA
      obtain ⟨qE_0, qE_1, qE_2, qE_3, qE_4, qE_5, qE_6, qE_7, qE_8⟩ := cells9 KE
      obtain ⟨qR_0, qR_1, qR_2, qR_3, qR_4, qR_5, qR_6, qR_7, qR_8, qR_9⟩ := town_cells KR
      obtain ⟨qO_0, qO_1, qO_2, qO_3, qO_4, qO_5, qO_6, qO_7, qO_8, qO_9⟩ := town_cells KO
      have HF := Lib.hid (And.intro KA (And.intro KE (And.intro KR (And.intro KO (And.intro O1 (And.intro O2 (And.intro O4 (And.intro F1 B))))))))
      clear KA KE KR KO O1 O2 O4 F1 B
      go_wp2_with fail
      clear fr0 fr1 fr2 fr3 fr4 fr5 fr6 fr7 fr8 fr9
      clear qA_0 qA_1 qA_2 qA_3 qA_4 qA_5 qA_6 qA_7 qA_8 qA_9 qE_0 qE_1 qE_2 qE_3 qE_4 qE_5 qE_6 qE_7 qE_8 qR_0 qR_1 qR_2 qR_3 qR_4 qR_5 qR_6 qR_7 qR_8 qR_9 qO_0 qO_1 qO_2 qO_3 qO_4 qO_5 qO_6 qO_7 qO_8 qO_9
      obtain ⟨KA, KE, KR, KO, O1, O2, O4, F1, B⟩ := HF.out
      clear HF
      obtain ⟨uf, hy⟩ : ∃ y, y = sets10 u5 (w.heap.size + 1 + 1) (.slice bO1 hs.length kO1) (.slice bO2 ts.length kO2) (.slice (some ⟨g, 0, none⟩) (sgL ns at_ nu).length cap) (.int .i64 r) (.int .i64 hd) (.slice bO4 ac.length kO4) (.int .i64 rt) (.int .i64 tm) (.int .i64 ls) (.int .i64 cm) := ⟨_, rfl⟩
      change bodyPost _ _ _ _ _ (sets10 _ _ _ _ _ _ _ _ _ _ _ _)
      rw [← hy]
      replace O1 := X10r O1 KR hy (by decide)
      replace O2 := X10r O2 KR hy (by decide)
      replace O4 := X10r O4 KR hy (by decide)
      replace F1 := X10l F1 KR hy (by decide)
      replace B := X10B B hy (by omega)
      have KOLD := KR
      replace KR := X10b KR hy
      clear KA
      clear KE
      clear KO
      clear KOLD hy
      obtain ⟨qR_0, qR_1, qR_2, qR_3, qR_4, qR_5, qR_6, qR_7, qR_8, qR_9⟩ := town_cells KR
      refine bodyPost_ret (v := .tuple #[.agg #[.slice bO1 hs.length kO1, .slice bO2 ts.length kO2, .slice (some ⟨g, 0, none⟩) (sgL ns at_ nu).length cap, .int .i64 r, .int .i64 hd, .slice bO4 ac.length kO4, .int .i64 rt, .int .i64 tm, .int .i64 ls, .int .i64 cm], .bool true]) (by simp [results, Try.results171, go_sem, qR_0, qR_1, qR_2, qR_3, qR_4, qR_5, qR_6, qR_7, qR_8, qR_9]) rfl ⟨B, (fun c => Bool.noConfusion (hb.symm.trans c)), (fun _ c => Bool.noConfusion (hvb.symm.trans c)), fun _ _ => ⟨⟨bO1, kO1, bO2, kO2, some ⟨g, 0, none⟩, cap, bO4, kO4⟩, rfl, ⟨own_rowF (zs := flatH hs) O1, HN.out.1, own_rowF (zs := flatTn ts) O2, HN.out.2.1, .inr ⟨g, cap, rfl, wg, F1, hcap⟩, HL.out, own_rowF (zs := flatAc ac) O4, HN.out.2.2.2⟩⟩⟩
end Go.Proofs.Ytaehemmjemhgpaa
