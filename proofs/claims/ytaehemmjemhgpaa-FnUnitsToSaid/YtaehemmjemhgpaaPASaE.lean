/- A town after an event, by the model. Condition: lists that can be read. -/
import Derived.Test.YtaehemmjemhgpaaPASaA
import Derived.Test.YtaehemmjemhgpaaPAG1
import Derived.Test.YtaehemmjemhgpaaPAG6
set_option maxRecDepth 100000
set_option maxHeartbeats 16000000
namespace Go.Proofs.Ytaehemmjemhgpaa
open Go.RowKit
set_option linter.unusedSimpArgs false
set_option linter.unusedVariables false
/-- spec.applyEvent: an hour -/
theorem ssa5 (a1 a2 a3 a4 : Option Addr) (c1 c2 c3 c4 : Nat) (hs : List Hd) (ts : List Tn) (ns : List Nd) (r hd : Int) (ac : List Ac) (rt tm ls cm : Int) (k dk o tt n d : Int) (A : Option Addr) (zs : List Int) (cz : Nat) (at_ nu : Int) (w : World) (h : IsTw w ⟨a1, c1, a2, c2, a3, c3, a4, c4⟩ ⟨hs, ts, ns, r, hd, ac, rt, tm, ls, cm⟩) (hv : twB ⟨hs, ts, ns, r, hd, ac, rt, tm, ls, cm⟩ = true) (hk : k = 5) :
    Calls Try.prog 171 #[.agg #[.slice a1 hs.length c1, .slice a2 ts.length c2, .slice a3 ns.length c3, .int .i64 r, .int .i64 hd, .slice a4 ac.length c4, .int .i64 rt, .int .i64 tm, .int .i64 ls, .int .i64 cm], .agg #[.int .i64 k, .int .i64 dk, .int .i64 o, .int .i64 tt, .int .i64 n, .int .i64 d, .slice A zs.length cz, .int .i64 at_, .int .i64 nu]] w fun e w' => Below w.heap.size w w' ∧ (inB3 nu 0 500 = false → e = .returned (.tuple #[.agg #[.slice none 0 0, .slice none 0 0, .slice none 0 0, .int .i64 0, .int .i64 0, .slice none 0 0, .int .i64 0, .int .i64 0, .int .i64 0, .int .i64 0], .bool false])) ∧ (inB3 nu 0 500 = true → twB ⟨hs, ts, ns, r, stepH r hd (nu - lostV ns nu) rt, (addA ac (whoM ts tm) (giveH hd (nu - lostV ns nu) rt)), rt, tm + 1, ls + lostV ns nu + spillH r hd (nu - lostV ns nu) rt, cm + nu⟩ = false → e = .returned (.tuple #[.agg #[.slice none 0 0, .slice none 0 0, .slice none 0 0, .int .i64 0, .int .i64 0, .slice none 0 0, .int .i64 0, .int .i64 0, .int .i64 0, .int .i64 0], .bool false])) ∧ (inB3 nu 0 500 = true → twB ⟨hs, ts, ns, r, stepH r hd (nu - lostV ns nu) rt, (addA ac (whoM ts tm) (giveH hd (nu - lostV ns nu) rt)), rt, tm + 1, ls + lostV ns nu + spillH r hd (nu - lostV ns nu) rt, cm + nu⟩ = true → ∃ q, e = .returned (.tuple #[twV q ⟨hs, ts, ns, r, stepH r hd (nu - lostV ns nu) rt, (addA ac (whoM ts tm) (giveH hd (nu - lostV ns nu) rt)), rt, tm + 1, ls + lostV ns nu + spillH r hd (nu - lostV ns nu) rt, cm + nu⟩, .bool true]) ∧ TwO w' w.heap.size q ⟨hs, ts, ns, r, stepH r hd (nu - lostV ns nu) rt, (addA ac (whoM ts tm) (giveH hd (nu - lostV ns nu) rt)), rt, tm + 1, ls + lostV ns nu + spillH r hd (nu - lostV ns nu) rt, cm + nu⟩) := by
  have HI := Lib.hid (fun W (hW : Below w.heap.size w W) => tw_below h hW)
  obtain ⟨_, _, _, _, n1, n2, n3, n4, k1, k2, k3, k4⟩ := h
  dsimp only at n1 n2 n3 n4 k1 k2 k3 k4
  have HN := Lib.hid (show hs.length ≤ 1048576 ∧ ts.length ≤ 1048576 ∧ ns.length ≤ 1048576 ∧ ac.length ≤ 1048576 from ⟨n1, n2, n3, n4⟩)
  have hl4 : (addA ac (whoM ts tm) (giveH hd (nu - lostV ns nu) rt)).length ≤ 1048576 := by
    have h1 := add_len ac (whoM ts tm) (giveH hd (nu - lostV ns nu) rt)
    have h2 := acc_len hv
    dsimp only at h2
    omega
  have HL4 := Lib.hid hl4
  have HP := Lib.hid (fun W A1 K1 A2 K2 A3 K3 A4 K4 (hW : IsTw W ⟨A1, K1, A2, K2, A3, K3, A4, K4⟩ ⟨hs, ts, ns, r, hd, ac, rt, tm, ls, cm⟩) => shour A1 A2 A3 A4 K1 K2 K3 K4 hs ts ns r hd ac rt tm ls cm nu W hW hv)
  have HV := Lib.hid (fun W q (hW : IsTw W q ⟨hs, ts, ns, r, stepH r hd (nu - lostV ns nu) rt, (addA ac (whoM ts tm) (giveH hd (nu - lostV ns nu) rt)), rt, tm + 1, ls + lostV ns nu + spillH r hd (nu - lostV ns nu) rt, cm + nu⟩) => svtw q ⟨hs, ts, ns, r, stepH r hd (nu - lostV ns nu) rt, (addA ac (whoM ts tm) (giveH hd (nu - lostV ns nu) rt)), rt, tm + 1, ls + lostV ns nu + spillH r hd (nu - lostV ns nu) rt, cm + nu⟩ W hW)
  clear hv hl4 n1 n2 n3 n4 k1 k2 k3 k4
  generalize (addA ac (whoM ts tm) (giveH hd (nu - lostV ns nu) rt)) = AA at HP HL4 HV ⊢
  generalize stepH r hd (nu - lostV ns nu) rt = S5 at HP HV ⊢
  generalize ls + lostV ns nu + spillH r hd (nu - lostV ns nu) rt = L5 at HP HV ⊢
  generalize tm + 1 = T5 at HP HV ⊢
  generalize cm + nu = C5 at HP HV ⊢
  subst hk
  go_enter Try.func171, Try.ntmps171
  obtain ⟨u0, hy, KA, KE, KR, B⟩ := three w 49 63 49 #[.slice a1 hs.length c1, .slice a2 ts.length c2, .slice a3 ns.length c3, .int .i64 r, .int .i64 hd, .slice a4 ac.length c4, .int .i64 rt, .int .i64 tm, .int .i64 ls, .int .i64 cm] #[.int .i64 5, .int .i64 dk, .int .i64 o, .int .i64 tt, .int .i64 n, .int .i64 d, .slice A zs.length cz, .int .i64 at_, .int .i64 nu] #[.slice none 0 0, .slice none 0 0, .slice none 0 0, .int .i64 0, .int .i64 0, .slice none 0 0, .int .i64 0, .int .i64 0, .int .i64 0, .int .i64 0]
  have HY := Lib.hid hy
  clear hy
  have HS0 := Lib.hid (And.intro KA (And.intro KE (And.intro KR B)))
  clear KA KE KR B
  go_wp2_with (first | (show wpList _ _ _ _ _ _; rw [← HY.out]; clear HY; obtain ⟨KA, KE, KR, B⟩ := HS0.out; clear HS0; obtain ⟨qA_0, qA_1, qA_2, qA_3, qA_4, qA_5, qA_6, qA_7, qA_8, qA_9⟩ := town_cells KA; obtain ⟨qE_0, qE_1, qE_2, qE_3, qE_4, qE_5, qE_6, qE_7, qE_8⟩ := cells9 KE; obtain ⟨qR_0, qR_1, qR_2, qR_3, qR_4, qR_5, qR_6, qR_7, qR_8, qR_9⟩ := town_cells KR))
  refine (scopyTw ⟨a1, c1, a2, c2, a3, c3, a4, c4⟩ ⟨hs, ts, ns, r, hd, ac, rt, tm, ls, cm⟩ _ (HI.out _ B)).mono ?_
  rintro e u1 ⟨⟨bO1, kO1, bO2, kO2, bO3, kO3, bO4, kO4⟩, he, G, C⟩
  change e = .returned (.agg #[.slice bO1 hs.length kO1, .slice bO2 ts.length kO2, .slice bO3 ns.length kO3, .int .i64 r, .int .i64 hd, .slice bO4 ac.length kO4, .int .i64 rt, .int .i64 tm, .int .i64 ls, .int .i64 cm]) at he
  subst he
  clear qA_0 qA_1 qA_2 qA_3 qA_4 qA_5 qA_6 qA_7 qA_8 qA_9 qE_0 qE_1 qE_2 qE_3 qE_4 qE_5 qE_6 qE_7 qE_8 qR_0 qR_1 qR_2 qR_3 qR_4 qR_5 qR_6 qR_7 qR_8 qR_9
  have hB0 := B.size
  replace KA := KA.next C
  replace KE := KE.next C
  replace KR := KR.next C
  replace B := bel_tr B C
  clear C
  have O1 := rowBase G.g1 hB0
  have O2 := rowBase G.g2 hB0
  have O3 := rowBase G.g3 hB0
  have O4 := rowBase G.g4 hB0
  dsimp only at O1 O2 O3 O4
  clear G hB0
  have hsz : w.heap.size + 1 + 1 < u1.heap.size := KR.lt
  have CA := (Below.refl _ u1).alloc (Nat.le_refl _) (.cells #[.slice bO1 hs.length kO1, .slice bO2 ts.length kO2, .slice bO3 ns.length kO3, .int .i64 r, .int .i64 hd, .slice bO4 ac.length kO4, .int .i64 rt, .int .i64 tm, .int .i64 ls, .int .i64 cm] 49)
  replace KA := KA.alloc (.cells #[.slice bO1 hs.length kO1, .slice bO2 ts.length kO2, .slice bO3 ns.length kO3, .int .i64 r, .int .i64 hd, .slice bO4 ac.length kO4, .int .i64 rt, .int .i64 tm, .int .i64 ls, .int .i64 cm] 49)
  replace KE := KE.alloc (.cells #[.slice bO1 hs.length kO1, .slice bO2 ts.length kO2, .slice bO3 ns.length kO3, .int .i64 r, .int .i64 hd, .slice bO4 ac.length kO4, .int .i64 rt, .int .i64 tm, .int .i64 ls, .int .i64 cm] 49)
  replace KR := KR.alloc (.cells #[.slice bO1 hs.length kO1, .slice bO2 ts.length kO2, .slice bO3 ns.length kO3, .int .i64 r, .int .i64 hd, .slice bO4 ac.length kO4, .int .i64 rt, .int .i64 tm, .int .i64 ls, .int .i64 cm] 49)
  replace O1 := rowN O1 CA
  replace O2 := rowN O2 CA
  replace O3 := rowN O3 CA
  replace O4 := rowN O4 CA
  have KO := Blk.new u1 49 #[.slice bO1 hs.length kO1, .slice bO2 ts.length kO2, .slice bO3 ns.length kO3, .int .i64 r, .int .i64 hd, .slice bO4 ac.length kO4, .int .i64 rt, .int .i64 tm, .int .i64 ls, .int .i64 cm]
  replace B := B.alloc B.size (.cells #[.slice bO1 hs.length kO1, .slice bO2 ts.length kO2, .slice bO3 ns.length kO3, .int .i64 r, .int .i64 hd, .slice bO4 ac.length kO4, .int .i64 rt, .int .i64 tm, .int .i64 ls, .int .i64 cm] 49)
  clear CA
  clear HI
  obtain ⟨u2, hy⟩ : ∃ y, y = u1.alloc (.cells #[.slice bO1 hs.length kO1, .slice bO2 ts.length kO2, .slice bO3 ns.length kO3, .int .i64 r, .int .i64 hd, .slice bO4 ac.length kO4, .int .i64 rt, .int .i64 tm, .int .i64 ls, .int .i64 cm] 49) := ⟨_, rfl⟩
  rw [← hy] at KA KE KR KO O1 O2 O3 O4 B
  have HY := Lib.hid hy
  clear hy
  have HS1 := Lib.hid (And.intro KA (And.intro KE (And.intro KR (And.intro KO (And.intro O1 (And.intro O2 (And.intro O3 (And.intro O4 B))))))))
  clear KA KE KR KO O1 O2 O3 O4 B
  go_wp2_with (first | (show wpList _ _ _ _ _ _; rw [← HY.out]; clear HY; obtain ⟨KA, KE, KR, KO, O1, O2, O3, O4, B⟩ := HS1.out; clear HS1; obtain ⟨qA_0, qA_1, qA_2, qA_3, qA_4, qA_5, qA_6, qA_7, qA_8, qA_9⟩ := town_cells KA; obtain ⟨qE_0, qE_1, qE_2, qE_3, qE_4, qE_5, qE_6, qE_7, qE_8⟩ := cells9 KE; obtain ⟨qR_0, qR_1, qR_2, qR_3, qR_4, qR_5, qR_6, qR_7, qR_8, qR_9⟩ := town_cells KR; obtain ⟨qO_0, qO_1, qO_2, qO_3, qO_4, qO_5, qO_6, qO_7, qO_8, qO_9⟩ := town_cells KO))
  clear qA_0 qA_1 qA_2 qA_3 qA_4 qA_5 qA_6 qA_7 qA_8 qA_9 qE_0 qE_1 qE_2 qE_3 qE_4 qE_5 qE_6 qE_7 qE_8 qR_0 qR_1 qR_2 qR_3 qR_4 qR_5 qR_6 qR_7 qR_8 qR_9 qO_0 qO_1 qO_2 qO_3 qO_4 qO_5 qO_6 qO_7 qO_8 qO_9
  have HT0 : TwO u2 w.heap.size ⟨bO1, kO1, bO2, kO2, bO3, kO3, bO4, kO4⟩ ⟨hs, ts, ns, r, hd, ac, rt, tm, ls, cm⟩ := ⟨own_rowF (zs := flatH hs) O1, HN.out.1, own_rowF (zs := flatTn ts) O2, HN.out.2.1, own_rowF (zs := flatNd ns) O3, HN.out.2.2.1, own_rowF (zs := flatAc ac) O4, HN.out.2.2.2⟩
  have HQ := HP.out _ _ _ _ _ _ _ _ _ HT0.is
  clear HP HT0
  refine HQ.mono ?_
  rintro e u3 ⟨C, m1, m2⟩
  clear HQ
  have hB2 := B.size
  replace KA := KA.next C
  replace KE := KE.next C
  replace KR := KR.next C
  replace KO := KO.next C
  replace O1 := rowN O1 C
  replace O2 := rowN O2 C
  replace O3 := rowN O3 C
  replace O4 := rowN O4 C
  replace B := bel_tr B C
  clear C
  cases hb : inB3 nu 0 500 with
  | false =>
    obtain rfl := m1 hb
    clear m1 m2 HV HL4 hB2
    have KSA := Lib.hid KO
    obtain ⟨qA_0, qA_1, qA_2, qA_3, qA_4, qA_5, qA_6, qA_7, qA_8, qA_9⟩ := town_cells KA
    obtain ⟨qE_0, qE_1, qE_2, qE_3, qE_4, qE_5, qE_6, qE_7, qE_8⟩ := cells9 KE
    obtain ⟨qR_0, qR_1, qR_2, qR_3, qR_4, qR_5, qR_6, qR_7, qR_8, qR_9⟩ := town_cells KR
    obtain ⟨qO_0, qO_1, qO_2, qO_3, qO_4, qO_5, qO_6, qO_7, qO_8, qO_9⟩ := town_cells KO
    obtain ⟨y2s, hy⟩ : ∃ y, y = sets10 u3 (u1.heap.size) (.slice bO1 hs.length kO1) (.slice bO2 ts.length kO2) (.slice bO3 ns.length kO3) (.int .i64 r) (.int .i64 hd) (.slice bO4 ac.length kO4) (.int .i64 rt) (.int .i64 tm) (.int .i64 ls) (.int .i64 cm) := ⟨_, rfl⟩
    replace O1 := X10r O1 KO hy (by decide)
    replace O2 := X10r O2 KO hy (by decide)
    replace O3 := X10r O3 KO hy (by decide)
    replace O4 := X10r O4 KO hy (by decide)
    replace KA := X10f KA hy (by omega)
    replace KE := X10f KE hy (by omega)
    replace KR := X10f KR hy (by omega)
    replace KO := X10b KO hy
    replace B := X10B B hy (by omega)
    have HY := Lib.hid hy
    clear hy
    have HS2 := Lib.hid (And.intro KA (And.intro KE (And.intro KR (And.intro KO (And.intro O1 (And.intro O2 (And.intro O3 (And.intro O4 B))))))))
    clear KA KE KR KO O1 O2 O3 O4 B
    go_wp2_with (first | (show wpList _ _ _ ({ dst := _, op := Op.store _ _ _, type := _, pos := _, after := _, guard := _ } :: _) _ _; refine wpList_store10 rfl _ _ _ rfl (u1.heap.size) _ _ _ _ _ _ _ _ _ _ rfl rfl KSA.out (by kernel_rfl) rfl ?_; rw [← HY.out]; clear KSA HY; clear qA_0 qA_1 qA_2 qA_3 qA_4 qA_5 qA_6 qA_7 qA_8 qA_9 qE_0 qE_1 qE_2 qE_3 qE_4 qE_5 qE_6 qE_7 qE_8 qR_0 qR_1 qR_2 qR_3 qR_4 qR_5 qR_6 qR_7 qR_8 qR_9 qO_0 qO_1 qO_2 qO_3 qO_4 qO_5 qO_6 qO_7 qO_8 qO_9; obtain ⟨KA, KE, KR, KO, O1, O2, O3, O4, B⟩ := HS2.out; clear HS2; have fr0 := KR.frozen 0; have fr1 := KR.frozen 1; have fr2 := KR.frozen 2; have fr3 := KR.frozen 3; have fr4 := KR.frozen 4; have fr5 := KR.frozen 5; have fr6 := KR.frozen 6; have fr7 := KR.frozen 7; have fr8 := KR.frozen 8; have fr9 := KR.frozen 9; obtain ⟨qA_0, qA_1, qA_2, qA_3, qA_4, qA_5, qA_6, qA_7, qA_8, qA_9⟩ := town_cells KA; obtain ⟨qE_0, qE_1, qE_2, qE_3, qE_4, qE_5, qE_6, qE_7, qE_8⟩ := cells9 KE; obtain ⟨qR_0, qR_1, qR_2, qR_3, qR_4, qR_5, qR_6, qR_7, qR_8, qR_9⟩ := town_cells KR; obtain ⟨qO_0, qO_1, qO_2, qO_3, qO_4, qO_5, qO_6, qO_7, qO_8, qO_9⟩ := town_cells KO; have HF := Lib.hid (And.intro KA (And.intro KE (And.intro KR (And.intro KO (And.intro O1 (And.intro O2 (And.intro O3 (And.intro O4 B)))))))); clear KA KE KR KO O1 O2 O3 O4 B))
    clear fr0 fr1 fr2 fr3 fr4 fr5 fr6 fr7 fr8 fr9
    clear qA_0 qA_1 qA_2 qA_3 qA_4 qA_5 qA_6 qA_7 qA_8 qA_9 qE_0 qE_1 qE_2 qE_3 qE_4 qE_5 qE_6 qE_7 qE_8 qR_0 qR_1 qR_2 qR_3 qR_4 qR_5 qR_6 qR_7 qR_8 qR_9 qO_0 qO_1 qO_2 qO_3 qO_4 qO_5 qO_6 qO_7 qO_8 qO_9
    obtain ⟨KA, KE, KR, KO, O1, O2, O3, O4, B⟩ := HF.out
    clear HF
    obtain ⟨uf, hy⟩ : ∃ y, y = sets10 y2s (w.heap.size + 1 + 1) (.slice none 0 0) (.slice none 0 0) (.slice none 0 0) (.int .i64 0) (.int .i64 0) (.slice none 0 0) (.int .i64 0) (.int .i64 0) (.int .i64 0) (.int .i64 0) := ⟨_, rfl⟩
    change bodyPost _ _ _ _ _ (sets10 _ _ _ _ _ _ _ _ _ _ _ _)
    rw [← hy]
    replace O1 := X10r O1 KR hy (by decide)
    replace O2 := X10r O2 KR hy (by decide)
    replace O3 := X10r O3 KR hy (by decide)
    replace O4 := X10r O4 KR hy (by decide)
    replace B := X10B B hy (by omega)
    have KOLD := KR
    replace KR := X10b KR hy
    clear KA
    clear KE
    clear KO
    clear KOLD hy
    obtain ⟨qR_0, qR_1, qR_2, qR_3, qR_4, qR_5, qR_6, qR_7, qR_8, qR_9⟩ := town_cells KR
    refine bodyPost_ret (v := .tuple #[.agg #[.slice none 0 0, .slice none 0 0, .slice none 0 0, .int .i64 0, .int .i64 0, .slice none 0 0, .int .i64 0, .int .i64 0, .int .i64 0, .int .i64 0], .bool false]) (by simp [results, Try.results171, go_sem, qR_0, qR_1, qR_2, qR_3, qR_4, qR_5, qR_6, qR_7, qR_8, qR_9]) rfl ⟨B, (fun _ => rfl), (fun c => Bool.noConfusion (hb.symm.trans c)), (fun c => Bool.noConfusion (hb.symm.trans c))⟩
  | true =>
    obtain ⟨a9, c9, rfl, OA⟩ := m2 hb
    unfold OwnAc at OA
    have OA := rowBase OA hB2
    clear m1 m2 hB2
    clear O4
    have KSA := Lib.hid KO
    obtain ⟨qA_0, qA_1, qA_2, qA_3, qA_4, qA_5, qA_6, qA_7, qA_8, qA_9⟩ := town_cells KA
    obtain ⟨qE_0, qE_1, qE_2, qE_3, qE_4, qE_5, qE_6, qE_7, qE_8⟩ := cells9 KE
    obtain ⟨qR_0, qR_1, qR_2, qR_3, qR_4, qR_5, qR_6, qR_7, qR_8, qR_9⟩ := town_cells KR
    obtain ⟨qO_0, qO_1, qO_2, qO_3, qO_4, qO_5, qO_6, qO_7, qO_8, qO_9⟩ := town_cells KO
    obtain ⟨y2s, hy⟩ : ∃ y, y = sets10 u3 (u1.heap.size) (.slice bO1 hs.length kO1) (.slice bO2 ts.length kO2) (.slice bO3 ns.length kO3) (.int .i64 r) (.int .i64 S5) (.slice a9 AA.length c9) (.int .i64 rt) (.int .i64 T5) (.int .i64 L5) (.int .i64 C5) := ⟨_, rfl⟩
    replace O1 := X10r O1 KO hy (by decide)
    replace O2 := X10r O2 KO hy (by decide)
    replace O3 := X10r O3 KO hy (by decide)
    replace OA := X10r OA KO hy (by decide)
    replace KA := X10f KA hy (by omega)
    replace KE := X10f KE hy (by omega)
    replace KR := X10f KR hy (by omega)
    replace KO := X10b KO hy
    replace B := X10B B hy (by omega)
    have HY := Lib.hid hy
    clear hy
    have HS2 := Lib.hid (And.intro KA (And.intro KE (And.intro KR (And.intro KO (And.intro O1 (And.intro O2 (And.intro O3 (And.intro OA B))))))))
    clear KA KE KR KO O1 O2 O3 OA B
    go_wp2_with (first | (show wpList _ _ _ ({ dst := _, op := Op.store _ _ _, type := _, pos := _, after := _, guard := _ } :: _) _ _; refine wpList_store10 rfl _ _ _ rfl (u1.heap.size) _ _ _ _ _ _ _ _ _ _ rfl rfl KSA.out (by kernel_rfl) rfl ?_; rw [← HY.out]; clear KSA HY; clear qA_0 qA_1 qA_2 qA_3 qA_4 qA_5 qA_6 qA_7 qA_8 qA_9 qE_0 qE_1 qE_2 qE_3 qE_4 qE_5 qE_6 qE_7 qE_8 qR_0 qR_1 qR_2 qR_3 qR_4 qR_5 qR_6 qR_7 qR_8 qR_9 qO_0 qO_1 qO_2 qO_3 qO_4 qO_5 qO_6 qO_7 qO_8 qO_9; obtain ⟨KA, KE, KR, KO, O1, O2, O3, OA, B⟩ := HS2.out; clear HS2; obtain ⟨qA_0, qA_1, qA_2, qA_3, qA_4, qA_5, qA_6, qA_7, qA_8, qA_9⟩ := town_cells KA; obtain ⟨qE_0, qE_1, qE_2, qE_3, qE_4, qE_5, qE_6, qE_7, qE_8⟩ := cells9 KE; obtain ⟨qR_0, qR_1, qR_2, qR_3, qR_4, qR_5, qR_6, qR_7, qR_8, qR_9⟩ := town_cells KR; obtain ⟨qO_0, qO_1, qO_2, qO_3, qO_4, qO_5, qO_6, qO_7, qO_8, qO_9⟩ := town_cells KO))
    clear qA_0 qA_1 qA_2 qA_3 qA_4 qA_5 qA_6 qA_7 qA_8 qA_9 qE_0 qE_1 qE_2 qE_3 qE_4 qE_5 qE_6 qE_7 qE_8 qR_0 qR_1 qR_2 qR_3 qR_4 qR_5 qR_6 qR_7 qR_8 qR_9 qO_0 qO_1 qO_2 qO_3 qO_4 qO_5 qO_6 qO_7 qO_8 qO_9
    have HT : TwO y2s w.heap.size ⟨bO1, kO1, bO2, kO2, bO3, kO3, a9, c9⟩ ⟨hs, ts, ns, r, S5, AA, rt, T5, L5, C5⟩ := ⟨own_rowF (zs := flatH hs) O1, HN.out.1, own_rowF (zs := flatTn ts) O2, HN.out.2.1, own_rowF (zs := flatNd ns) O3, HN.out.2.2.1, own_rowF (zs := flatAc AA) OA, HL4.out⟩
    have HW := HV.out _ _ HT.is
    clear HV HT
    obtain ⟨vb, hvb⟩ : ∃ vb, twB ⟨hs, ts, ns, r, S5, AA, rt, T5, L5, C5⟩ = vb := ⟨_, rfl⟩
    rw [hvb] at HW
    refine HW.mono ?_
    clear HW
    rintro e u5 ⟨rfl, C⟩
    replace KA := KA.next C
    replace KE := KE.next C
    replace KR := KR.next C
    replace KO := KO.next C
    replace O1 := rowN O1 C
    replace O2 := rowN O2 C
    replace O3 := rowN O3 C
    replace OA := rowN OA C
    replace B := bel_tr B C
    clear C
    cases vb with
    | false =>
      have fr0 := KR.frozen 0
      have fr1 := KR.frozen 1
      have fr2 := KR.frozen 2
      have fr3 := KR.frozen 3
      have fr4 := KR.frozen 4
      have fr5 := KR.frozen 5
      have fr6 := KR.frozen 6
      have fr7 := KR.frozen 7
      have fr8 := KR.frozen 8
      have fr9 := KR.frozen 9
      obtain ⟨qA_0, qA_1, qA_2, qA_3, qA_4, qA_5, qA_6, qA_7, qA_8, qA_9⟩ := town_cells KA
      obtain ⟨qE_0, qE_1, qE_2, qE_3, qE_4, qE_5, qE_6, qE_7, qE_8⟩ := cells9 KE
      obtain ⟨qR_0, qR_1, qR_2, qR_3, qR_4, qR_5, qR_6, qR_7, qR_8, qR_9⟩ := town_cells KR
      obtain ⟨qO_0, qO_1, qO_2, qO_3, qO_4, qO_5, qO_6, qO_7, qO_8, qO_9⟩ := town_cells KO
      have HF := Lib.hid (And.intro KA (And.intro KE (And.intro KR (And.intro KO (And.intro O1 (And.intro O2 (And.intro O3 (And.intro OA B))))))))
      clear KA KE KR KO O1 O2 O3 OA B
      go_wp2_with fail
      clear fr0 fr1 fr2 fr3 fr4 fr5 fr6 fr7 fr8 fr9
      clear qA_0 qA_1 qA_2 qA_3 qA_4 qA_5 qA_6 qA_7 qA_8 qA_9 qE_0 qE_1 qE_2 qE_3 qE_4 qE_5 qE_6 qE_7 qE_8 qR_0 qR_1 qR_2 qR_3 qR_4 qR_5 qR_6 qR_7 qR_8 qR_9 qO_0 qO_1 qO_2 qO_3 qO_4 qO_5 qO_6 qO_7 qO_8 qO_9
      obtain ⟨KA, KE, KR, KO, O1, O2, O3, OA, B⟩ := HF.out
      clear HF
      obtain ⟨uf, hy⟩ : ∃ y, y = sets10 u5 (w.heap.size + 1 + 1) (.slice none 0 0) (.slice none 0 0) (.slice none 0 0) (.int .i64 0) (.int .i64 0) (.slice none 0 0) (.int .i64 0) (.int .i64 0) (.int .i64 0) (.int .i64 0) := ⟨_, rfl⟩
      change bodyPost _ _ _ _ _ (sets10 _ _ _ _ _ _ _ _ _ _ _ _)
      rw [← hy]
      replace O1 := X10r O1 KR hy (by decide)
      replace O2 := X10r O2 KR hy (by decide)
      replace O3 := X10r O3 KR hy (by decide)
      replace OA := X10r OA KR hy (by decide)
      replace B := X10B B hy (by omega)
      have KOLD := KR
      replace KR := X10b KR hy
      clear KA
      clear KE
      clear KO
      clear KOLD hy
      obtain ⟨qR_0, qR_1, qR_2, qR_3, qR_4, qR_5, qR_6, qR_7, qR_8, qR_9⟩ := town_cells KR
      refine bodyPost_ret (v := .tuple #[.agg #[.slice none 0 0, .slice none 0 0, .slice none 0 0, .int .i64 0, .int .i64 0, .slice none 0 0, .int .i64 0, .int .i64 0, .int .i64 0, .int .i64 0], .bool false]) (by simp [results, Try.results171, go_sem, qR_0, qR_1, qR_2, qR_3, qR_4, qR_5, qR_6, qR_7, qR_8, qR_9]) rfl ⟨B, (fun c => Bool.noConfusion (hb.symm.trans c)), (fun _ _ => rfl), (fun _ c => Bool.noConfusion (hvb.symm.trans c))⟩
    | true =>
      have fr0 := KR.frozen 0
      have fr1 := KR.frozen 1
      have fr2 := KR.frozen 2
      have fr3 := KR.frozen 3
      have fr4 := KR.frozen 4
      have fr5 := KR.frozen 5
      have fr6 := KR.frozen 6
      have fr7 := KR.frozen 7
      have fr8 := KR.frozen 8
      have fr9 := KR.frozen 9
      obtain ⟨qA_0, qA_1, qA_2, qA_3, qA_4, qA_5, qA_6, qA_7, qA_8, qA_9⟩ := town_cells KA
      obtain ⟨qE_0, qE_1, qE_2, qE_3, qE_4, qE_5, qE_6, qE_7, qE_8⟩ := cells9 KE
      obtain ⟨qR_0, qR_1, qR_2, qR_3, qR_4, qR_5, qR_6, qR_7, qR_8, qR_9⟩ := town_cells KR
      obtain ⟨qO_0, qO_1, qO_2, qO_3, qO_4, qO_5, qO_6, qO_7, qO_8, qO_9⟩ := town_cells KO
      have HF := Lib.hid (And.intro KA (And.intro KE (And.intro KR (And.intro KO (And.intro O1 (And.intro O2 (And.intro O3 (And.intro OA B))))))))
      clear KA KE KR KO O1 O2 O3 OA B
      go_wp2_with fail
      clear fr0 fr1 fr2 fr3 fr4 fr5 fr6 fr7 fr8 fr9
      clear qA_0 qA_1 qA_2 qA_3 qA_4 qA_5 qA_6 qA_7 qA_8 qA_9 qE_0 qE_1 qE_2 qE_3 qE_4 qE_5 qE_6 qE_7 qE_8 qR_0 qR_1 qR_2 qR_3 qR_4 qR_5 qR_6 qR_7 qR_8 qR_9 qO_0 qO_1 qO_2 qO_3 qO_4 qO_5 qO_6 qO_7 qO_8 qO_9
      obtain ⟨KA, KE, KR, KO, O1, O2, O3, OA, B⟩ := HF.out
      clear HF
      obtain ⟨uf, hy⟩ : ∃ y, y = sets10 u5 (w.heap.size + 1 + 1) (.slice bO1 hs.length kO1) (.slice bO2 ts.length kO2) (.slice bO3 ns.length kO3) (.int .i64 r) (.int .i64 S5) (.slice a9 AA.length c9) (.int .i64 rt) (.int .i64 T5) (.int .i64 L5) (.int .i64 C5) := ⟨_, rfl⟩
      change bodyPost _ _ _ _ _ (sets10 _ _ _ _ _ _ _ _ _ _ _ _)
      rw [← hy]
      replace O1 := X10r O1 KR hy (by decide)
      replace O2 := X10r O2 KR hy (by decide)
      replace O3 := X10r O3 KR hy (by decide)
      replace OA := X10r OA KR hy (by decide)
      replace B := X10B B hy (by omega)
      have KOLD := KR
      replace KR := X10b KR hy
      clear KA
      clear KE
      clear KO
      clear KOLD hy
      obtain ⟨qR_0, qR_1, qR_2, qR_3, qR_4, qR_5, qR_6, qR_7, qR_8, qR_9⟩ := town_cells KR
      refine bodyPost_ret (v := .tuple #[.agg #[.slice bO1 hs.length kO1, .slice bO2 ts.length kO2, .slice bO3 ns.length kO3, .int .i64 r, .int .i64 S5, .slice a9 AA.length c9, .int .i64 rt, .int .i64 T5, .int .i64 L5, .int .i64 C5], .bool true]) (by simp [results, Try.results171, go_sem, qR_0, qR_1, qR_2, qR_3, qR_4, qR_5, qR_6, qR_7, qR_8, qR_9]) rfl ⟨B, (fun c => Bool.noConfusion (hb.symm.trans c)), (fun _ c => Bool.noConfusion (hvb.symm.trans c)), fun _ _ => ⟨⟨bO1, kO1, bO2, kO2, bO3, kO3, a9, c9⟩, rfl, ⟨own_rowF (zs := flatH hs) O1, HN.out.1, own_rowF (zs := flatTn ts) O2, HN.out.2.1, own_rowF (zs := flatNd ns) O3, HN.out.2.2.1, own_rowF (zs := flatAc AA) OA, HL4.out⟩⟩⟩
/-- spec.applyEvent: no event -/
theorem ssa6 (a1 a2 a3 a4 : Option Addr) (c1 c2 c3 c4 : Nat) (hs : List Hd) (ts : List Tn) (ns : List Nd) (r hd : Int) (ac : List Ac) (rt tm ls cm : Int) (k dk o tt n d : Int) (A : Option Addr) (zs : List Int) (cz : Nat) (at_ nu : Int) (w : World) (h : IsTw w ⟨a1, c1, a2, c2, a3, c3, a4, c4⟩ ⟨hs, ts, ns, r, hd, ac, rt, tm, ls, cm⟩) (h0 : k ≠ 0) (h1 : k ≠ 1) (h2 : k ≠ 2) (h3 : k ≠ 3) (h4 : k ≠ 4) (h5 : k ≠ 5) :
    Calls Try.prog 171 #[.agg #[.slice a1 hs.length c1, .slice a2 ts.length c2, .slice a3 ns.length c3, .int .i64 r, .int .i64 hd, .slice a4 ac.length c4, .int .i64 rt, .int .i64 tm, .int .i64 ls, .int .i64 cm], .agg #[.int .i64 k, .int .i64 dk, .int .i64 o, .int .i64 tt, .int .i64 n, .int .i64 d, .slice A zs.length cz, .int .i64 at_, .int .i64 nu]] w fun e w' => Below w.heap.size w w' ∧ e = .returned (.tuple #[.agg #[.slice none 0 0, .slice none 0 0, .slice none 0 0, .int .i64 0, .int .i64 0, .slice none 0 0, .int .i64 0, .int .i64 0, .int .i64 0, .int .i64 0], .bool false]) := by
  have HI := Lib.hid (fun W (hW : Below w.heap.size w W) => tw_below h hW)
  obtain ⟨_, _, _, _, n1, n2, n3, n4, k1, k2, k3, k4⟩ := h
  dsimp only at n1 n2 n3 n4 k1 k2 k3 k4
  have e0 : (k == 0) = false := by simp [h0]
  have e1 : (k == 1) = false := by simp [h1]
  have e2 : (k == 2) = false := by simp [h2]
  have e3 : (k == 3) = false := by simp [h3]
  have e4 : (k == 4) = false := by simp [h4]
  have e5 : (k == 5) = false := by simp [h5]
  clear n1 n2 n3 n4 k1 k2 k3 k4
  go_enter Try.func171, Try.ntmps171
  obtain ⟨u0, hy, KA, KE, KR, B⟩ := three w 49 63 49 #[.slice a1 hs.length c1, .slice a2 ts.length c2, .slice a3 ns.length c3, .int .i64 r, .int .i64 hd, .slice a4 ac.length c4, .int .i64 rt, .int .i64 tm, .int .i64 ls, .int .i64 cm] #[.int .i64 k, .int .i64 dk, .int .i64 o, .int .i64 tt, .int .i64 n, .int .i64 d, .slice A zs.length cz, .int .i64 at_, .int .i64 nu] #[.slice none 0 0, .slice none 0 0, .slice none 0 0, .int .i64 0, .int .i64 0, .slice none 0 0, .int .i64 0, .int .i64 0, .int .i64 0, .int .i64 0]
  have HY := Lib.hid hy
  clear hy
  have HS0 := Lib.hid (And.intro KA (And.intro KE (And.intro KR B)))
  clear KA KE KR B
  go_wp2_with (first | (show wpList _ _ _ _ _ _; rw [← HY.out]; clear HY; obtain ⟨KA, KE, KR, B⟩ := HS0.out; clear HS0; obtain ⟨qA_0, qA_1, qA_2, qA_3, qA_4, qA_5, qA_6, qA_7, qA_8, qA_9⟩ := town_cells KA; obtain ⟨qE_0, qE_1, qE_2, qE_3, qE_4, qE_5, qE_6, qE_7, qE_8⟩ := cells9 KE; obtain ⟨qR_0, qR_1, qR_2, qR_3, qR_4, qR_5, qR_6, qR_7, qR_8, qR_9⟩ := town_cells KR))
  refine (scopyTw ⟨a1, c1, a2, c2, a3, c3, a4, c4⟩ ⟨hs, ts, ns, r, hd, ac, rt, tm, ls, cm⟩ _ (HI.out _ B)).mono ?_
  rintro e u1 ⟨⟨bO1, kO1, bO2, kO2, bO3, kO3, bO4, kO4⟩, he, G, C⟩
  change e = .returned (.agg #[.slice bO1 hs.length kO1, .slice bO2 ts.length kO2, .slice bO3 ns.length kO3, .int .i64 r, .int .i64 hd, .slice bO4 ac.length kO4, .int .i64 rt, .int .i64 tm, .int .i64 ls, .int .i64 cm]) at he
  subst he
  clear qA_0 qA_1 qA_2 qA_3 qA_4 qA_5 qA_6 qA_7 qA_8 qA_9 qE_0 qE_1 qE_2 qE_3 qE_4 qE_5 qE_6 qE_7 qE_8 qR_0 qR_1 qR_2 qR_3 qR_4 qR_5 qR_6 qR_7 qR_8 qR_9
  have hB0 := B.size
  replace KA := KA.next C
  replace KE := KE.next C
  replace KR := KR.next C
  replace B := bel_tr B C
  clear C
  have O1 := rowBase G.g1 hB0
  have O2 := rowBase G.g2 hB0
  have O3 := rowBase G.g3 hB0
  have O4 := rowBase G.g4 hB0
  dsimp only at O1 O2 O3 O4
  clear G hB0
  have hsz : w.heap.size + 1 + 1 < u1.heap.size := KR.lt
  have CA := (Below.refl _ u1).alloc (Nat.le_refl _) (.cells #[.slice bO1 hs.length kO1, .slice bO2 ts.length kO2, .slice bO3 ns.length kO3, .int .i64 r, .int .i64 hd, .slice bO4 ac.length kO4, .int .i64 rt, .int .i64 tm, .int .i64 ls, .int .i64 cm] 49)
  replace KA := KA.alloc (.cells #[.slice bO1 hs.length kO1, .slice bO2 ts.length kO2, .slice bO3 ns.length kO3, .int .i64 r, .int .i64 hd, .slice bO4 ac.length kO4, .int .i64 rt, .int .i64 tm, .int .i64 ls, .int .i64 cm] 49)
  replace KE := KE.alloc (.cells #[.slice bO1 hs.length kO1, .slice bO2 ts.length kO2, .slice bO3 ns.length kO3, .int .i64 r, .int .i64 hd, .slice bO4 ac.length kO4, .int .i64 rt, .int .i64 tm, .int .i64 ls, .int .i64 cm] 49)
  replace KR := KR.alloc (.cells #[.slice bO1 hs.length kO1, .slice bO2 ts.length kO2, .slice bO3 ns.length kO3, .int .i64 r, .int .i64 hd, .slice bO4 ac.length kO4, .int .i64 rt, .int .i64 tm, .int .i64 ls, .int .i64 cm] 49)
  replace O1 := rowN O1 CA
  replace O2 := rowN O2 CA
  replace O3 := rowN O3 CA
  replace O4 := rowN O4 CA
  have KO := Blk.new u1 49 #[.slice bO1 hs.length kO1, .slice bO2 ts.length kO2, .slice bO3 ns.length kO3, .int .i64 r, .int .i64 hd, .slice bO4 ac.length kO4, .int .i64 rt, .int .i64 tm, .int .i64 ls, .int .i64 cm]
  replace B := B.alloc B.size (.cells #[.slice bO1 hs.length kO1, .slice bO2 ts.length kO2, .slice bO3 ns.length kO3, .int .i64 r, .int .i64 hd, .slice bO4 ac.length kO4, .int .i64 rt, .int .i64 tm, .int .i64 ls, .int .i64 cm] 49)
  clear CA
  clear HI
  obtain ⟨u2, hy⟩ : ∃ y, y = u1.alloc (.cells #[.slice bO1 hs.length kO1, .slice bO2 ts.length kO2, .slice bO3 ns.length kO3, .int .i64 r, .int .i64 hd, .slice bO4 ac.length kO4, .int .i64 rt, .int .i64 tm, .int .i64 ls, .int .i64 cm] 49) := ⟨_, rfl⟩
  rw [← hy] at KA KE KR KO O1 O2 O3 O4 B
  have HY := Lib.hid hy
  clear hy
  have HS1 := Lib.hid (And.intro KA (And.intro KE (And.intro KR (And.intro KO (And.intro O1 (And.intro O2 (And.intro O3 (And.intro O4 B))))))))
  clear KA KE KR KO O1 O2 O3 O4 B
  go_wp2_with (first | (show wpList _ _ _ _ _ _; rw [← HY.out]; clear HY; obtain ⟨KA, KE, KR, KO, O1, O2, O3, O4, B⟩ := HS1.out; clear HS1; have fr0 := KR.frozen 0; have fr1 := KR.frozen 1; have fr2 := KR.frozen 2; have fr3 := KR.frozen 3; have fr4 := KR.frozen 4; have fr5 := KR.frozen 5; have fr6 := KR.frozen 6; have fr7 := KR.frozen 7; have fr8 := KR.frozen 8; have fr9 := KR.frozen 9; obtain ⟨qA_0, qA_1, qA_2, qA_3, qA_4, qA_5, qA_6, qA_7, qA_8, qA_9⟩ := town_cells KA; obtain ⟨qE_0, qE_1, qE_2, qE_3, qE_4, qE_5, qE_6, qE_7, qE_8⟩ := cells9 KE; obtain ⟨qR_0, qR_1, qR_2, qR_3, qR_4, qR_5, qR_6, qR_7, qR_8, qR_9⟩ := town_cells KR; obtain ⟨qO_0, qO_1, qO_2, qO_3, qO_4, qO_5, qO_6, qO_7, qO_8, qO_9⟩ := town_cells KO; have HF := Lib.hid (And.intro KA (And.intro KE (And.intro KR (And.intro KO (And.intro O1 (And.intro O2 (And.intro O3 (And.intro O4 B)))))))); clear KA KE KR KO O1 O2 O3 O4 B))
  clear fr0 fr1 fr2 fr3 fr4 fr5 fr6 fr7 fr8 fr9
  clear qA_0 qA_1 qA_2 qA_3 qA_4 qA_5 qA_6 qA_7 qA_8 qA_9 qE_0 qE_1 qE_2 qE_3 qE_4 qE_5 qE_6 qE_7 qE_8 qR_0 qR_1 qR_2 qR_3 qR_4 qR_5 qR_6 qR_7 qR_8 qR_9 qO_0 qO_1 qO_2 qO_3 qO_4 qO_5 qO_6 qO_7 qO_8 qO_9
  obtain ⟨KA, KE, KR, KO, O1, O2, O3, O4, B⟩ := HF.out
  clear HF
  obtain ⟨uf, hy⟩ : ∃ y, y = sets10 u2 (w.heap.size + 1 + 1) (.slice none 0 0) (.slice none 0 0) (.slice none 0 0) (.int .i64 0) (.int .i64 0) (.slice none 0 0) (.int .i64 0) (.int .i64 0) (.int .i64 0) (.int .i64 0) := ⟨_, rfl⟩
  change bodyPost _ _ _ _ _ (sets10 _ _ _ _ _ _ _ _ _ _ _ _)
  rw [← hy]
  replace O1 := X10r O1 KR hy (by decide)
  replace O2 := X10r O2 KR hy (by decide)
  replace O3 := X10r O3 KR hy (by decide)
  replace O4 := X10r O4 KR hy (by decide)
  replace B := X10B B hy (by omega)
  have KOLD := KR
  replace KR := X10b KR hy
  clear KA
  clear KE
  clear KO
  clear KOLD hy
  obtain ⟨qR_0, qR_1, qR_2, qR_3, qR_4, qR_5, qR_6, qR_7, qR_8, qR_9⟩ := town_cells KR
  refine bodyPost_ret (v := .tuple #[.agg #[.slice none 0 0, .slice none 0 0, .slice none 0 0, .int .i64 0, .int .i64 0, .slice none 0 0, .int .i64 0, .int .i64 0, .int .i64 0, .int .i64 0], .bool false]) (by simp [results, Try.results171, go_sem, qR_0, qR_1, qR_2, qR_3, qR_4, qR_5, qR_6, qR_7, qR_8, qR_9]) rfl ⟨B, rfl⟩
end Go.Proofs.Ytaehemmjemhgpaa
