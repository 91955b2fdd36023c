/- For every input the law answers true, and its argument reads afterwards as before: the plots chosen for sure flows need no more than these. No condition. -/
import Derived.Test.YtigapnbpgbfbhacRows
import Derived.Test.YtigapnbpgbfbhacDrawBb
import Derived.Test.YtigapnbpgbfbhacEqI
import Derived.Test.YtigapnbpgbfbhacRunX
import Derived.Test.YtigapnbpgbfbhacBasQ
import Derived.Test.YtigapnbpgbfbhacBis
import Derived.Test.YtigapnbpgbfbhacLawBa
import Derived.Test.YtigapnbpgbfbhacPloT
import Derived.Test.YtigapnbpgbfbhacPloQ
import Derived.WalkKit
import Derived.Deep.RegionHeld3
import Derived.Deep.DeepCutAuto
import Derived.Deep.QuietTactic
import Derived.BigQuiet
import Derived.ProofKit
import Derived.OpenShut
import Derived.ShutString
import Derived.ChangeOld
import Derived.Below
import Derived.Lib.SmallJoins
namespace Go.Proofs.Ytigapnbpgbfbhac.fnSureFlowPlots
open Go.ChangeShapes Go.WideShapes Go.ChangeAt Go.RowKit Go.Joins
open Go.ChangeMaps (open_string shut_string)
set_option linter.unusedVariables false
set_option linter.unusedSimpArgs false

theorem own : ownKnob Try.prog.godebug = none := by kernel_rfl
theorem laidOut : laidOutB Try.prog = true := by kernel_rfl

def ps4 : List Pl := [(5, 10), (7, 15), (2, 3), (20, 42)]
theorem vp4 : vpB ps4 = true := by decide
theorem plots4 (w : World) : IsPl (w.alloc (.cells #[.int .i64 5, .int .i64 10, .int .i64 7, .int .i64 15, .int .i64 2, .int .i64 3, .int .i64 20, .int .i64 42] 45)) (some ⟨w.heap.size, 0, none⟩) ps4 := by
  have K := Blk.new w 45 #[.int .i64 5, .int .i64 10, .int .i64 7, .int .i64 15, .int .i64 2, .int .i64 3, .int .i64 20, .int .i64 42]
  refine .inr ⟨w.heap.size, 0, rfl, fun i hi => ?_⟩
  match i, hi with
  | 0, _ => exact ⟨(K.cell 0).trans rfl, (K.cell 1).trans rfl⟩
  | 1, _ => exact ⟨(K.cell 2).trans rfl, (K.cell 3).trans rfl⟩
  | 2, _ => exact ⟨(K.cell 4).trans rfl, (K.cell 5).trans rfl⟩
  | 3, _ => exact ⟨(K.cell 6).trans rfl, (K.cell 7).trans rfl⟩
  | n + 4, h => exact absurd h (by show ¬ n + 4 < 4; omega)
theorem own_capQ {w : World} {base n c : Nat} {b : Option Addr} {zs : List Int} (h : OwnI w base (.slice b n c) zs) : n ≤ c := by
  rcases h.2 with ⟨hv, hn⟩ | ⟨g', cap', cur, hv, hg, hb, hc, _⟩
  · injection hv with e1 e2 e3; omega
  · injection hv with e1 e2 e3; omega
theorem harvest {r h o : Int} {cs : List Int} (hv : sureV r h cs = o) (a1 : 0 ≤ o) (a2 : o ≤ 500) (e2 : shortB r h (hrs cs (List.replicate cs.length o)) = 0) : ∃ (S : List Int) (N Y : Int), bpV ps4 o = S ∧ S.length ≤ 4 ∧ pnN ps4 S = N ∧ pnY ps4 S = Y ∧ byV ps4 o = Y ∧ 0 ≤ N ∧ N ≤ o ∧ runBa r h cs (List.replicate cs.length N) = true ∧ shortB r h (hrs cs (List.replicate cs.length N)) = 0 := by
  obtain ⟨M, hM⟩ : ∃ M : Nat, o = (M : Int) := ⟨o.toNat, by omega⟩
  subst hM
  have hw : wpB ps4 (M : Int) = true := wp_yes vp4 a1 a2
  obtain ⟨f1, f2, f3, f4⟩ := sel_facts vp4 ps4.length M (Nat.le_refl _)
  have hp := sel_pn vp4 M
  have hb := (ptsum_bd vp4 (selTo ps4 ps4.length M) (fun z hz => by have := f3 z hz; omega)).1.1
  refine ⟨selTo ps4 ps4.length M, needS ps4 (selTo ps4 ps4.length M), yldS ps4 (selTo ps4 ps4.length M), bpV_yes hw, sel_len _ _ _, (pn_val hp).1, (pn_val hp).2, by rw [byV_yes hw, f2], hb, f1, ?_⟩
  have e : vbB r h = true ∧ vfl cs = true := by
    unfold sureV at hv
    cases q : vbB r h && vfl cs with
    | false => rw [q] at hv; simp at hv <;> omega
    | true => rw [Bool.and_eq_true] at q; exact q
  exact ⟨flow_run e.1 e.2 hb (by omega), of_decide_eq_true (flow_dn e.1 e.2 hb f1 (show flowOk r h cs (M : Int) = true from decide_eq_true e2))⟩

set_option maxRecDepth 100000 in
set_option maxHeartbeats 8000000 in
theorem walk (a0 : Option Addr) (len0 cap0 : Nat) (z0 : List Int) (w : World) (w0 : IsRow .u8 w a0 len0 cap0 z0) :
    Calls Try.prog 11 #[.slice a0 len0 cap0] w fun e w' => e = .returned (.bool true) ∧ Below w.heap.size w w' := by
  by_cases big : (1048576 : Int) < (len0 : Int)
  · go_enter Try.func11, Try.ntmps11
    go_wp2
    go_ret
    exact ⟨rfl, Below.refl _ _⟩
  go_enter Try.func11, Try.ntmps11
  go_wp2_with fail
  refine (drawSure a0 len0 cap0 z0 _ w0).mono ?_
  rintro e u1 ⟨r, h, b1, c1, cs, rfl, ⟨r0, r1, h0, h1⟩, ⟨lc, hcs, I1, p1⟩, B⟩
  clear w0 big
  have nc : cs.length ≤ 1048576 := by omega
  have CI : Hid (∀ (W : World), IsInts W b1 cs → Calls Try.prog 36 #[.agg #[.int .i64 r, .int .i64 h], .slice b1 cs.length c1] W fun e w' => e = .returned (.int .i64 (sureV r h cs)) ∧ Below W.heap.size W w') := fun W h1 => iSure r h b1 c1 cs W h1 nc
  have CS : Hid (∀ (W : World), IsInts W b1 cs → Calls Try.prog 37 #[.agg #[.int .i64 r, .int .i64 h], .slice b1 cs.length c1] W fun e w' => e = .returned (.int .i64 (sureV r h cs)) ∧ Below W.heap.size W w') := fun W h1 => sSure r h b1 c1 cs W h1 nc
  have SI : Hid (∀ (LL : List Int) (bq : Option Addr) (cq : Nat) (W : World), LL.length = cs.length → runBa r h cs LL = true → IsInts W b1 cs → IsInts W bq LL → Calls Try.prog 38 #[.agg #[.int .i64 r, .int .i64 h], .slice b1 cs.length c1, .slice bq cs.length cq] W fun e w' => e = .returned (.int .i64 (shortB r h (hrs cs LL))) ∧ Below W.heap.size W w') := fun LL bq cq W hl hr h1 h2 => by
    have := iShort r h b1 bq c1 cq cs LL W h1 h2 nc (by rw [hl]; exact nc)
    rw [(short_at hr).1, hl] at this; exact this
  have K := Blk.new u1 51 #[.int .i64 r, .int .i64 h]
  replace B := B.alloc B.size (.cells #[.int .i64 r, .int .i64 h] 51)
  replace I1 := ints_below I1 ((Below.refl _ u1).alloc (Nat.le_refl _) (.cells #[.int .i64 r, .int .i64 h] 51))
  clear hcs
  by_cases hn : sureV r h cs < 0
  · have e0 : decide (sureV r h cs < 0) = true := decide_eq_true hn
    clear SI hn
    generalize sureV r h cs = v at *
    obtain ⟨f0K, f1K, f2K, f3K, f4K⟩ := blk_two K
    go_wp2_with fail
    clear f0K f1K f2K f3K f4K
    refine (CI.out _ I1).mono ?_
    rintro e u2_ ⟨rfl, C⟩
    replace B := bel_tr B C
    replace I1 := ints_below I1 C
    replace K := K.next C
    clear C
    obtain ⟨f0K, f1K, f2K, f3K, f4K⟩ := blk_two K
    go_wp2_with fail
    clear f0K f1K f2K f3K f4K
    refine (CS.out _ I1).mono ?_
    rintro e u3_ ⟨rfl, C⟩
    replace B := bel_tr B C
    replace I1 := ints_below I1 C
    replace K := K.next C
    clear C
    obtain ⟨f0K, f1K, f2K, f3K, f4K⟩ := blk_two K
    go_wp2_with fail
    clear f0K f1K f2K f3K f4K
    refine (CS.out _ I1).mono ?_
    rintro e u4_ ⟨rfl, C⟩
    replace B := bel_tr B C
    replace I1 := ints_below I1 C
    replace K := K.next C
    clear C
    obtain ⟨f0K, f1K, f2K, f3K, f4K⟩ := blk_two K
    go_wp2_with fail
    clear f0K f1K f2K f3K f4K
    go_ret
    exact ⟨rfl, B⟩
  obtain ⟨o, hv, a1, a2, e1, e2, e3⟩ := sure_is hn
  obtain ⟨S, N, Y, hS, hSl, hN, hY, hby, N0, N1, e4, e5⟩ := harvest hv a1 a2 e2
  rw [hv] at CI CS
  have e0 : decide (o < 0) = false := decide_eq_false (by omega)
  have HBP : Hid (∀ (W : World) (g : Nat), IsPl W (some ⟨g, 0, none⟩) ps4 → Calls Try.prog 20 #[.slice (some ⟨g, 0, none⟩) 4 4, .int .i64 o] W (OutI W S)) := fun W g hp => by rw [← hS]; exact iBP (some ⟨g, 0, none⟩) 4 ps4 o W hp (by show 4 ≤ 1048576; omega) (Nat.le_refl 4)
  have HPN : Hid (∀ (W : World) (g c : Nat) (b : Option Addr), S.length ≤ c → IsPl W (some ⟨g, 0, none⟩) ps4 → IsInts W b S → Calls Try.prog 27 #[.slice (some ⟨g, 0, none⟩) 4 4, .slice b S.length c] W fun e w' => e = .returned (.tuple #[.int .i64 N, .int .i64 Y]) ∧ Below W.heap.size W w') := fun W g c b hc hp hi => by rw [← hN, ← hY]; exact iPN (some ⟨g, 0, none⟩) b 4 c ps4 S W hp hi (by show 4 ≤ 1048576; omega) (by omega) hc
  have HBY : Hid (∀ (W : World) (g : Nat), IsPl W (some ⟨g, 0, none⟩) ps4 → Calls Try.prog 18 #[.slice (some ⟨g, 0, none⟩) 4 4, .int .i64 o] W fun e w' => e = .returned (.int .i64 Y) ∧ Below W.heap.size W w') := fun W g hp => by rw [← hby]; exact iBY (some ⟨g, 0, none⟩) 4 ps4 o W hp (by show 4 ≤ 1048576; omega)
  obtain ⟨L1, hL1⟩ : ∃ L1, List.replicate cs.length N = L1 := ⟨_, rfl⟩
  have HL1 : Hid (L1.length = cs.length) := by show _ = _; rw [← hL1]; simp
  rw [hL1] at e4 e5
  have HE1 := Lib.hid hL1
  have HF1 := Lib.hid e4
  have HZ1 := Lib.hid e5
  have dN0 : decide (0 ≤ N) = true := decide_eq_true N0
  have dN1 : decide (N ≤ o) = true := decide_eq_true N1
  clear hL1 e1 e2 e3 e4 e5 hn hv hS hN hY hby
  have k0 : (0 : Int) ≤ (cs.length : Int) := by omega
  obtain ⟨f0K, f1K, f2K, f3K, f4K⟩ := blk_two K
  go_wp2_with fail
  clear f0K f1K f2K f3K f4K
  refine (CI.out _ I1).mono ?_
  rintro e u2_ ⟨rfl, C⟩
  replace B := bel_tr B C
  replace I1 := ints_below I1 C
  replace K := K.next C
  clear C
  obtain ⟨f0K, f1K, f2K, f3K, f4K⟩ := blk_two K
  go_wp2_with fail
  clear f0K f1K f2K f3K f4K
  refine (CS.out _ I1).mono ?_
  rintro e u3_ ⟨rfl, C⟩
  replace B := bel_tr B C
  replace I1 := ints_below I1 C
  replace K := K.next C
  clear C
  obtain ⟨f0K, f1K, f2K, f3K, f4K⟩ := blk_two K
  go_wp2_with fail
  clear f0K f1K f2K f3K f4K
  have PL := plots4 u3_
  replace B := B.alloc B.size (.cells #[.int .i64 5, .int .i64 10, .int .i64 7, .int .i64 15, .int .i64 2, .int .i64 3, .int .i64 20, .int .i64 42] 45)
  replace I1 := ints_below I1 ((Below.refl _ u3_).alloc (Nat.le_refl _) (.cells #[.int .i64 5, .int .i64 10, .int .i64 7, .int .i64 15, .int .i64 2, .int .i64 3, .int .i64 20, .int .i64 42] 45))
  replace K := K.alloc (.cells #[.int .i64 5, .int .i64 10, .int .i64 7, .int .i64 15, .int .i64 2, .int .i64 3, .int .i64 20, .int .i64 42] 45)
  generalize u3_.alloc (.cells #[.int .i64 5, .int .i64 10, .int .i64 7, .int .i64 15, .int .i64 2, .int .i64 3, .int .i64 20, .int .i64 42] 45) = u9 at *
  generalize u3_.heap.size = gp at *
  refine (HBP.out _ _ PL).mono ?_
  rintro e u10_ ⟨vS, rfl, OS, C⟩
  obtain ⟨bS, cS, rfl, IS⟩ := OS.ints
  have hcS := own_capQ OS
  clear OS
  replace PL := pl_below PL C
  replace B := bel_tr B C
  replace I1 := ints_below I1 C
  replace K := K.next C
  clear C
  obtain ⟨f0K, f1K, f2K, f3K, f4K⟩ := blk_two K
  go_wp2_with fail
  clear f0K f1K f2K f3K f4K
  refine (HPN.out _ _ _ _ hcS PL IS).mono ?_
  rintro e u11_ ⟨rfl, C⟩
  replace PL := pl_below PL C
  clear IS hcS
  replace B := bel_tr B C
  replace I1 := ints_below I1 C
  replace K := K.next C
  clear C
  obtain ⟨f0K, f1K, f2K, f3K, f4K⟩ := blk_two K
  go_wp2_with fail
  clear f0K f1K f2K f3K f4K
  obtain ⟨f0K, f1K, f2K, f3K, f4K⟩ := blk_two K
  have HMK1 := Lib.hid (fun (W : World) (hW : Below u11_.heap.size u11_ W) => (⟨⟨(hW.cell (p := ⟨u1.heap.size, 0, none⟩) (f4K)).trans f0K, (hW.cell (p := ⟨u1.heap.size, 1, none⟩) (f4K)).trans f1K⟩, hW⟩ : (W.cell? ⟨u1.heap.size, 0, none⟩ = some (.int .i64 r) ∧ W.cell? ⟨u1.heap.size, 1, none⟩ = some (.int .i64 h)) ∧ Below u11_.heap.size u11_ W))
  refine wp_region_held_drew (S := (fun w' => (w'.cell? ⟨u1.heap.size, 0, none⟩ = some (.int .i64 r) ∧ w'.cell? ⟨u1.heap.size, 1, none⟩ = some (.int .i64 h)) ∧ Below u11_.heap.size u11_ w')) (by kernel_rfl) ?_ (fun hHeld => ?_)
  · exact ⟨⟨f0K, f1K⟩, (Below.refl _ _).drew⟩
  refine wpAnyH_take (i := 0) (oi := ?ooa2_) (v := ?vva2_) ?hia2_ (by kernel_rfl) ?h3a2_ ?h4a2_ ?h5a2_ ?h6a2_ (by assumption) ?h8a2_
  case hia2_ => (simp only [List.getElem?_toArray, List.getElem?_cons_succ, List.getElem?_cons_zero]; rfl)
  case h3a2_ => kernel_rfl
  case h4a2_ => kernel_rfl
  case h6a2_ => (refine Or.inl ⟨by rfl, ?_⟩; intro w hSw; (try dsimp only at hSw); (go_simp <;> with_reducible rfl))
  case h5a2_ => exact fun _ _ _ h => h
  try simp only [Act.put, List.setIfInBounds_toArray, List.set_cons_zero, List.set_cons_succ]
  refine wpAnyH_take (i := 1) (oi := ?ooa3_) (v := ?vva3_) ?hia3_ (by kernel_rfl) ?h3a3_ ?h4a3_ ?h5a3_ ?h6a3_ (by assumption) ?h8a3_
  case hia3_ => (simp only [List.getElem?_toArray, List.getElem?_cons_succ, List.getElem?_cons_zero]; rfl)
  case h3a3_ => kernel_rfl
  case h4a3_ => kernel_rfl
  case h6a3_ => (refine Or.inl ⟨by rfl, ?_⟩; intro w hSw; (try dsimp only at hSw); (go_simp <;> with_reducible rfl))
  case h5a3_ => exact fun _ _ _ h => h
  try simp only [Act.put, List.setIfInBounds_toArray, List.set_cons_zero, List.set_cons_succ]
  refine wpAnyH_take (i := 2) (oi := ?ooa4_) (v := ?vva4_) ?hia4_ (by kernel_rfl) ?h3a4_ ?h4a4_ ?h5a4_ ?h6a4_ (by assumption) ?h8a4_
  case hia4_ => (simp only [List.getElem?_toArray, List.getElem?_cons_succ, List.getElem?_cons_zero]; rfl)
  case h3a4_ => kernel_rfl
  case h4a4_ => kernel_rfl
  case h6a4_ => (refine Or.inl ⟨by rfl, ?_⟩; intro w hSw; (try dsimp only at hSw); (go_simp <;> with_reducible rfl))
  case h5a4_ => exact fun _ _ _ h => h
  try simp only [Act.put, List.setIfInBounds_toArray, List.set_cons_zero, List.set_cons_succ]
  refine wpAnyH_take (i := 3) (oi := ?ooa5_) (v := ?vva5_) ?hia5_ (by kernel_rfl) ?h3a5_ ?h4a5_ ?h5a5_ ?h6a5_ (by assumption) ?h8a5_
  case hia5_ => (simp only [List.getElem?_toArray, List.getElem?_cons_succ, List.getElem?_cons_zero]; rfl)
  case h3a5_ => kernel_rfl
  case h4a5_ => kernel_rfl
  case h6a5_ => (refine Or.inl ⟨by rfl, ?_⟩; intro w hSw; (try dsimp only at hSw); (go_simp <;> with_reducible rfl))
  case h5a5_ => exact fun _ _ _ h => h
  try simp only [Act.put, List.setIfInBounds_toArray, List.set_cons_zero, List.set_cons_succ]
  refine wpAnyH_take (i := 4) (oi := ?ooa6_) (v := ?vva6_) ?hia6_ (by kernel_rfl) ?h3a6_ ?h4a6_ ?h5a6_ ?h6a6_ (by assumption) ?h8a6_
  case hia6_ => (simp only [List.getElem?_toArray, List.getElem?_cons_succ, List.getElem?_cons_zero]; rfl)
  case h3a6_ => kernel_rfl
  case h4a6_ => kernel_rfl
  case h6a6_ => (refine Or.inl ⟨by rfl, ?_⟩; intro w hSw; (try dsimp only at hSw); (go_simp <;> with_reducible rfl))
  case h5a6_ => exact fun _ _ _ h => h
  try simp only [Act.put, List.setIfInBounds_toArray, List.set_cons_zero, List.set_cons_succ]
  refine wpAnyH_take (i := 5) (oi := ?ooa7_) (v := ?vva7_) ?hia7_ (by kernel_rfl) ?h3a7_ ?h4a7_ ?h5a7_ ?h6a7_ (by assumption) ?h8a7_
  case hia7_ => (simp only [List.getElem?_toArray, List.getElem?_cons_succ, List.getElem?_cons_zero]; rfl)
  case h3a7_ => kernel_rfl
  case h4a7_ => kernel_rfl
  case h6a7_ => (refine Or.inl ⟨by rfl, ?_⟩; intro w hSw; (try dsimp only at hSw); (go_simp <;> with_reducible rfl))
  case h5a7_ => exact fun _ _ _ h => h
  try simp only [Act.put, List.setIfInBounds_toArray, List.set_cons_zero, List.set_cons_succ]
  refine wpAnyH_take (i := 6) (oi := ?ooa8_) (v := ?vva8_) ?hia8_ (by kernel_rfl) ?h3a8_ ?h4a8_ ?h5a8_ ?h6a8_ (by assumption) ?h8a8_
  case hia8_ => (simp only [List.getElem?_toArray, List.getElem?_cons_succ, List.getElem?_cons_zero]; rfl)
  case h3a8_ => kernel_rfl
  case h4a8_ => kernel_rfl
  case h6a8_ => (refine Or.inl ⟨by rfl, ?_⟩; intro w hSw; (try dsimp only at hSw); (go_simp <;> with_reducible rfl))
  case h5a8_ => exact fun _ _ _ h => h
  try simp only [Act.put, List.setIfInBounds_toArray, List.set_cons_zero, List.set_cons_succ]
  refine wpAnyH_take (i := 7) (oi := ?ooa9_) (v := ?vva9_) ?hia9_ (by kernel_rfl) ?h3a9_ ?h4a9_ ?h5a9_ ?h6a9_ (by assumption) ?h8a9_
  case hia9_ => (simp only [List.getElem?_toArray, List.getElem?_cons_succ, List.getElem?_cons_zero]; rfl)
  case h3a9_ => kernel_rfl
  case h4a9_ => kernel_rfl
  case h6a9_ => (refine Or.inl ⟨by rfl, ?_⟩; intro w hSw; (try dsimp only at hSw); (go_simp <;> with_reducible rfl))
  case h5a9_ => exact fun _ _ _ h => h
  try simp only [Act.put, List.setIfInBounds_toArray, List.set_cons_zero, List.set_cons_succ]
  refine wpAnyH_take (i := 8) (oi := ?ooa10_) (v := ?vva10_) ?hia10_ (by kernel_rfl) ?h3a10_ ?h4a10_ ?h5a10_ ?h6a10_ (by assumption) ?h8a10_
  case hia10_ => (simp only [List.getElem?_toArray, List.getElem?_cons_succ, List.getElem?_cons_zero]; rfl)
  case h3a10_ => kernel_rfl
  case h4a10_ => kernel_rfl
  case h6a10_ => (refine Or.inl ⟨by rfl, ?_⟩; intro w hSw; (try dsimp only at hSw); (go_simp <;> with_reducible rfl))
  case h5a10_ => exact fun _ _ _ h => h
  try simp only [Act.put, List.setIfInBounds_toArray, List.set_cons_zero, List.set_cons_succ]
  refine wpAnyH_take (i := 9) (oi := ?ooa11_) (v := ?vva11_) ?hia11_ (by kernel_rfl) ?h3a11_ ?h4a11_ ?h5a11_ ?h6a11_ (by assumption) ?h8a11_
  case hia11_ => (simp only [List.getElem?_toArray, List.getElem?_cons_succ, List.getElem?_cons_zero]; rfl)
  case h3a11_ => kernel_rfl
  case h4a11_ => kernel_rfl
  case h6a11_ => (refine Or.inl ⟨by rfl, ?_⟩; intro w hSw; (try dsimp only at hSw); (go_simp <;> with_reducible rfl))
  case h5a11_ => exact fun _ _ _ h => h
  try simp only [Act.put, List.setIfInBounds_toArray, List.set_cons_zero, List.set_cons_succ]
  refine wpAnyH_take (i := 10) (oi := ?ooa12_) (v := ?vva12_) ?hia12_ (by kernel_rfl) ?h3a12_ ?h4a12_ ?h5a12_ ?h6a12_ (by assumption) ?h8a12_
  case hia12_ => (simp only [List.getElem?_toArray, List.getElem?_cons_succ, List.getElem?_cons_zero]; rfl)
  case h3a12_ => kernel_rfl
  case h4a12_ => kernel_rfl
  case h6a12_ => (refine Or.inl ⟨by rfl, ?_⟩; intro w hSw; (try dsimp only at hSw); (go_simp <;> with_reducible rfl))
  case h5a12_ => exact fun _ _ _ h => h
  try simp only [Act.put, List.setIfInBounds_toArray, List.set_cons_zero, List.set_cons_succ]
  refine wpAnyH_take (i := 11) (oi := ?ooa13_) (v := ?vva13_) ?hia13_ (by kernel_rfl) ?h3a13_ ?h4a13_ ?h5a13_ ?h6a13_ (by assumption) ?h8a13_
  case hia13_ => (simp only [List.getElem?_toArray, List.getElem?_cons_succ, List.getElem?_cons_zero]; rfl)
  case h3a13_ => kernel_rfl
  case h4a13_ => kernel_rfl
  case h6a13_ => (refine Or.inl ⟨by rfl, ?_⟩; intro w hSw; (try dsimp only at hSw); (go_simp <;> with_reducible rfl))
  case h5a13_ => exact fun _ _ _ h => h
  try simp only [Act.put, List.setIfInBounds_toArray, List.set_cons_zero, List.set_cons_succ]
  refine wpAnyH_take (i := 12) (oi := ?ooa14_) (v := ?vva14_) ?hia14_ (by kernel_rfl) ?h3a14_ ?h4a14_ ?h5a14_ ?h6a14_ (by assumption) ?h8a14_
  case hia14_ => (simp only [List.getElem?_toArray, List.getElem?_cons_succ, List.getElem?_cons_zero]; rfl)
  case h3a14_ => kernel_rfl
  case h4a14_ => kernel_rfl
  case h6a14_ => (refine Or.inl ⟨by rfl, ?_⟩; intro w hSw; (try dsimp only at hSw); (go_simp <;> with_reducible rfl))
  case h5a14_ => exact fun _ _ _ h => h
  try simp only [Act.put, List.setIfInBounds_toArray, List.set_cons_zero, List.set_cons_succ]
  refine wpAnyH_ready (rs := [13]) (by kernel_rfl) (by simp) (AllReadyH.cons (o := ?ooa15_q0) ?hia15_q0 (fun K hK => ?hka15_q0) AllReadyH.nil)
  case hia15_q0 => (simp only [List.getElem?_toArray, List.getElem?_cons_succ, List.getElem?_cons_zero]; rfl)
  case hka15_q0 =>
    (rw [if_pos (by rfl)]; go_simp; refine (lsteady N cs.length _ nc).mono ?_; rintro e w13_ ⟨v1, rfl, O1, hb⟩; rw [HE1.out] at O1; obtain ⟨bq1, cq1, rfl, _⟩ := O1.ints; have IQ1 := O1.at_; rw [HL1.out]; clear O1; go_wp2_with fail; refine hK.out _ _ (HMK1.out _ (bel_tr hHeld.2 hb)) (fun hHeld => ?_); clear hK K)
    try simp only [Act.put, List.setIfInBounds_toArray, List.set_cons_zero, List.set_cons_succ]
    refine wpAnyH_ready (rs := [14]) (by kernel_rfl) (by simp) (AllReadyH.cons (o := ?ooa16_q0) ?hia16_q0 (fun K hK => ?hka16_q0) AllReadyH.nil)
    case hia16_q0 => (simp only [List.getElem?_toArray, List.getElem?_cons_succ, List.getElem?_cons_zero]; rfl)
    case hka16_q0 =>
      (rw [if_pos (by rfl)]; go_simp; refine (SI.out L1 bq1 cq1 _ HL1.out HF1.out (ints_below I1 hHeld.2) IQ1).mono ?_; rintro e w14_ ⟨rfl, hb2⟩; rw [HZ1.out]; go_wp2_with fail; refine hK.out _ _ (HMK1.out _ (bel_tr hHeld.2 hb2)) (fun hHeld => ?_); clear hK K)
      try simp only [Act.put, List.setIfInBounds_toArray, List.set_cons_zero, List.set_cons_succ]
      refine wpAnyH_take (i := 15) (oi := ?ooa17_) (v := ?vva17_) ?hia17_ (by kernel_rfl) ?h3a17_ ?h4a17_ ?h5a17_ ?h6a17_ (by assumption) ?h8a17_
      case hia17_ => (simp only [List.getElem?_toArray, List.getElem?_cons_succ, List.getElem?_cons_zero]; rfl)
      case h3a17_ => kernel_rfl
      case h4a17_ => kernel_rfl
      case h6a17_ => (refine Or.inl ⟨by rfl, ?_⟩; intro w hSw; (try dsimp only at hSw); (go_simp <;> with_reducible rfl))
      case h5a17_ => exact fun _ _ _ h => h
      try simp only [Act.put, List.setIfInBounds_toArray, List.set_cons_zero, List.set_cons_succ]
      refine wpAnyH_take (i := 16) (oi := ?ooa18_) (v := ?vva18_) ?hia18_ (by kernel_rfl) ?h3a18_ ?h4a18_ ?h5a18_ ?h6a18_ (by assumption) ?h8a18_
      case hia18_ => (simp only [List.getElem?_toArray, List.getElem?_cons_succ, List.getElem?_cons_zero]; rfl)
      case h3a18_ => kernel_rfl
      case h4a18_ => kernel_rfl
      case h6a18_ => (refine Or.inl ⟨by rfl, ?_⟩; intro w hSw; (try dsimp only at hSw); (go_simp <;> with_reducible rfl))
      case h5a18_ => exact fun _ _ _ h => h
      try simp only [Act.put, List.setIfInBounds_toArray, List.set_cons_zero, List.set_cons_succ]
      refine wpAnyH_take (i := 17) (oi := ?ooa19_) (v := ?vva19_) ?hia19_ (by kernel_rfl) ?h3a19_ ?h4a19_ ?h5a19_ ?h6a19_ (by assumption) ?h8a19_
      case hia19_ => (simp only [List.getElem?_toArray, List.getElem?_cons_succ, List.getElem?_cons_zero]; rfl)
      case h3a19_ => kernel_rfl
      case h4a19_ => kernel_rfl
      case h6a19_ => (refine Or.inl ⟨by rfl, ?_⟩; intro w hSw; (try dsimp only at hSw); (go_simp <;> with_reducible rfl))
      case h5a19_ => exact fun _ _ _ h => h
      try simp only [Act.put, List.setIfInBounds_toArray, List.set_cons_zero, List.set_cons_succ]
      refine wpAnyH_take (i := 18) (oi := ?ooa20_) (v := ?vva20_) ?hia20_ (by kernel_rfl) ?h3a20_ ?h4a20_ ?h5a20_ ?h6a20_ (by assumption) ?h8a20_
      case hia20_ => (simp only [List.getElem?_toArray, List.getElem?_cons_succ, List.getElem?_cons_zero]; rfl)
      case h3a20_ => kernel_rfl
      case h4a20_ => kernel_rfl
      case h6a20_ => (refine Or.inl ⟨by rfl, ?_⟩; intro w hSw; (try dsimp only at hSw); (go_simp <;> with_reducible rfl))
      case h5a20_ => exact fun _ _ _ h => h
      try simp only [Act.put, List.setIfInBounds_toArray, List.set_cons_zero, List.set_cons_succ]
      refine wpAnyH_take (i := 19) (oi := ?ooa21_) (v := ?vva21_) ?hia21_ (by kernel_rfl) ?h3a21_ ?h4a21_ ?h5a21_ ?h6a21_ (by assumption) ?h8a21_
      case hia21_ => (simp only [List.getElem?_toArray, List.getElem?_cons_succ, List.getElem?_cons_zero]; rfl)
      case h3a21_ => kernel_rfl
      case h4a21_ => kernel_rfl
      case h6a21_ => (refine Or.inl ⟨by rfl, ?_⟩; intro w hSw; (try dsimp only at hSw); (go_simp <;> with_reducible rfl))
      case h5a21_ => exact fun _ _ _ h => h
      try simp only [Act.put, List.setIfInBounds_toArray, List.set_cons_zero, List.set_cons_succ]
      refine wpAnyH_take (i := 20) (oi := ?ooa22_) (v := ?vva22_) ?hia22_ (by kernel_rfl) ?h3a22_ ?h4a22_ ?h5a22_ ?h6a22_ (by assumption) ?h8a22_
      case hia22_ => (simp only [List.getElem?_toArray, List.getElem?_cons_succ, List.getElem?_cons_zero]; rfl)
      case h3a22_ => kernel_rfl
      case h4a22_ => kernel_rfl
      case h6a22_ => (refine Or.inl ⟨by rfl, ?_⟩; intro w hSw; (try dsimp only at hSw); (go_simp <;> with_reducible rfl))
      case h5a22_ => exact fun _ _ _ h => h
      try simp only [Act.put, List.setIfInBounds_toArray, List.set_cons_zero, List.set_cons_succ]
      refine wpAnyH_ready (rs := [21]) (by kernel_rfl) (by simp) (AllReadyH.cons (o := ?ooa23_q0) ?hia23_q0 (fun K hK => ?hka23_q0) AllReadyH.nil)
      case hia23_q0 => (simp only [List.getElem?_toArray, List.getElem?_cons_succ, List.getElem?_cons_zero]; rfl)
      case hka23_q0 =>
        (rw [if_pos (by rfl)]; go_simp; refine (HBY.out _ _ (pl_below PL hHeld.2)).mono ?_; rintro e w21_ ⟨rfl, hb3⟩; go_wp2_with fail; refine hK.out _ _ (HMK1.out _ (bel_tr hHeld.2 hb3)) (fun hHeld => ?_); clear hK K)
        try simp only [Act.put, List.setIfInBounds_toArray, List.set_cons_zero, List.set_cons_succ]
        refine wpAnyH_take (i := 22) (oi := ?ooa24_) (v := ?vva24_) ?hia24_ (by kernel_rfl) ?h3a24_ ?h4a24_ ?h5a24_ ?h6a24_ (by assumption) ?h8a24_
        case hia24_ => (simp only [List.getElem?_toArray, List.getElem?_cons_succ, List.getElem?_cons_zero]; rfl)
        case h3a24_ => kernel_rfl
        case h4a24_ => kernel_rfl
        case h6a24_ => (refine Or.inl ⟨by rfl, ?_⟩; intro w hSw; (try dsimp only at hSw); (go_simp <;> with_reducible rfl))
        case h5a24_ => exact fun _ _ _ h => h
        try simp only [Act.put, List.setIfInBounds_toArray, List.set_cons_zero, List.set_cons_succ]
        refine wpAnyH_take (i := 23) (oi := ?ooa25_) (v := ?vva25_) ?hia25_ (by kernel_rfl) ?h3a25_ ?h4a25_ ?h5a25_ ?h6a25_ (by assumption) ?h8a25_
        case hia25_ => (simp only [List.getElem?_toArray, List.getElem?_cons_succ, List.getElem?_cons_zero]; rfl)
        case h3a25_ => kernel_rfl
        case h4a25_ => kernel_rfl
        case h6a25_ => (refine Or.inl ⟨by rfl, ?_⟩; intro w hSw; (try dsimp only at hSw); (go_simp <;> with_reducible rfl))
        case h5a25_ => exact fun _ _ _ h => h
        try simp only [Act.put, List.setIfInBounds_toArray, List.set_cons_zero, List.set_cons_succ]
        refine wpAnyH_take (i := 24) (oi := ?ooa26_) (v := ?vva26_) ?hia26_ (by kernel_rfl) ?h3a26_ ?h4a26_ ?h5a26_ ?h6a26_ (by assumption) ?h8a26_
        case hia26_ => (simp only [List.getElem?_toArray, List.getElem?_cons_succ, List.getElem?_cons_zero]; rfl)
        case h3a26_ => kernel_rfl
        case h4a26_ => kernel_rfl
        case h6a26_ => (refine Or.inl ⟨by rfl, ?_⟩; intro w hSw; (try dsimp only at hSw); (go_simp <;> with_reducible rfl))
        case h5a26_ => exact fun _ _ _ h => h
        try simp only [Act.put, List.setIfInBounds_toArray, List.set_cons_zero, List.set_cons_succ]
        refine wpAnyH_done (by kernel_rfl) ?_ _
        clear HMK1
        have C := hHeld.2
        replace B := bel_tr B C
        clear hHeld
        go_wp2_with fail
        go_ret
        exact ⟨rfl, B⟩

set_option maxRecDepth 100000 in
theorem lifted (os : Os) (started : os.Started) (H : Type) (enc : TypeId × Value → H) :
    ReturnsInHanded {} Try.checked os 11 .any (Rows.fnSureFlowPlotsSpec.pre6 enc Try.prog Try.f11 Rows.fnSureFlowPlotsRow.domain false) (Rows.fnSureFlowPlotsSpec.post enc Try.prog Try.f11 false true false false) := by
  refine returnsInHanded_of_change (C := Try.checked) own started (by kernel_rfl) Try.func11
    (ChangeSpec.witness6 (enc := enc) (C := Try.checked) false ⟨#[], #[.slice none 0 0], []⟩ 8 (by kernel_rfl) (by kernel_rfl) (by kernel_rfl) (by kernel_rfl)) ?_
  intro W base args ds gs before hval0 hW hcnd _
  have hval : ∀ (j : Nat) t v, Try.f11.params[j]? = some t → args[j]? = some v → Value.okWide Try.prog W .any base t v := hval0
  have hW' := hW
  obtain ⟨p, q, hA0, hV, rfl, hfz, hnd⟩ := hW
  have hA : DataW.TrodAll enc Try.prog W 0 (fun _ => true) true Try.f11.params.toList args.toList ds p := hA0
  rw [Try.params11] at hA hval
  obtain ⟨v0, vs0, e0, es0, p0, q0, hargs, rfl, rfl, h0, r0⟩ := trodAll_cons hA
  obtain ⟨rfl, rfl, rfl⟩ := trodAll_nil r0
  obtain rfl : args = #[v0] := by cases args; simp_all
  obtain ⟨rfl, rfl⟩ := trodVars_none hV
  have k0 := h0
  have lt0 : ∀ x ∈ p0, x.block < W.heap.size := by obtain ⟨m, hm⟩ := k0; exact DataW.trod_lt m _ _ _ hm
  obtain ⟨a0, len0, cap0, rfl⟩ := okWide_slice Try.underlying39 (hval 0 39 v0 rfl rfl)
  obtain ⟨z0, w0⟩ : ∃ zs, IsRow .u8 W a0 len0 cap0 zs := by
    obtain ⟨fuel, hf⟩ := h0
    rcases open_ints Try.underlying39 Try.underlying5 (by kernel_rfl) hf with ⟨hcs, _⟩ | ⟨x, l, c, zs, hcs, _, hl, hm, hz, _, hcell, hwz⟩
    · simp [Value.cells] at hcs
      obtain ⟨rfl, rfl, rfl⟩ := hcs
      exact ⟨[], .inl ⟨rfl, rfl, rfl, rfl⟩⟩
    · simp [Value.cells] at hcs
      obtain ⟨rfl, rfl, rfl⟩ := hcs
      exact ⟨zs, .inr ⟨_, rfl, hl, hm, by simpa using hz, hcell, hwz⟩⟩
  clear hA0 hval0
  refine (walk a0 len0 cap0 z0 W w0).mono fun e W' ⟨he, bel⟩ => ?_
  subst he
  exact ⟨_, rfl, _, _, _, [], _, [], hW', trodAll_mk1 (shut_bool Try.underlying4 _), (trodAll_cons_mk (Below.trod laidOut (by kernel_rfl) (of_decide_eq_true (by kernel_rfl)) k0 bel lt0) trodAll_mk0), rfl, bel.frame _, fun h => by cases h⟩

theorem over : Rows.fnSureFlowPlotsRow.holds Try.pinned (OpenSpec.ofChange Rows.fnSureFlowPlotsSpec) :=
  OpenClaim.holds_of_wide 11 Try.f11 rfl rfl rfl rfl rfl rfl rfl ⟨rfl, rfl, rfl, rfl, rfl⟩ rfl rfl rfl rfl rfl (by kernel_rfl) Try.func11 (by kernel_rfl)
    (of_decide_eq_true (by kernel_rfl)) (by unfold Func.isWrapper; first | (rw [if_pos (by decide +kernel)]; kernel_rfl) | (rw [if_neg (by decide +kernel)]; exact ⟨rfl, rfl⟩))
    (fun os started H enc _ => lifted os started H enc)

end Go.Proofs.Ytigapnbpgbfbhac.fnSureFlowPlots
namespace Go.Proofs.Ytigapnbpgbfbhac
/-- the statement -/
theorem fnSureFlowPlots_holds : Rows.FnSureFlowPlotsSaid := fnSureFlowPlots.over
end Go.Proofs.Ytigapnbpgbfbhac
