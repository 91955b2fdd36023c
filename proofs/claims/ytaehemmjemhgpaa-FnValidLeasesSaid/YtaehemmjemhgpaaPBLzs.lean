/- Leases that are valid, by the model. Condition: at most 1048576 holdings and leases. -/
import Derived.Test.YtaehemmjemhgpaaPBG4
import Derived.Test.YtaehemmjemhgpaaPBG2
set_option maxRecDepth 100000
set_option maxHeartbeats 16000000
namespace Go.Proofs.Ytaehemmjemhgpaa
open Go.RowKit
set_option linter.unusedSimpArgs false
set_option linter.unusedVariables false
theorem lease_cells {w : World} {g : Nat} {t : TypeId} {a b c d e f : Value} (h : Blk w g t #[a, b, c, d, e, f]) : w.cell? ⟨g, 0, none⟩ = some a ∧ w.cell? ⟨g, 1, none⟩ = some b ∧ w.cell? ⟨g, 2, none⟩ = some c ∧ w.cell? ⟨g, 3, none⟩ = some d ∧ w.cell? ⟨g, 4, none⟩ = some e ∧ w.cell? ⟨g, 5, none⟩ = some f := ⟨h.cell 0, h.cell 1, h.cell 2, h.cell 3, h.cell 4, h.cell 5⟩
theorem frV_cases0 (x y : Int) : (frV true x y = .tuple #[.agg #[.int .i64 x, .int .i64 y], .bool true]) ∧ (frV false x y = .tuple #[.agg #[.int .i64 0, .int .i64 0], .bool false]) := ⟨rfl, rfl⟩
def lvB (hs : List Hd) (ls : List Lr) : Bool := termsB ls && (List.range ls.length).all (lzK hs ls) && decide (ls.length ≤ 10)
/-- spec.validLeases -/
theorem svLz (a : Option Addr) (cap : Nat) (hs : List Hd) (g u : Nat) (capz : Nat) (ls : List Lr) (w : World) (h : IsHs w a hs) (hn : hs.length ≤ 1048576) (hz : ∀ i, i < ls.length → w.cell? ⟨g, u + i * 6, none⟩ = some (.int .i64 (ls.getD i lr0).ow) ∧ w.cell? ⟨g, u + i * 6 + 1, none⟩ = some (.int .i64 (ls.getD i lr0).te) ∧ w.cell? ⟨g, u + i * 6 + 2, none⟩ = some (.int .i64 (ls.getD i lr0).n) ∧ w.cell? ⟨g, u + i * 6 + 3, none⟩ = some (.int .i64 (ls.getD i lr0).d) ∧ w.cell? ⟨g, u + i * 6 + 4, none⟩ = some (.int .i64 (ls.getD i lr0).fr) ∧ w.cell? ⟨g, u + i * 6 + 5, none⟩ = some (.int .i64 (ls.getD i lr0).en)) (hzn : ls.length ≤ 1048576) (hv : vlR hs = true) :
    Calls Try.prog 69 #[.slice a hs.length cap, .slice (some ⟨g, u, none⟩) ls.length capz] w fun e w' => e = .returned (.bool (lvB hs ls)) ∧ Below w.heap.size w w' := by
  have HI := Lib.hid h
  have HC := Lib.hid hz
  have HV := Lib.hid hv
  clear h hz hv
  have HTN : Hid (termsB ls = false → lvB hs ls = false) := fun e => by unfold lvB; rw [e]; rfl
  have B0 := Below.refl w.heap.size w
  go_enter Try.func69, Try.ntmps69
  go_wp2_with fail
  go_loopw [5] (fun i wr => ∃ k : Nat, k ≤ ls.length ∧ i = .int .i64 k ∧ Hid (∀ j, j < k → termB (ls.getD j lr0) = true) ∧ Below w.heap.size w wr) (fun i _ => ls.length - (intOf i).toNat)
  case atStart => exact ⟨0, Nat.zero_le _, rfl, fun j hj => absurd hj (Nat.not_lt_zero _), B0⟩
  case round =>
    clear B0
    obtain ⟨k, hk, rfl, HA, hB⟩ := hrel
    by_cases hlt : k < ls.length
    · obtain ⟨d0, d1, d2, d3, d4, d5⟩ := HC.out k hlt
      have kp : ∀ p v, w.cell? ⟨g, p, none⟩ = some v → wr.cell? ⟨g, p, none⟩ = some v := fun p v c => (hB.cell (p := ⟨g, p, none⟩) (World.block_lt_of_cell? w _ c)).trans c
      have c0 := kp _ _ d0
      have c1 := kp _ _ d1
      have c2 := kp _ _ d2
      have c3 := kp _ _ d3
      have c4 := kp _ _ d4
      have c5 := kp _ _ d5
      have hno : termB (ls.getD k lr0) = false → lvB hs ls = false := fun e => HTN.out (rng_no hlt e)
      have hyes : termB (ls.getD k lr0) = true → ∀ j, j < k + 1 → termB (ls.getD j lr0) = true := fun e => rng_more HA.out e
      clear d0 d1 d2 d3 d4 d5 kp
      generalize ls.getD k lr0 = l at c0 c1 c2 c3 c4 c5 hno hyes
      obtain ⟨ow, te, n, d, fr, en⟩ := l
      have hno2 := fun e => hno (term_no e)
      have hyes2 := fun e => hyes ((term_iff _).2 e)
      dsimp only at c0 c1 c2 c3 c4 c5 hno2 hyes2
      have HNO := Lib.hid hno2
      have HYES := Lib.hid hyes2
      have HBA := Lib.hid (hB.alloc hB.size (.cells #[.int .i64 ow, .int .i64 te, .int .i64 n, .int .i64 d, .int .i64 fr, .int .i64 en] 97))
      have K := Blk.new wr 97 #[.int .i64 ow, .int .i64 te, .int .i64 n, .int .i64 d, .int .i64 fr, .int .i64 en]
      obtain ⟨l0, l1, l2, l3, l4, l5⟩ := lease_cells K
      have k0 : (0 : Int) ≤ (k : Int) := by omega
      have k1 : (k : Int) < (ls.length : Int) := by omega
      clear hno hyes hno2 hyes2 hB
      by_cases h1 : te < 1 ∨ 999 < te
      · have HN : Hid (lvB hs ls = false) := HNO.out (fun c => by omega)
        go_wp2_with fail
        refine (inRange_no te 1 999 _ h1).mono ?_
        rintro e w' ⟨rfl, rfl⟩
        go_wp2_with fail
        go_ret
        exact ⟨ret_bool HN.out.symm, HBA.out⟩
      · have r1 : 1 ≤ te := by omega
        have r2 : te ≤ 999 := by omega
        clear h1
        by_cases h2 : te = ow
        · have HN : Hid (lvB hs ls = false) := HNO.out (fun c => c.2.2.1 h2)
          subst h2
          go_wp2_with fail
          refine (inRange_yes te 1 999 _ r1 r2).mono ?_
          rintro e w' ⟨rfl, rfl⟩
          go_wp2_with fail
          go_ret
          exact ⟨ret_bool HN.out.symm, HBA.out⟩
        · have e2 : (te == ow) = false := by simpa using h2
          have HE : Hid (te ≠ ow) := h2
          clear h2
          cases h3 : Wsh.vfB n d with
          | false =>
            have HN : Hid (lvB hs ls = false) := HNO.out (fun c => absurd c.2.2.2.1 (by rw [h3]; decide))
            have HVF := Lib.hid h3
            clear h3
            go_wp2_with fail
            refine (inRange_yes te 1 999 _ r1 r2).mono ?_
            rintro e w' ⟨rfl, rfl⟩
            go_wp2_with fail
            refine (svalid n d _).mono ?_
            rintro e w2 ⟨rfl, C⟩
            have K2 := K.next C
            have BB := bel_tr HBA.out C
            clear C l0 l1 l2 l3 l4 l5
            obtain ⟨l0, l1, l2, l3, l4, l5⟩ := lease_cells K2
            rw [HVF.out]
            go_wp2_with fail
            go_ret
            exact ⟨ret_bool HN.out.symm, BB⟩
          | true =>
            have HVF := Lib.hid h3
            obtain ⟨v1, v2, v3, v4, _⟩ := (Wsh.vfB_iff _ _).1 h3
            clear h3
            by_cases h4 : n = 0
            · have HN : Hid (lvB hs ls = false) := HNO.out (fun c => by omega)
              have e4 : (n == 0) = true := by simpa using h4
              clear h4
              go_wp2_with fail
              refine (inRange_yes te 1 999 _ r1 r2).mono ?_
              rintro e w' ⟨rfl, rfl⟩
              go_wp2_with fail
              refine (svalid n d _).mono ?_
              rintro e w2 ⟨rfl, C⟩
              have K2 := K.next C
              have BB := bel_tr HBA.out C
              clear C l0 l1 l2 l3 l4 l5
              obtain ⟨l0, l1, l2, l3, l4, l5⟩ := lease_cells K2
              rw [HVF.out]
              go_wp2_with fail
              go_ret
              exact ⟨ret_bool HN.out.symm, BB⟩
            · have e4 : (n == 0) = false := by simpa using h4
              have n0 : 0 < n := by omega
              by_cases h5 : fr < 0 ∨ 5000 < fr
              · have HN : Hid (lvB hs ls = false) := HNO.out (fun c => by omega)
                go_wp2_with fail
                refine (inRange_yes te 1 999 _ r1 r2).mono ?_
                rintro e w' ⟨rfl, rfl⟩
                go_wp2_with fail
                refine (svalid n d _).mono ?_
                rintro e w2 ⟨rfl, C⟩
                have K2 := K.next C
                have BB := bel_tr HBA.out C
                clear C l0 l1 l2 l3 l4 l5
                obtain ⟨l0, l1, l2, l3, l4, l5⟩ := lease_cells K2
                rw [HVF.out]
                go_wp2_with fail
                refine (inRange_no fr 0 5000 _ h5).mono ?_
                rintro e w' ⟨rfl, rfl⟩
                go_wp2_with fail
                go_ret
                exact ⟨ret_bool HN.out.symm, BB⟩
              · have r5 : 0 ≤ fr := by omega
                have r6 : fr ≤ 5000 := by omega
                clear h5
                by_cases h6 : en < fr + 1 ∨ 5000 < en
                · have HN : Hid (lvB hs ls = false) := HNO.out (fun c => by omega)
                  have t9 : IntKind.i64.wrap (fr + 1) = fr + 1 := by rw [IntKind.wrap_i64]; omega
                  go_wp2_with fail
                  refine (inRange_yes te 1 999 _ r1 r2).mono ?_
                  rintro e w' ⟨rfl, rfl⟩
                  go_wp2_with fail
                  refine (svalid n d _).mono ?_
                  rintro e w2 ⟨rfl, C⟩
                  have K2 := K.next C
                  have BB := bel_tr HBA.out C
                  clear C l0 l1 l2 l3 l4 l5
                  obtain ⟨l0, l1, l2, l3, l4, l5⟩ := lease_cells K2
                  rw [HVF.out]
                  go_wp2_with fail
                  refine (inRange_yes fr 0 5000 _ r5 r6).mono ?_
                  rintro e w' ⟨rfl, rfl⟩
                  go_wp2_with fail
                  refine (inRange_no en (fr + 1) 5000 _ h6).mono ?_
                  rintro e w' ⟨rfl, rfl⟩
                  go_wp2_with fail
                  go_ret
                  exact ⟨ret_bool HN.out.symm, BB⟩
                · have r7 : fr + 1 ≤ en := by omega
                  have r8 : en ≤ 5000 := by omega
                  clear h6
                  have HY := Lib.hid (HYES.out ⟨r1, r2, HE.out, HVF.out, n0, r5, by omega, r8⟩)
                  clear n0
                  have t9 : IntKind.i64.wrap (fr + 1) = fr + 1 := by rw [IntKind.wrap_i64]; omega
                  go_wp2_with fail
                  refine (inRange_yes te 1 999 _ r1 r2).mono ?_
                  rintro e w' ⟨rfl, rfl⟩
                  go_wp2_with fail
                  refine (svalid n d _).mono ?_
                  rintro e w2 ⟨rfl, C⟩
                  have K2 := K.next C
                  have BB := bel_tr HBA.out C
                  clear C l0 l1 l2 l3 l4 l5
                  obtain ⟨l0, l1, l2, l3, l4, l5⟩ := lease_cells K2
                  rw [HVF.out]
                  go_wp2_with fail
                  refine (inRange_yes fr 0 5000 _ r5 r6).mono ?_
                  rintro e w' ⟨rfl, rfl⟩
                  go_wp2_with fail
                  refine (inRange_yes en (fr + 1) 5000 _ r7 r8).mono ?_
                  rintro e w' ⟨rfl, rfl⟩
                  go_wp2_with fail
                  clear t9
                  go_roundw
                  case rel => exact ⟨k + 1, by omega, by go_num, HY.out, BB⟩
                  case measure => simp [intOf]; omega
    · obtain rfl : k = ls.length := by omega
      have HTE : Hid (termsB ls = true) := Lib.hid (rng_yes HA.out)
      have HLV : Hid (lvB hs ls = ((List.range ls.length).all (lzK hs ls) && decide (ls.length ≤ 10))) := Lib.hid (by unfold lvB; rw [HTE.out]; rfl)
      clear HA HTN
      go_wp2_with fail
      go_loopw [7] (fun i wr => ∃ k : Nat, k ≤ ls.length ∧ i = .int .i64 k ∧ Hid (∀ j, j < k → lzK hs ls j = true) ∧ Below w.heap.size w wr) (fun i _ => ls.length - (intOf i).toNat)
      case atStart => exact ⟨0, Nat.zero_le _, rfl, fun j hj => absurd hj (Nat.not_lt_zero _), hB⟩
      case round =>
        clear hB
        obtain ⟨k, hk, rfl, HK, hB⟩ := hrel
        by_cases hlt : k < ls.length
        · obtain ⟨d0, d1, d2, d3, d4, d5⟩ := HC.out k hlt
          have kp : ∀ p v, w.cell? ⟨g, p, none⟩ = some v → wr.cell? ⟨g, p, none⟩ = some v := fun p v c => (hB.cell (p := ⟨g, p, none⟩) (World.block_lt_of_cell? w _ c)).trans c
          have c0 := kp _ _ d0
          have c1 := kp _ _ d1
          have c2 := kp _ _ d2
          have c3 := kp _ _ d3
          have c4 := kp _ _ d4
          have c5 := kp _ _ d5
          have hno : lzK hs ls k = false → lvB hs ls = false := fun e => by rw [HLV.out, rng_no hlt e]; rfl
          have hyes : lzK hs ls k = true → ∀ j, j < k + 1 → lzK hs ls j = true := fun e => rng_more HK.out e
          have hdef : lzK hs ls k = (lentOk ls (ls.getD k lr0).ow (ls.getD k lr0).fr && !decide (0 < Wsh.cmpF (lentS ls (ls.getD k lr0).ow (ls.getD k lr0).fr ls.length).num ((lentS ls (ls.getD k lr0).ow (ls.getD k lr0).fr ls.length).den : Int) (shareL (ledOf hs) (ls.getD k lr0).ow).num ((shareL (ledOf hs) (ls.getD k lr0).ow).den : Int))) := rfl
          clear d0 d1 d2 d3 d4 d5 kp
          generalize ls.getD k lr0 = l at c0 c1 c2 c3 c4 c5 hdef
          obtain ⟨ow, te, n, d, fr, en⟩ := l
          dsimp only at c0 c1 c2 c3 c4 c5 hdef
          have HD := Lib.hid hdef
          have HNO := Lib.hid hno
          have HYES := Lib.hid hyes
          have k0 : (0 : Int) ≤ (k : Int) := by omega
          have k1 : (k : Int) < (ls.length : Int) := by omega
          have K8 := (Blk.new wr 97 #[.int .i64 ow, .int .i64 te, .int .i64 n, .int .i64 d, .int .i64 fr, .int .i64 en]).alloc (.cells #[.int .i64 0, .int .i64 1] 58)
          have K9 := Blk.new (wr.alloc (.cells #[.int .i64 ow, .int .i64 te, .int .i64 n, .int .i64 d, .int .i64 fr, .int .i64 en] 97)) 58 #[.int .i64 0, .int .i64 1]
          rw [World.size_alloc] at K9
          have B9 := (hB.alloc hB.size (.cells #[.int .i64 ow, .int .i64 te, .int .i64 n, .int .i64 d, .int .i64 fr, .int .i64 en] 97)).alloc (by have := hB.size; simp; omega) (.cells #[.int .i64 0, .int .i64 1] 58)
          have HWR : Hid (w.heap.size ≤ wr.heap.size) := hB.size
          clear hdef hno hyes hB
          go_wp2_with fail
          generalize (wr.alloc (.cells #[.int .i64 ow, .int .i64 te, .int .i64 n, .int .i64 d, .int .i64 fr, .int .i64 en] 97)).alloc (.cells #[.int .i64 0, .int .i64 1] 58) = W9 at K8 K9 B9 ⊢
          clear c0 c1 c2 c3 c4 c5
          obtain ⟨wo, h9⟩ : ∃ W, W = wr := ⟨_, rfl⟩
          subst h9
          go_loopw [10, 11] (fun bo i wx => ∃ (m : Nat) (b : Bool), m ≤ ls.length ∧ i = .int .i64 m ∧ bo = .bool b ∧ Hid ((b = true → ∀ j, j < m → frB (lentS ls ow fr (j + 1)) = true) ∧ (b = false → lentOk ls ow fr = false)) ∧ Blk wx wo.heap.size 97 #[.int .i64 ow, .int .i64 te, .int .i64 n, .int .i64 d, .int .i64 fr, .int .i64 en] ∧ Blk wx (wo.heap.size + 1) 58 #[.int .i64 (Wsh.qn b (lentS ls ow fr m).num), .int .i64 (Wsh.qn b ((lentS ls ow fr m).den : Int))] ∧ Below w.heap.size w wx) (fun _ i _ => ls.length - (intOf i).toNat)
          case atStart => exact ⟨0, true, Nat.zero_le _, rfl, rfl, ⟨fun _ j hj => absurd hj (Nat.not_lt_zero _), fun c => by cases c⟩, K8, K9, B9⟩
          case round =>
            clear K8 K9 B9
            obtain ⟨m, b, hm, rfl, rfl, HF, KL, KU, hB⟩ := hrel
            cases b with
            | false =>
              have HN := Lib.hid (HNO.out (by rw [HD.out, HF.out.2 rfl]; rfl))
              clear HF KL KU
              by_cases hml : m < ls.length
              · go_wp2_with fail
                have HMK1 := Lib.hid (fun (W : World) (hW : Below wr.heap.size wr W) => (⟨trivial, hW⟩ : (True) ∧ Below wr.heap.size wr W))
                refine wp_region_held_drew (S := (fun w' => (True) ∧ Below wr.heap.size wr w')) (by kernel_rfl) ?_ (fun hHeld => ?_)
                · exact ⟨trivial, (Below.refl _ _).drew⟩
                refine wpAnyH_take (i := 0) (oi := ?ooa2_) (v := ?vva2_) ?hia2_ (by kernel_rfl) ?h3a2_ ?h4a2_ ?h5a2_ ?h6a2_ (by assumption) ?h8a2_
                case hia2_ => (simp only [List.getElem?_toArray, List.getElem?_cons_succ, List.getElem?_cons_zero]; rfl)
                case h3a2_ => kernel_rfl
                case h4a2_ => kernel_rfl
                case h6a2_ => (refine Or.inl ⟨by rfl, ?_⟩; intro w hSw; (try dsimp only at hSw); (go_simp <;> with_reducible rfl))
                case h5a2_ => exact fun _ _ _ h => h
                try simp only [Act.put, List.setIfInBounds_toArray, List.set_cons_zero, List.set_cons_succ]
                refine wpAnyH_take (i := 1) (oi := ?ooa3_) (v := ?vva3_) ?hia3_ (by kernel_rfl) ?h3a3_ ?h4a3_ ?h5a3_ ?h6a3_ (by assumption) ?h8a3_
                case hia3_ => (simp only [List.getElem?_toArray, List.getElem?_cons_succ, List.getElem?_cons_zero]; rfl)
                case h3a3_ => kernel_rfl
                case h4a3_ => kernel_rfl
                case h6a3_ => (refine Or.inl ⟨by rfl, ?_⟩; intro w hSw; (try dsimp only at hSw); (go_simp <;> with_reducible rfl))
                case h5a3_ => exact fun _ _ _ h => h
                try simp only [Act.put, List.setIfInBounds_toArray, List.set_cons_zero, List.set_cons_succ]
                refine wpAnyH_take (i := 2) (oi := ?ooa4_) (v := ?vva4_) ?hia4_ (by kernel_rfl) ?h3a4_ ?h4a4_ ?h5a4_ ?h6a4_ (by assumption) ?h8a4_
                case hia4_ => (simp only [List.getElem?_toArray, List.getElem?_cons_succ, List.getElem?_cons_zero]; rfl)
                case h3a4_ => kernel_rfl
                case h4a4_ => kernel_rfl
                case h6a4_ => (refine Or.inl ⟨by rfl, ?_⟩; intro w hSw; (try dsimp only at hSw); (go_simp <;> with_reducible rfl))
                case h5a4_ => exact fun _ _ _ h => h
                try simp only [Act.put, List.setIfInBounds_toArray, List.set_cons_zero, List.set_cons_succ]
                refine wpAnyH_take (i := 3) (oi := ?ooa5_) (v := undef) ?hia5_ (by kernel_rfl) ?h3a5_ ?h4a5_ ?h5a5_ ?h6a5_ (by assumption) ?h8a5_
                case hia5_ => (simp only [List.getElem?_toArray, List.getElem?_cons_succ, List.getElem?_cons_zero]; rfl)
                case h3a5_ => kernel_rfl
                case h4a5_ => kernel_rfl
                case h6a5_ => exact Or.inr ⟨by rfl, rfl⟩
                case h5a5_ => exact fun _ _ _ h => h
                try simp only [Act.put, List.setIfInBounds_toArray, List.set_cons_zero, List.set_cons_succ]
                refine wpAnyH_take (i := 4) (oi := ?ooa6_) (v := undef) ?hia6_ (by kernel_rfl) ?h3a6_ ?h4a6_ ?h5a6_ ?h6a6_ (by assumption) ?h8a6_
                case hia6_ => (simp only [List.getElem?_toArray, List.getElem?_cons_succ, List.getElem?_cons_zero]; rfl)
                case h3a6_ => kernel_rfl
                case h4a6_ => kernel_rfl
                case h6a6_ => exact Or.inr ⟨by rfl, rfl⟩
                case h5a6_ => exact fun _ _ _ h => h
                try simp only [Act.put, List.setIfInBounds_toArray, List.set_cons_zero, List.set_cons_succ]
                refine wpAnyH_take (i := 5) (oi := ?ooa7_) (v := undef) ?hia7_ (by kernel_rfl) ?h3a7_ ?h4a7_ ?h5a7_ ?h6a7_ (by assumption) ?h8a7_
                case hia7_ => (simp only [List.getElem?_toArray, List.getElem?_cons_succ, List.getElem?_cons_zero]; rfl)
                case h3a7_ => kernel_rfl
                case h4a7_ => kernel_rfl
                case h6a7_ => exact Or.inr ⟨by rfl, rfl⟩
                case h5a7_ => exact fun _ _ _ h => h
                try simp only [Act.put, List.setIfInBounds_toArray, List.set_cons_zero, List.set_cons_succ]
                refine wpAnyH_take (i := 6) (oi := ?ooa8_) (v := undef) ?hia8_ (by kernel_rfl) ?h3a8_ ?h4a8_ ?h5a8_ ?h6a8_ (by assumption) ?h8a8_
                case hia8_ => (simp only [List.getElem?_toArray, List.getElem?_cons_succ, List.getElem?_cons_zero]; rfl)
                case h3a8_ => kernel_rfl
                case h4a8_ => kernel_rfl
                case h6a8_ => exact Or.inr ⟨by rfl, rfl⟩
                case h5a8_ => exact fun _ _ _ h => h
                try simp only [Act.put, List.setIfInBounds_toArray, List.set_cons_zero, List.set_cons_succ]
                refine wpAnyH_take (i := 7) (oi := ?ooa9_) (v := undef) ?hia9_ (by kernel_rfl) ?h3a9_ ?h4a9_ ?h5a9_ ?h6a9_ (by assumption) ?h8a9_
                case hia9_ => (simp only [List.getElem?_toArray, List.getElem?_cons_succ, List.getElem?_cons_zero]; rfl)
                case h3a9_ => kernel_rfl
                case h4a9_ => kernel_rfl
                case h6a9_ => exact Or.inr ⟨by rfl, rfl⟩
                case h5a9_ => exact fun _ _ _ h => h
                try simp only [Act.put, List.setIfInBounds_toArray, List.set_cons_zero, List.set_cons_succ]
                refine wpAnyH_take (i := 8) (oi := ?ooa10_) (v := undef) ?hia10_ (by kernel_rfl) ?h3a10_ ?h4a10_ ?h5a10_ ?h6a10_ (by assumption) ?h8a10_
                case hia10_ => (simp only [List.getElem?_toArray, List.getElem?_cons_succ, List.getElem?_cons_zero]; rfl)
                case h3a10_ => kernel_rfl
                case h4a10_ => kernel_rfl
                case h6a10_ => exact Or.inr ⟨by rfl, rfl⟩
                case h5a10_ => exact fun _ _ _ h => h
                try simp only [Act.put, List.setIfInBounds_toArray, List.set_cons_zero, List.set_cons_succ]
                refine wpAnyH_take (i := 9) (oi := ?ooa11_) (v := undef) ?hia11_ (by kernel_rfl) ?h3a11_ ?h4a11_ ?h5a11_ ?h6a11_ (by assumption) ?h8a11_
                case hia11_ => (simp only [List.getElem?_toArray, List.getElem?_cons_succ, List.getElem?_cons_zero]; rfl)
                case h3a11_ => kernel_rfl
                case h4a11_ => kernel_rfl
                case h6a11_ => exact Or.inr ⟨by rfl, rfl⟩
                case h5a11_ => exact fun _ _ _ h => h
                try simp only [Act.put, List.setIfInBounds_toArray, List.set_cons_zero, List.set_cons_succ]
                refine wpAnyH_take (i := 10) (oi := ?ooa12_) (v := ?vva12_) ?hia12_ (by kernel_rfl) ?h3a12_ ?h4a12_ ?h5a12_ ?h6a12_ (by assumption) ?h8a12_
                case hia12_ => (simp only [List.getElem?_toArray, List.getElem?_cons_succ, List.getElem?_cons_zero]; rfl)
                case h3a12_ => kernel_rfl
                case h4a12_ => kernel_rfl
                case h6a12_ => (refine Or.inl ⟨by rfl, ?_⟩; intro w hSw; (try dsimp only at hSw); (go_simp <;> with_reducible rfl))
                case h5a12_ => exact fun _ _ _ h => h
                try simp only [Act.put, List.setIfInBounds_toArray, List.set_cons_zero, List.set_cons_succ]
                refine wpAnyH_done (by kernel_rfl) ?_ _
                clear HMK1
                have B := bel_tr hB hHeld.2
                clear hHeld
                go_wp2_with fail
                go_ret
                exact ⟨ret_bool HN.out.symm, B⟩
              · obtain rfl : m = ls.length := by omega
                go_wp2_with fail
                have HMK13 := Lib.hid (fun (W : World) (hW : Below wr.heap.size wr W) => (⟨trivial, hW⟩ : (True) ∧ Below wr.heap.size wr W))
                refine wp_region_held_drew (S := (fun w' => (True) ∧ Below wr.heap.size wr w')) (by kernel_rfl) ?_ (fun hHeld => ?_)
                · exact ⟨trivial, (Below.refl _ _).drew⟩
                refine wpAnyH_take (i := 0) (oi := ?ooa14_) (v := ?vva14_) ?hia14_ (by kernel_rfl) ?h3a14_ ?h4a14_ ?h5a14_ ?h6a14_ (by assumption) ?h8a14_
                case hia14_ => (simp only [List.getElem?_toArray, List.getElem?_cons_succ, List.getElem?_cons_zero]; rfl)
                case h3a14_ => kernel_rfl
                case h4a14_ => kernel_rfl
                case h6a14_ => (refine Or.inl ⟨by rfl, ?_⟩; intro w hSw; (try dsimp only at hSw); (go_simp <;> with_reducible rfl))
                case h5a14_ => exact fun _ _ _ h => h
                try simp only [Act.put, List.setIfInBounds_toArray, List.set_cons_zero, List.set_cons_succ]
                refine wpAnyH_take (i := 1) (oi := ?ooa15_) (v := ?vva15_) ?hia15_ (by kernel_rfl) ?h3a15_ ?h4a15_ ?h5a15_ ?h6a15_ (by assumption) ?h8a15_
                case hia15_ => (simp only [List.getElem?_toArray, List.getElem?_cons_succ, List.getElem?_cons_zero]; rfl)
                case h3a15_ => kernel_rfl
                case h4a15_ => kernel_rfl
                case h6a15_ => (refine Or.inl ⟨by rfl, ?_⟩; intro w hSw; (try dsimp only at hSw); (go_simp <;> with_reducible rfl))
                case h5a15_ => exact fun _ _ _ h => h
                try simp only [Act.put, List.setIfInBounds_toArray, List.set_cons_zero, List.set_cons_succ]
                refine wpAnyH_take (i := 2) (oi := ?ooa16_) (v := ?vva16_) ?hia16_ (by kernel_rfl) ?h3a16_ ?h4a16_ ?h5a16_ ?h6a16_ (by assumption) ?h8a16_
                case hia16_ => (simp only [List.getElem?_toArray, List.getElem?_cons_succ, List.getElem?_cons_zero]; rfl)
                case h3a16_ => kernel_rfl
                case h4a16_ => kernel_rfl
                case h6a16_ => (refine Or.inl ⟨by rfl, ?_⟩; intro w hSw; (try dsimp only at hSw); (go_simp <;> with_reducible rfl))
                case h5a16_ => exact fun _ _ _ h => h
                try simp only [Act.put, List.setIfInBounds_toArray, List.set_cons_zero, List.set_cons_succ]
                refine wpAnyH_take (i := 3) (oi := ?ooa17_) (v := undef) ?hia17_ (by kernel_rfl) ?h3a17_ ?h4a17_ ?h5a17_ ?h6a17_ (by assumption) ?h8a17_
                case hia17_ => (simp only [List.getElem?_toArray, List.getElem?_cons_succ, List.getElem?_cons_zero]; rfl)
                case h3a17_ => kernel_rfl
                case h4a17_ => kernel_rfl
                case h6a17_ => exact Or.inr ⟨by rfl, rfl⟩
                case h5a17_ => exact fun _ _ _ h => h
                try simp only [Act.put, List.setIfInBounds_toArray, List.set_cons_zero, List.set_cons_succ]
                refine wpAnyH_take (i := 4) (oi := ?ooa18_) (v := undef) ?hia18_ (by kernel_rfl) ?h3a18_ ?h4a18_ ?h5a18_ ?h6a18_ (by assumption) ?h8a18_
                case hia18_ => (simp only [List.getElem?_toArray, List.getElem?_cons_succ, List.getElem?_cons_zero]; rfl)
                case h3a18_ => kernel_rfl
                case h4a18_ => kernel_rfl
                case h6a18_ => exact Or.inr ⟨by rfl, rfl⟩
                case h5a18_ => exact fun _ _ _ h => h
                try simp only [Act.put, List.setIfInBounds_toArray, List.set_cons_zero, List.set_cons_succ]
                refine wpAnyH_take (i := 5) (oi := ?ooa19_) (v := undef) ?hia19_ (by kernel_rfl) ?h3a19_ ?h4a19_ ?h5a19_ ?h6a19_ (by assumption) ?h8a19_
                case hia19_ => (simp only [List.getElem?_toArray, List.getElem?_cons_succ, List.getElem?_cons_zero]; rfl)
                case h3a19_ => kernel_rfl
                case h4a19_ => kernel_rfl
                case h6a19_ => exact Or.inr ⟨by rfl, rfl⟩
                case h5a19_ => exact fun _ _ _ h => h
                try simp only [Act.put, List.setIfInBounds_toArray, List.set_cons_zero, List.set_cons_succ]
                refine wpAnyH_take (i := 6) (oi := ?ooa20_) (v := undef) ?hia20_ (by kernel_rfl) ?h3a20_ ?h4a20_ ?h5a20_ ?h6a20_ (by assumption) ?h8a20_
                case hia20_ => (simp only [List.getElem?_toArray, List.getElem?_cons_succ, List.getElem?_cons_zero]; rfl)
                case h3a20_ => kernel_rfl
                case h4a20_ => kernel_rfl
                case h6a20_ => exact Or.inr ⟨by rfl, rfl⟩
                case h5a20_ => exact fun _ _ _ h => h
                try simp only [Act.put, List.setIfInBounds_toArray, List.set_cons_zero, List.set_cons_succ]
                refine wpAnyH_take (i := 7) (oi := ?ooa21_) (v := undef) ?hia21_ (by kernel_rfl) ?h3a21_ ?h4a21_ ?h5a21_ ?h6a21_ (by assumption) ?h8a21_
                case hia21_ => (simp only [List.getElem?_toArray, List.getElem?_cons_succ, List.getElem?_cons_zero]; rfl)
                case h3a21_ => kernel_rfl
                case h4a21_ => kernel_rfl
                case h6a21_ => exact Or.inr ⟨by rfl, rfl⟩
                case h5a21_ => exact fun _ _ _ h => h
                try simp only [Act.put, List.setIfInBounds_toArray, List.set_cons_zero, List.set_cons_succ]
                refine wpAnyH_take (i := 8) (oi := ?ooa22_) (v := undef) ?hia22_ (by kernel_rfl) ?h3a22_ ?h4a22_ ?h5a22_ ?h6a22_ (by assumption) ?h8a22_
                case hia22_ => (simp only [List.getElem?_toArray, List.getElem?_cons_succ, List.getElem?_cons_zero]; rfl)
                case h3a22_ => kernel_rfl
                case h4a22_ => kernel_rfl
                case h6a22_ => exact Or.inr ⟨by rfl, rfl⟩
                case h5a22_ => exact fun _ _ _ h => h
                try simp only [Act.put, List.setIfInBounds_toArray, List.set_cons_zero, List.set_cons_succ]
                refine wpAnyH_take (i := 9) (oi := ?ooa23_) (v := undef) ?hia23_ (by kernel_rfl) ?h3a23_ ?h4a23_ ?h5a23_ ?h6a23_ (by assumption) ?h8a23_
                case hia23_ => (simp only [List.getElem?_toArray, List.getElem?_cons_succ, List.getElem?_cons_zero]; rfl)
                case h3a23_ => kernel_rfl
                case h4a23_ => kernel_rfl
                case h6a23_ => exact Or.inr ⟨by rfl, rfl⟩
                case h5a23_ => exact fun _ _ _ h => h
                try simp only [Act.put, List.setIfInBounds_toArray, List.set_cons_zero, List.set_cons_succ]
                refine wpAnyH_take (i := 10) (oi := ?ooa24_) (v := ?vva24_) ?hia24_ (by kernel_rfl) ?h3a24_ ?h4a24_ ?h5a24_ ?h6a24_ (by assumption) ?h8a24_
                case hia24_ => (simp only [List.getElem?_toArray, List.getElem?_cons_succ, List.getElem?_cons_zero]; rfl)
                case h3a24_ => kernel_rfl
                case h4a24_ => kernel_rfl
                case h6a24_ => (refine Or.inl ⟨by rfl, ?_⟩; intro w hSw; (try dsimp only at hSw); (go_simp <;> with_reducible rfl))
                case h5a24_ => exact fun _ _ _ h => h
                try simp only [Act.put, List.setIfInBounds_toArray, List.set_cons_zero, List.set_cons_succ]
                refine wpAnyH_done (by kernel_rfl) ?_ _
                clear HMK13
                have B := bel_tr hB hHeld.2
                clear hHeld
                go_wp2_with fail
                go_ret
                exact ⟨ret_bool HN.out.symm, B⟩
            | true =>
              have KU : Blk wr (wo.heap.size + 1) 58 #[.int .i64 (lentS ls ow fr m).num, .int .i64 ((lentS ls ow fr m).den : Int)] := KU
              have hok := HF.out.1 rfl
              have hfr := lent_fr hok
              have hgw : w.heap.size ≤ wo.heap.size + 1 := by have := HWR.out; omega
              by_cases hml : m < ls.length
              · obtain ⟨d0, d1, d2, d3, d4, d5⟩ := HC.out m hml
                have kp : ∀ p v, w.cell? ⟨g, p, none⟩ = some v → wr.cell? ⟨g, p, none⟩ = some v := fun p v c => (hB.cell (p := ⟨g, p, none⟩) (World.block_lt_of_cell? w _ c)).trans c
                have c0 := kp _ _ d0
                have c1 := kp _ _ d1
                have c2 := kp _ _ d2
                have c3 := kp _ _ d3
                have c4 := kp _ _ d4
                have c5 := kp _ _ d5
                have hv2 := terms_at HTE.out hml
                have hst : lendB (ls.getD m lr0) ow fr = false → (∀ j, j < m + 1 → frB (lentS ls ow fr (j + 1)) = true) ∧ lentS ls ow fr (m + 1) = lentS ls ow fr m := fun e => by
                  have e2 := lent_stay e
                  exact ⟨rng_more (f := fun j => frB (lentS ls ow fr (j + 1))) hok (by show frB (lentS ls ow fr (m + 1)) = true; rw [e2]; exact hfr), e2⟩
                have hmo : lendB (ls.getD m lr0) ow fr = true → lentS ls ow fr (m + 1) = lentS ls ow fr m + Rat.divInt (ls.getD m lr0).n (ls.getD m lr0).d := fun e => lent_more e
                have HNOK : Hid (frB (lentS ls ow fr (m + 1)) = false → lentOk ls ow fr = false) := fun e => rng_no (f := fun j => frB (lentS ls ow fr (j + 1))) hml e
                have HOK : Hid (frB (lentS ls ow fr (m + 1)) = true → ∀ j, j < m + 1 → frB (lentS ls ow fr (j + 1)) = true) := fun e => rng_more (f := fun j => frB (lentS ls ow fr (j + 1))) hok e
                clear d0 d1 d2 d3 d4 d5 kp
                generalize ls.getD m lr0 = l at c0 c1 c2 c3 c4 c5 hv2 hst hmo
                obtain ⟨ow2, te2, n2, d2, fr2, en2⟩ := l
                dsimp only at c0 c1 c2 c3 c4 c5 hv2 hmo
                have HST : Hid (¬ (ow2 = ow ∧ fr2 ≤ fr ∧ fr < en2) → (∀ j, j < m + 1 → frB (lentS ls ow fr (j + 1)) = true) ∧ lentS ls ow fr (m + 1) = lentS ls ow fr m) := fun c => hst (by
                  show (decide (ow2 = ow) && (decide (fr2 ≤ fr) && decide (fr < en2))) = false
                  rw [Bool.eq_false_iff]; intro x; simp only [Bool.and_eq_true, decide_eq_true_eq] at x; exact c x)
                have HMO : Hid ((ow2 = ow ∧ fr2 ≤ fr ∧ fr < en2) → lentS ls ow fr (m + 1) = lentS ls ow fr m + Rat.divInt n2 d2) := fun c => hmo (by
                  show (decide (ow2 = ow) && (decide (fr2 ≤ fr) && decide (fr < en2))) = true
                  simp only [Bool.and_eq_true, decide_eq_true_eq]; exact c)
                have HV2 := Lib.hid hv2
                have HFR := Lib.hid hfr
                clear hst hmo hv2 hfr hok HF
                have m0 : (0 : Int) ≤ (m : Int) := by omega
                have m1 : (m : Int) < (ls.length : Int) := by omega
                obtain ⟨l0, l1, l2, l3, l4, l5⟩ := lease_cells KL
                have l9 := KL.lt
                generalize hq : lentS ls ow fr m = q at *
                obtain ⟨s0, s1, s2, s3, s4⟩ := blk_two KU
                by_cases qq : ow2 = ow ∧ fr2 ≤ fr ∧ fr < en2
                · have e1 : (ow2 == ow) = true := by simpa using qq.1
                  have e2 : decide (fr2 ≤ fr) = true := decide_eq_true qq.2.1
                  have e3 : decide (fr < en2) = true := decide_eq_true qq.2.2
                  have hmo := HMO.out qq
                  clear qq
                  have PA := part_add HFR.out HV2.out
                  rw [q_vf HFR.out, HV2.out, ← hmo] at PA
                  obtain ⟨p1, p2, p3⟩ := PA
                  simp only [Bool.true_and] at p1
                  have CA := fun W => sadd q.num (q.den : Int) n2 d2 W (q_vf HFR.out) HV2.out
                  rw [p1, p2, p3] at CA
                  have HCA := Lib.hid CA
                  clear p1 p2 p3 CA hmo
                  generalize hQ : lentS ls ow fr (m + 1) = Q at *
                  have J := Blk.new wr 97 #[.int .i64 ow2, .int .i64 te2, .int .i64 n2, .int .i64 d2, .int .i64 fr2, .int .i64 en2]
                  have KL2 := KL.alloc (.cells #[.int .i64 ow2, .int .i64 te2, .int .i64 n2, .int .i64 d2, .int .i64 fr2, .int .i64 en2] 97)
                  have KU2 := KU.alloc (.cells #[.int .i64 ow2, .int .i64 te2, .int .i64 n2, .int .i64 d2, .int .i64 fr2, .int .i64 en2] 97)
                  have B2 := hB.alloc hB.size (.cells #[.int .i64 ow2, .int .i64 te2, .int .i64 n2, .int .i64 d2, .int .i64 fr2, .int .i64 en2] 97)
                  cases hf : frB Q with
                  | false =>
                    have HN := Lib.hid (HNOK.out hf)
                    rw [hf] at HCA
                    go_wp2_with fail
                    refine (HCA.out _).mono ?_
                    rintro e w2 ⟨rfl, C⟩
                    rw [(frV_cases0 _ _).2]
                    have KL3 := KL2.next C
                    have KU3 := KU2.next C
                    have B3 := bel_tr B2 C
                    clear C s0 s1 s2 s3 s4
                    obtain ⟨s0, s1, s2, s3, s4⟩ := blk_two KU3
                    go_wp2_with fail
                    go_roundw
                    case rel => exact ⟨m + 1, false, by omega, by go_num, rfl, ⟨fun c => (by cases c), fun _ => HN.out⟩, (KL3.far (p := ⟨wo.heap.size + 1, 0, none⟩) (by show wo.heap.size ≠ wo.heap.size + 1; omega) _).far (p := ⟨wo.heap.size + 1, 1, none⟩) (by show wo.heap.size ≠ wo.heap.size + 1; omega) _, KU3.two _ _, (B3.setCell (p := ⟨wo.heap.size + 1, 0, none⟩) hgw _).setCell (p := ⟨wo.heap.size + 1, 1, none⟩) hgw _⟩
                    case measure => simp [intOf]; omega
                  | true =>
                    have HY := Lib.hid (HOK.out hf)
                    rw [hf] at HCA
                    go_wp2_with fail
                    refine (HCA.out _).mono ?_
                    rintro e w2 ⟨rfl, C⟩
                    rw [(frV_cases0 _ _).1]
                    have KL3 := KL2.next C
                    have KU3 := KU2.next C
                    have B3 := bel_tr B2 C
                    clear C s0 s1 s2 s3 s4
                    obtain ⟨s0, s1, s2, s3, s4⟩ := blk_two KU3
                    go_wp2_with fail
                    go_roundw
                    case rel => exact ⟨m + 1, true, by omega, by go_num, rfl, ⟨fun _ => HY.out, fun c => (by cases c)⟩, (KL3.far (p := ⟨wo.heap.size + 1, 0, none⟩) (by show wo.heap.size ≠ wo.heap.size + 1; omega) _).far (p := ⟨wo.heap.size + 1, 1, none⟩) (by show wo.heap.size ≠ wo.heap.size + 1; omega) _, by rw [hQ]; exact KU3.two _ _, (B3.setCell (p := ⟨wo.heap.size + 1, 0, none⟩) hgw _).setCell (p := ⟨wo.heap.size + 1, 1, none⟩) hgw _⟩
                    case measure => simp [intOf]; omega
                · by_cases z : ow2 = ow
                  · have z1 := z
                    clear z
                    by_cases z : fr2 ≤ fr
                    · have z2 := z
                      clear z
                      have z : ¬ fr < en2 := fun c => qq ⟨z1, z2, c⟩
                      have e1 : (ow2 == ow) = true := by simpa using z1
                      have e2 : decide (fr2 ≤ fr) = true := decide_eq_true z2
                      have e3 : decide (fr < en2) = false := decide_eq_false z
                      have HY := Lib.hid (HST.out qq)
                      clear qq
                      go_wp2_with fail
                      go_roundw
                      case rel => exact ⟨m + 1, true, by omega, by go_num, rfl, ⟨fun _ => HY.out.1, fun c => (by cases c)⟩, KL.alloc _, by rw [HY.out.2]; exact KU.alloc _, hB.alloc hB.size _⟩
                      case measure => simp [intOf]; omega
                    · have e1 : (ow2 == ow) = true := by simpa using z1
                      have e2 : decide (fr2 ≤ fr) = false := decide_eq_false z
                      have HY := Lib.hid (HST.out qq)
                      clear qq
                      go_wp2_with fail
                      go_roundw
                      case rel => exact ⟨m + 1, true, by omega, by go_num, rfl, ⟨fun _ => HY.out.1, fun c => (by cases c)⟩, KL.alloc _, by rw [HY.out.2]; exact KU.alloc _, hB.alloc hB.size _⟩
                      case measure => simp [intOf]; omega
                  · have e1 : (ow2 == ow) = false := by simpa using z
                    have HY := Lib.hid (HST.out qq)
                    clear qq
                    go_wp2_with fail
                    go_roundw
                    case rel => exact ⟨m + 1, true, by omega, by go_num, rfl, ⟨fun _ => HY.out.1, fun c => (by cases c)⟩, KL.alloc _, by rw [HY.out.2]; exact KU.alloc _, hB.alloc hB.size _⟩
                    case measure => simp [intOf]; omega
              · obtain rfl : m = ls.length := by omega
                have hlo : lentOk ls ow fr = true := rng_yes (f := fun j => frB (lentS ls ow fr (j + 1))) hok
                obtain ⟨l0, _, _, _, _, _⟩ := lease_cells KL
                have l9 := KL.lt
                generalize hq : lentS ls ow fr ls.length = q at *
                obtain ⟨s0, s1, s2, s3, s4⟩ := blk_two KU
                have hsf : frB (shareL (ledOf hs) ow) = true := share_frA (vlR_is HV.out).2.fr ow
                obtain ⟨c, hc⟩ : ∃ c, Wsh.cmpF q.num (q.den : Int) (shareL (ledOf hs) ow).num ((shareL (ledOf hs) ow).den : Int) = c := ⟨_, rfl⟩
                have HD2 : Hid (lzK hs ls k = !decide (0 < c)) := by show _ = _; rw [HD.out, hlo, hc]; rfl
                have CM := fun W => scompare q.num (q.den : Int) (shareL (ledOf hs) ow).num ((shareL (ledOf hs) ow).den : Int) W (q_vf hfr) (q_vf hsf)
                rw [← Wsh.cmpF_yes (q_vf hfr) (q_vf hsf), hc] at CM
                have HCM := Lib.hid CM
                have HSH : Hid (∀ W, Below w.heap.size w W → Calls Try.prog 107 #[.slice a hs.length cap, .int .i64 ow] W fun e w' => e = .returned (.agg #[.int .i64 (shareL (ledOf hs) ow).num, .int .i64 ((shareL (ledOf hs) ow).den : Int)]) ∧ Below W.heap.size W w') := Lib.hid (fun W hW => sshareL a cap (ledOf hs) hs ow W (hs_below HI.out hW) (led_eq HV.out) hn)
                clear HF hok hlo hsf hc CM hfr HD
                generalize (shareL (ledOf hs) ow).num = sn at *
                generalize ((shareL (ledOf hs) ow).den : Int) = sd at *
                by_cases h0 : 0 < c
                · have HN := Lib.hid (HNO.out (by rw [HD2.out, decide_eq_true h0]; rfl))
                  have e0 : decide (0 < c) = true := decide_eq_true h0
                  clear HD2 HYES HNO
                  go_wp2_with fail
                  have HMK25 := Lib.hid (fun (W : World) (hW : Below wr.heap.size wr W) => (⟨⟨(hW.cell (p := ⟨wo.heap.size + 1, 0, none⟩) (s4)).trans s0, (hW.cell (p := ⟨wo.heap.size + 1, 1, none⟩) (s4)).trans s1, (hW.cell (p := ⟨wo.heap.size, 0, none⟩) (l9)).trans l0⟩, hW⟩ : (W.cell? ⟨wo.heap.size + 1, 0, none⟩ = some (.int .i64 q.num) ∧ W.cell? ⟨wo.heap.size + 1, 1, none⟩ = some (.int .i64 (q.den : Int)) ∧ W.cell? ⟨wo.heap.size, 0, none⟩ = some (.int .i64 ow)) ∧ Below wr.heap.size wr W))
                  refine wp_region_held_drew (S := (fun w' => (w'.cell? ⟨wo.heap.size + 1, 0, none⟩ = some (.int .i64 q.num) ∧ w'.cell? ⟨wo.heap.size + 1, 1, none⟩ = some (.int .i64 (q.den : Int)) ∧ w'.cell? ⟨wo.heap.size, 0, none⟩ = some (.int .i64 ow)) ∧ Below wr.heap.size wr w')) (by kernel_rfl) ?_ (fun hHeld => ?_)
                  · exact ⟨⟨s0, s1, l0⟩, (Below.refl _ _).drew⟩
                  refine wpAnyH_take (i := 0) (oi := ?ooa26_) (v := ?vva26_) ?hia26_ (by kernel_rfl) ?h3a26_ ?h4a26_ ?h5a26_ ?h6a26_ (by assumption) ?h8a26_
                  case hia26_ => (simp only [List.getElem?_toArray, List.getElem?_cons_succ, List.getElem?_cons_zero]; rfl)
                  case h3a26_ => kernel_rfl
                  case h4a26_ => kernel_rfl
                  case h6a26_ => (refine Or.inl ⟨by rfl, ?_⟩; intro w hSw; (try dsimp only at hSw); (go_simp <;> with_reducible rfl))
                  case h5a26_ => exact fun _ _ _ h => h
                  try simp only [Act.put, List.setIfInBounds_toArray, List.set_cons_zero, List.set_cons_succ]
                  refine wpAnyH_take (i := 1) (oi := ?ooa27_) (v := ?vva27_) ?hia27_ (by kernel_rfl) ?h3a27_ ?h4a27_ ?h5a27_ ?h6a27_ (by assumption) ?h8a27_
                  case hia27_ => (simp only [List.getElem?_toArray, List.getElem?_cons_succ, List.getElem?_cons_zero]; rfl)
                  case h3a27_ => kernel_rfl
                  case h4a27_ => kernel_rfl
                  case h6a27_ => (refine Or.inl ⟨by rfl, ?_⟩; intro w hSw; (try dsimp only at hSw); (go_simp <;> with_reducible rfl))
                  case h5a27_ => exact fun _ _ _ h => h
                  try simp only [Act.put, List.setIfInBounds_toArray, List.set_cons_zero, List.set_cons_succ]
                  refine wpAnyH_take (i := 2) (oi := ?ooa28_) (v := ?vva28_) ?hia28_ (by kernel_rfl) ?h3a28_ ?h4a28_ ?h5a28_ ?h6a28_ (by assumption) ?h8a28_
                  case hia28_ => (simp only [List.getElem?_toArray, List.getElem?_cons_succ, List.getElem?_cons_zero]; rfl)
                  case h3a28_ => kernel_rfl
                  case h4a28_ => kernel_rfl
                  case h6a28_ => (refine Or.inl ⟨by rfl, ?_⟩; intro w hSw; (try dsimp only at hSw); (go_simp <;> with_reducible rfl))
                  case h5a28_ => exact fun _ _ _ h => h
                  try simp only [Act.put, List.setIfInBounds_toArray, List.set_cons_zero, List.set_cons_succ]
                  refine wpAnyH_take (i := 3) (oi := ?ooa29_) (v := ?vva29_) ?hia29_ (by kernel_rfl) ?h3a29_ ?h4a29_ ?h5a29_ ?h6a29_ (by assumption) ?h8a29_
                  case hia29_ => (simp only [List.getElem?_toArray, List.getElem?_cons_succ, List.getElem?_cons_zero]; rfl)
                  case h3a29_ => kernel_rfl
                  case h4a29_ => kernel_rfl
                  case h6a29_ => (refine Or.inl ⟨by rfl, ?_⟩; intro w hSw; (try dsimp only at hSw); (go_simp <;> with_reducible rfl))
                  case h5a29_ => exact fun _ _ _ h => h
                  try simp only [Act.put, List.setIfInBounds_toArray, List.set_cons_zero, List.set_cons_succ]
                  refine wpAnyH_take (i := 4) (oi := ?ooa30_) (v := ?vva30_) ?hia30_ (by kernel_rfl) ?h3a30_ ?h4a30_ ?h5a30_ ?h6a30_ (by assumption) ?h8a30_
                  case hia30_ => (simp only [List.getElem?_toArray, List.getElem?_cons_succ, List.getElem?_cons_zero]; rfl)
                  case h3a30_ => kernel_rfl
                  case h4a30_ => kernel_rfl
                  case h6a30_ => (refine Or.inl ⟨by rfl, ?_⟩; intro w hSw; (try dsimp only at hSw); (go_simp <;> with_reducible rfl))
                  case h5a30_ => exact fun _ _ _ h => h
                  try simp only [Act.put, List.setIfInBounds_toArray, List.set_cons_zero, List.set_cons_succ]
                  refine wpAnyH_take (i := 5) (oi := ?ooa31_) (v := ?vva31_) ?hia31_ (by kernel_rfl) ?h3a31_ ?h4a31_ ?h5a31_ ?h6a31_ (by assumption) ?h8a31_
                  case hia31_ => (simp only [List.getElem?_toArray, List.getElem?_cons_succ, List.getElem?_cons_zero]; rfl)
                  case h3a31_ => kernel_rfl
                  case h4a31_ => kernel_rfl
                  case h6a31_ => (refine Or.inl ⟨by rfl, ?_⟩; intro w hSw; (try dsimp only at hSw); (go_simp <;> with_reducible rfl))
                  case h5a31_ => exact fun _ _ _ h => h
                  try simp only [Act.put, List.setIfInBounds_toArray, List.set_cons_zero, List.set_cons_succ]
                  refine wpAnyH_take (i := 6) (oi := ?ooa32_) (v := ?vva32_) ?hia32_ (by kernel_rfl) ?h3a32_ ?h4a32_ ?h5a32_ ?h6a32_ (by assumption) ?h8a32_
                  case hia32_ => (simp only [List.getElem?_toArray, List.getElem?_cons_succ, List.getElem?_cons_zero]; rfl)
                  case h3a32_ => kernel_rfl
                  case h4a32_ => kernel_rfl
                  case h6a32_ => (refine Or.inl ⟨by rfl, ?_⟩; intro w hSw; (try dsimp only at hSw); (go_simp <;> with_reducible rfl))
                  case h5a32_ => exact fun _ _ _ h => h
                  try simp only [Act.put, List.setIfInBounds_toArray, List.set_cons_zero, List.set_cons_succ]
                  refine wpAnyH_ready (rs := [7]) (by kernel_rfl) (by simp) (AllReadyH.cons (o := ?ooa33_q0) ?hia33_q0 (fun K hK => ?hka33_q0) AllReadyH.nil)
                  case hia33_q0 => (simp only [List.getElem?_toArray, List.getElem?_cons_succ, List.getElem?_cons_zero]; rfl)
                  case hka33_q0 =>
                    (rw [if_pos (by rfl)]; go_simp; refine (HSH.out _ (bel_tr hB hHeld.2)).mono ?_; rintro e w7_ ⟨rfl, C7⟩; go_wp2_with fail; refine hK.out _ _ (HMK25.out _ (bel_tr hHeld.2 C7)) (fun hHeld => ?_); clear hK K)
                    try simp only [Act.put, List.setIfInBounds_toArray, List.set_cons_zero, List.set_cons_succ]
                    refine wpAnyH_ready (rs := [8]) (by kernel_rfl) (by simp) (AllReadyH.cons (o := ?ooa34_q0) ?hia34_q0 (fun K hK => ?hka34_q0) AllReadyH.nil)
                    case hia34_q0 => (simp only [List.getElem?_toArray, List.getElem?_cons_succ, List.getElem?_cons_zero]; rfl)
                    case hka34_q0 =>
                      (rw [if_pos (by rfl)]; go_simp; refine (HCM.out _).mono ?_; rintro e w8_ ⟨rfl, C8⟩; go_wp2_with fail; refine hK.out _ _ (HMK25.out _ (bel_tr hHeld.2 C8)) (fun hHeld => ?_); clear hK K)
                      try simp only [Act.put, List.setIfInBounds_toArray, List.set_cons_zero, List.set_cons_succ]
                      refine wpAnyH_take (i := 9) (oi := ?ooa35_) (v := ?vva35_) ?hia35_ (by kernel_rfl) ?h3a35_ ?h4a35_ ?h5a35_ ?h6a35_ (by assumption) ?h8a35_
                      case hia35_ => (simp only [List.getElem?_toArray, List.getElem?_cons_succ, List.getElem?_cons_zero]; rfl)
                      case h3a35_ => kernel_rfl
                      case h4a35_ => kernel_rfl
                      case h6a35_ => (refine Or.inl ⟨by rfl, ?_⟩; intro w hSw; (try dsimp only at hSw); (go_simp <;> with_reducible rfl))
                      case h5a35_ => exact fun _ _ _ h => h
                      try simp only [Act.put, List.setIfInBounds_toArray, List.set_cons_zero, List.set_cons_succ]
                      refine wpAnyH_take (i := 10) (oi := ?ooa36_) (v := ?vva36_) ?hia36_ (by kernel_rfl) ?h3a36_ ?h4a36_ ?h5a36_ ?h6a36_ (by assumption) ?h8a36_
                      case hia36_ => (simp only [List.getElem?_toArray, List.getElem?_cons_succ, List.getElem?_cons_zero]; rfl)
                      case h3a36_ => kernel_rfl
                      case h4a36_ => kernel_rfl
                      case h6a36_ => (refine Or.inl ⟨by rfl, ?_⟩; intro w hSw; (try dsimp only at hSw); (go_simp <;> with_reducible rfl))
                      case h5a36_ => exact fun _ _ _ h => h
                      try simp only [Act.put, List.setIfInBounds_toArray, List.set_cons_zero, List.set_cons_succ]
                      refine wpAnyH_done (by kernel_rfl) ?_ _
                      clear HMK25
                      have B := bel_tr hB hHeld.2
                      clear hHeld
                      go_wp2_with fail
                      go_ret
                      exact ⟨ret_bool HN.out.symm, B⟩
                · have HY := Lib.hid (HYES.out (by rw [HD2.out, decide_eq_false h0]; rfl))
                  have e0 : decide (0 < c) = false := decide_eq_false h0
                  clear HD2 HYES HNO
                  go_wp2_with fail
                  have HMK37 := Lib.hid (fun (W : World) (hW : Below wr.heap.size wr W) => (⟨⟨(hW.cell (p := ⟨wo.heap.size + 1, 0, none⟩) (s4)).trans s0, (hW.cell (p := ⟨wo.heap.size + 1, 1, none⟩) (s4)).trans s1, (hW.cell (p := ⟨wo.heap.size, 0, none⟩) (l9)).trans l0⟩, hW⟩ : (W.cell? ⟨wo.heap.size + 1, 0, none⟩ = some (.int .i64 q.num) ∧ W.cell? ⟨wo.heap.size + 1, 1, none⟩ = some (.int .i64 (q.den : Int)) ∧ W.cell? ⟨wo.heap.size, 0, none⟩ = some (.int .i64 ow)) ∧ Below wr.heap.size wr W))
                  refine wp_region_held_drew (S := (fun w' => (w'.cell? ⟨wo.heap.size + 1, 0, none⟩ = some (.int .i64 q.num) ∧ w'.cell? ⟨wo.heap.size + 1, 1, none⟩ = some (.int .i64 (q.den : Int)) ∧ w'.cell? ⟨wo.heap.size, 0, none⟩ = some (.int .i64 ow)) ∧ Below wr.heap.size wr w')) (by kernel_rfl) ?_ (fun hHeld => ?_)
                  · exact ⟨⟨s0, s1, l0⟩, (Below.refl _ _).drew⟩
                  refine wpAnyH_take (i := 0) (oi := ?ooa38_) (v := ?vva38_) ?hia38_ (by kernel_rfl) ?h3a38_ ?h4a38_ ?h5a38_ ?h6a38_ (by assumption) ?h8a38_
                  case hia38_ => (simp only [List.getElem?_toArray, List.getElem?_cons_succ, List.getElem?_cons_zero]; rfl)
                  case h3a38_ => kernel_rfl
                  case h4a38_ => kernel_rfl
                  case h6a38_ => (refine Or.inl ⟨by rfl, ?_⟩; intro w hSw; (try dsimp only at hSw); (go_simp <;> with_reducible rfl))
                  case h5a38_ => exact fun _ _ _ h => h
                  try simp only [Act.put, List.setIfInBounds_toArray, List.set_cons_zero, List.set_cons_succ]
                  refine wpAnyH_take (i := 1) (oi := ?ooa39_) (v := ?vva39_) ?hia39_ (by kernel_rfl) ?h3a39_ ?h4a39_ ?h5a39_ ?h6a39_ (by assumption) ?h8a39_
                  case hia39_ => (simp only [List.getElem?_toArray, List.getElem?_cons_succ, List.getElem?_cons_zero]; rfl)
                  case h3a39_ => kernel_rfl
                  case h4a39_ => kernel_rfl
                  case h6a39_ => (refine Or.inl ⟨by rfl, ?_⟩; intro w hSw; (try dsimp only at hSw); (go_simp <;> with_reducible rfl))
                  case h5a39_ => exact fun _ _ _ h => h
                  try simp only [Act.put, List.setIfInBounds_toArray, List.set_cons_zero, List.set_cons_succ]
                  refine wpAnyH_take (i := 2) (oi := ?ooa40_) (v := ?vva40_) ?hia40_ (by kernel_rfl) ?h3a40_ ?h4a40_ ?h5a40_ ?h6a40_ (by assumption) ?h8a40_
                  case hia40_ => (simp only [List.getElem?_toArray, List.getElem?_cons_succ, List.getElem?_cons_zero]; rfl)
                  case h3a40_ => kernel_rfl
                  case h4a40_ => kernel_rfl
                  case h6a40_ => (refine Or.inl ⟨by rfl, ?_⟩; intro w hSw; (try dsimp only at hSw); (go_simp <;> with_reducible rfl))
                  case h5a40_ => exact fun _ _ _ h => h
                  try simp only [Act.put, List.setIfInBounds_toArray, List.set_cons_zero, List.set_cons_succ]
                  refine wpAnyH_take (i := 3) (oi := ?ooa41_) (v := ?vva41_) ?hia41_ (by kernel_rfl) ?h3a41_ ?h4a41_ ?h5a41_ ?h6a41_ (by assumption) ?h8a41_
                  case hia41_ => (simp only [List.getElem?_toArray, List.getElem?_cons_succ, List.getElem?_cons_zero]; rfl)
                  case h3a41_ => kernel_rfl
                  case h4a41_ => kernel_rfl
                  case h6a41_ => (refine Or.inl ⟨by rfl, ?_⟩; intro w hSw; (try dsimp only at hSw); (go_simp <;> with_reducible rfl))
                  case h5a41_ => exact fun _ _ _ h => h
                  try simp only [Act.put, List.setIfInBounds_toArray, List.set_cons_zero, List.set_cons_succ]
                  refine wpAnyH_take (i := 4) (oi := ?ooa42_) (v := ?vva42_) ?hia42_ (by kernel_rfl) ?h3a42_ ?h4a42_ ?h5a42_ ?h6a42_ (by assumption) ?h8a42_
                  case hia42_ => (simp only [List.getElem?_toArray, List.getElem?_cons_succ, List.getElem?_cons_zero]; rfl)
                  case h3a42_ => kernel_rfl
                  case h4a42_ => kernel_rfl
                  case h6a42_ => (refine Or.inl ⟨by rfl, ?_⟩; intro w hSw; (try dsimp only at hSw); (go_simp <;> with_reducible rfl))
                  case h5a42_ => exact fun _ _ _ h => h
                  try simp only [Act.put, List.setIfInBounds_toArray, List.set_cons_zero, List.set_cons_succ]
                  refine wpAnyH_take (i := 5) (oi := ?ooa43_) (v := ?vva43_) ?hia43_ (by kernel_rfl) ?h3a43_ ?h4a43_ ?h5a43_ ?h6a43_ (by assumption) ?h8a43_
                  case hia43_ => (simp only [List.getElem?_toArray, List.getElem?_cons_succ, List.getElem?_cons_zero]; rfl)
                  case h3a43_ => kernel_rfl
                  case h4a43_ => kernel_rfl
                  case h6a43_ => (refine Or.inl ⟨by rfl, ?_⟩; intro w hSw; (try dsimp only at hSw); (go_simp <;> with_reducible rfl))
                  case h5a43_ => exact fun _ _ _ h => h
                  try simp only [Act.put, List.setIfInBounds_toArray, List.set_cons_zero, List.set_cons_succ]
                  refine wpAnyH_take (i := 6) (oi := ?ooa44_) (v := ?vva44_) ?hia44_ (by kernel_rfl) ?h3a44_ ?h4a44_ ?h5a44_ ?h6a44_ (by assumption) ?h8a44_
                  case hia44_ => (simp only [List.getElem?_toArray, List.getElem?_cons_succ, List.getElem?_cons_zero]; rfl)
                  case h3a44_ => kernel_rfl
                  case h4a44_ => kernel_rfl
                  case h6a44_ => (refine Or.inl ⟨by rfl, ?_⟩; intro w hSw; (try dsimp only at hSw); (go_simp <;> with_reducible rfl))
                  case h5a44_ => exact fun _ _ _ h => h
                  try simp only [Act.put, List.setIfInBounds_toArray, List.set_cons_zero, List.set_cons_succ]
                  refine wpAnyH_ready (rs := [7]) (by kernel_rfl) (by simp) (AllReadyH.cons (o := ?ooa45_q0) ?hia45_q0 (fun K hK => ?hka45_q0) AllReadyH.nil)
                  case hia45_q0 => (simp only [List.getElem?_toArray, List.getElem?_cons_succ, List.getElem?_cons_zero]; rfl)
                  case hka45_q0 =>
                    (rw [if_pos (by rfl)]; go_simp; refine (HSH.out _ (bel_tr hB hHeld.2)).mono ?_; rintro e w7_ ⟨rfl, C7⟩; go_wp2_with fail; refine hK.out _ _ (HMK37.out _ (bel_tr hHeld.2 C7)) (fun hHeld => ?_); clear hK K)
                    try simp only [Act.put, List.setIfInBounds_toArray, List.set_cons_zero, List.set_cons_succ]
                    refine wpAnyH_ready (rs := [8]) (by kernel_rfl) (by simp) (AllReadyH.cons (o := ?ooa46_q0) ?hia46_q0 (fun K hK => ?hka46_q0) AllReadyH.nil)
                    case hia46_q0 => (simp only [List.getElem?_toArray, List.getElem?_cons_succ, List.getElem?_cons_zero]; rfl)
                    case hka46_q0 =>
                      (rw [if_pos (by rfl)]; go_simp; refine (HCM.out _).mono ?_; rintro e w8_ ⟨rfl, C8⟩; go_wp2_with fail; refine hK.out _ _ (HMK37.out _ (bel_tr hHeld.2 C8)) (fun hHeld => ?_); clear hK K)
                      try simp only [Act.put, List.setIfInBounds_toArray, List.set_cons_zero, List.set_cons_succ]
                      refine wpAnyH_take (i := 9) (oi := ?ooa47_) (v := ?vva47_) ?hia47_ (by kernel_rfl) ?h3a47_ ?h4a47_ ?h5a47_ ?h6a47_ (by assumption) ?h8a47_
                      case hia47_ => (simp only [List.getElem?_toArray, List.getElem?_cons_succ, List.getElem?_cons_zero]; rfl)
                      case h3a47_ => kernel_rfl
                      case h4a47_ => kernel_rfl
                      case h6a47_ => (refine Or.inl ⟨by rfl, ?_⟩; intro w hSw; (try dsimp only at hSw); (go_simp <;> with_reducible rfl))
                      case h5a47_ => exact fun _ _ _ h => h
                      try simp only [Act.put, List.setIfInBounds_toArray, List.set_cons_zero, List.set_cons_succ]
                      refine wpAnyH_take (i := 10) (oi := ?ooa48_) (v := ?vva48_) ?hia48_ (by kernel_rfl) ?h3a48_ ?h4a48_ ?h5a48_ ?h6a48_ (by assumption) ?h8a48_
                      case hia48_ => (simp only [List.getElem?_toArray, List.getElem?_cons_succ, List.getElem?_cons_zero]; rfl)
                      case h3a48_ => kernel_rfl
                      case h4a48_ => kernel_rfl
                      case h6a48_ => (refine Or.inl ⟨by rfl, ?_⟩; intro w hSw; (try dsimp only at hSw); (go_simp <;> with_reducible rfl))
                      case h5a48_ => exact fun _ _ _ h => h
                      try simp only [Act.put, List.setIfInBounds_toArray, List.set_cons_zero, List.set_cons_succ]
                      refine wpAnyH_done (by kernel_rfl) ?_ _
                      clear HMK37
                      have B := bel_tr hB hHeld.2
                      clear hHeld
                      go_wp2_with fail
                      go_roundw
                      case rel => exact ⟨k + 1, by omega, by go_num, HY.out, B⟩
                      case measure => simp [intOf]; omega
        · obtain rfl : k = ls.length := by omega
          have HAL : Hid ((List.range ls.length).all (lzK hs ls) = true) := Lib.hid (rng_yes HK.out)
          by_cases h10 : ls.length ≤ 10
          · have e1 : decide ((ls.length : Int) ≤ 10) = true := decide_eq_true (by omega)
            have HN : Hid (lvB hs ls = true) := Lib.hid (by rw [HLV.out, HAL.out, decide_eq_true h10]; rfl)
            clear h10
            go_wp2_with fail
            go_ret
            exact ⟨ret_bool HN.out.symm, hB⟩
          · have e1 : decide ((ls.length : Int) ≤ 10) = false := decide_eq_false (by omega)
            have HN : Hid (lvB hs ls = false) := Lib.hid (by rw [HLV.out, decide_eq_false h10]; simp)
            clear h10
            go_wp2_with fail
            go_ret
            exact ⟨ret_bool HN.out.symm, hB⟩
end Go.Proofs.Ytaehemmjemhgpaa
