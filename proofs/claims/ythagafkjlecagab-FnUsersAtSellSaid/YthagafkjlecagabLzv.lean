/- Leases that are valid, by impl. Condition: at most 1048576 holdings and leases. -/
import Derived.Test.YthagafkjlecagabLent
import Derived.Deep.RegionHeld3
import Derived.Deep.DeepCutAuto
namespace Go.Proofs.Ythagafkjlecagab
open Go.RowKit
set_option linter.unusedSimpArgs false

theorem keepZ {W wq v : World} {x y u : Value} {k : Nat} {q : Addr} (hb : Below W.heap.size W wq) (h : W.cell? ⟨k, 0, none⟩ = some x ∧ W.cell? ⟨k, 1, none⟩ = some y ∧ W.cell? q = some u ∧ Below v.heap.size v W) : wq.cell? ⟨k, 0, none⟩ = some x ∧ wq.cell? ⟨k, 1, none⟩ = some y ∧ wq.cell? q = some u ∧ Below v.heap.size v wq :=
  ⟨cell_next hb h.1, cell_next hb h.2.1, cell_next hb h.2.2.1, bel_tr h.2.2.2 hb⟩
theorem keepZB {W v : World} {x y u : Value} {k : Nat} {q : Addr} (h : W.cell? ⟨k, 0, none⟩ = some x ∧ W.cell? ⟨k, 1, none⟩ = some y ∧ W.cell? q = some u ∧ Below v.heap.size v W) : Below v.heap.size v W := h.2.2.2
theorem iCmpIs {an ad bn bd c : Int} (w : World) (h : Wsh.cmpF an ad bn bd = c) :
    Calls Try.prog 52 #[.agg #[.int .i64 an, .int .i64 ad], .agg #[.int .i64 bn, .int .i64 bd]] w fun e w' => e = .returned (.int .i64 c) ∧ Below w.heap.size w w' := by
  rw [← h]; exact iCompare an ad bn bd w
/-- the k-th lease: what its owner lends when it begins is a fraction, and no more than his share -/
def lzK (hs : List Hd) (ls : List Lr) (k : Nat) : Bool := lentOk ls (ls.getD k lr0).ow (ls.getD k lr0).fr && !decide (0 < Wsh.cmpF (lentS ls (ls.getD k lr0).ow (ls.getD k lr0).fr ls.length).num ((lentS ls (ls.getD k lr0).ow (ls.getD k lr0).fr ls.length).den : Int) (shareL (ledOf hs) (ls.getD k lr0).ow).num ((shareL (ledOf hs) (ls.getD k lr0).ow).den : Int))
def lzB (hs : List Hd) (ls : List Lr) : Bool := vlR hs && decide (ls.length ≤ 10) && termsB ls && (List.range ls.length).all (lzK hs ls)
theorem lz_no {hs : List Hd} {ls : List Lr} (h : vlR hs = false ∨ 10 < ls.length ∨ termsB ls = false) : lzB hs ls = false := by
  unfold lzB
  rcases h with h | h | h
  · rw [h]; rfl
  · rw [decide_eq_false (by omega : ¬ ls.length ≤ 10)]; simp
  · rw [h]; simp
theorem lz_eq {hs : List Hd} {ls : List Lr} (h1 : vlR hs = true) (h2 : ls.length ≤ 10) (h3 : termsB ls = true) : lzB hs ls = (List.range ls.length).all (lzK hs ls) := by
  unfold lzB; rw [h1, h3, decide_eq_true h2]; rfl

set_option maxRecDepth 100000 in
set_option maxHeartbeats 1500000 in
/-- impl.ValidLeases -/
theorem iLeases (a : Option Addr) (cap : Nat) (hs : List Hd) (A : Option Addr) (capz : Nat) (ls : List Lr) (w : World) (h : IsHs w a hs) (hn : hs.length ≤ 1048576) (hz : IsLs w A ls) (hzn : ls.length ≤ 1048576) :
    Calls Try.prog 21 #[.slice a hs.length cap, .slice A ls.length capz] w fun e w' => e = .returned (.bool (lzB hs ls)) ∧ Below w.heap.size w w' := by
  have hv := iVL a cap hs w h hn
  have HI := Lib.hid h
  have HZ := Lib.hid hz
  clear h hz
  cases hvl : vlR hs with
  | false =>
    have HN : Hid (lzB hs ls = false) := lz_no (.inl hvl)
    rw [hvl] at hv
    clear hvl
    go_enter Try.func21, Try.ntmps21
    go_wp2_with fail
    refine hv.mono ?_
    rintro e w1 ⟨rfl, hb⟩
    go_wp2_with fail
    go_ret
    exact ⟨ret_bool HN.out.symm, hb⟩
  | true =>
    rw [hvl] at hv
    by_cases h10 : 10 < ls.length
    · have HN : Hid (lzB hs ls = false) := lz_no (.inr (.inl h10))
      clear hvl
      go_enter Try.func21, Try.ntmps21
      go_wp2_with fail
      refine hv.mono ?_
      rintro e w1 ⟨rfl, hb⟩
      go_wp2_with fail
      go_ret
      exact ⟨ret_bool HN.out.symm, hb⟩
    · have e10 : decide (10 < (ls.length : Int)) = false := by simp; omega
      have l10 : ls.length ≤ 10 := by omega
      cases ht : termsB ls with
      | false =>
        have HN : Hid (lzB hs ls = false) := lz_no (.inr (.inr ht))
        have HT := Lib.hid ht
        clear hvl ht h10
        go_enter Try.func21, Try.ntmps21
        go_wp2_with fail
        refine hv.mono ?_
        rintro e w1 ⟨rfl, hb⟩
        go_wp2_with fail
        have IT := iterms A capz ls _ (ls_below HZ.out hb) hzn
        rw [HT.out] at IT
        refine IT.mono ?_
        rintro e w2 ⟨rfl, hb2⟩
        clear IT
        go_wp2_with fail
        go_ret
        exact ⟨ret_bool HN.out.symm, bel_tr hb hb2⟩
      | true =>
        have HE : Hid (lzB hs ls = (List.range ls.length).all (lzK hs ls)) := lz_eq hvl l10 ht
        have HT := Lib.hid ht
        have HV := Lib.hid hvl
        clear hvl ht h10
        go_enter Try.func21, Try.ntmps21
        go_wp2_with fail
        refine hv.mono ?_
        rintro e w1 ⟨rfl, hb⟩
        go_wp2_with fail
        have IT := iterms A capz ls _ (ls_below HZ.out hb) hzn
        rw [HT.out] at IT
        refine IT.mono ?_
        rintro e w2 ⟨rfl, hb2⟩
        have hB2 := bel_tr hb hb2
        clear IT hb hb2
        go_wp2_with fail
        go_loopw [24] (fun i wr => ∃ k : Nat, k ≤ ls.length ∧ i = .int .i64 k ∧ Hid (∀ j, j < k → lzK hs ls j = true) ∧ Below w.heap.size w wr) (fun i _ => ls.length - (intOf i).toNat)
        case atStart => exact ⟨0, Nat.zero_le _, rfl, fun j hj => by omega, hB2⟩
        case round =>
          clear hB2
          obtain ⟨k, hk, rfl, HA, hB⟩ := hrel
          by_cases hlt : k < ls.length
          · have hcz : ∃ g u, A = some ⟨g, u, none⟩ ∧ wr.cell? ⟨g, u + k * 6, none⟩ = some (.int .i64 (ls.getD k lr0).ow) ∧ wr.cell? ⟨g, u + k * 6 + 1, none⟩ = some (.int .i64 (ls.getD k lr0).te) ∧ wr.cell? ⟨g, u + k * 6 + 2, none⟩ = some (.int .i64 (ls.getD k lr0).n) ∧ wr.cell? ⟨g, u + k * 6 + 3, none⟩ = some (.int .i64 (ls.getD k lr0).d) ∧ wr.cell? ⟨g, u + k * 6 + 4, none⟩ = some (.int .i64 (ls.getD k lr0).fr) ∧ wr.cell? ⟨g, u + k * 6 + 5, none⟩ = some (.int .i64 (ls.getD k lr0).en) := by
              rcases ls_below HZ.out hB with he | ⟨g, u, hA, hc⟩
              · rw [he] at hlt; simp at hlt
              · exact ⟨g, u, hA, hc k hlt⟩
            obtain ⟨g, u, hAe, c0, c1, c2, c3, c4, c5⟩ := hcz
            have hno : lzK hs ls k = false → (List.range ls.length).all (lzK hs ls) = false := fun e => rng_no hlt e
            have hyes : lzK hs ls k = true → ∀ j, j < k + 1 → lzK hs ls j = true := fun e => rng_more HA.out e
            have hdef : lzK hs ls k = (lentOk ls (ls.getD k lr0).ow (ls.getD k lr0).fr && !decide (0 < Wsh.cmpF (lentS ls (ls.getD k lr0).ow (ls.getD k lr0).fr ls.length).num ((lentS ls (ls.getD k lr0).ow (ls.getD k lr0).fr ls.length).den : Int) (shareL (ledOf hs) (ls.getD k lr0).ow).num ((shareL (ledOf hs) (ls.getD k lr0).ow).den : Int))) := rfl
            generalize ls.getD k lr0 = l at c0 c1 c2 c3 c4 c5 hdef
            obtain ⟨ow, te, n, d, fr, en⟩ := l
            dsimp only at c0 c1 c2 c3 c4 c5 hdef
            have IL := fun W hW => ilent A capz ls ow fr W hW hzn HT.out
            obtain ⟨b, hb⟩ : ∃ b, lentOk ls ow fr = b := ⟨_, rfl⟩
            obtain ⟨q, hq⟩ : ∃ q, lentS ls ow fr ls.length = q := ⟨_, rfl⟩
            rw [hb, hq] at IL hdef
            have HIL := Lib.hid IL
            have HD := Lib.hid hdef
            have HNO := Lib.hid hno
            have HYES := Lib.hid hyes
            have K0 := Blk.new wr 48 #[.int .i64 ow, .int .i64 te, .int .i64 n, .int .i64 d, .int .i64 fr, .int .i64 en]
            have hBa := hB.alloc hB.size (.cells #[.int .i64 ow, .int .i64 te, .int .i64 n, .int .i64 d, .int .i64 fr, .int .i64 en] 48)
            clear IL hdef hno hyes hb hq hB
            subst hAe
            cases b with
            | false =>
              have HN : Hid (lzB hs ls = false) := HE.out.trans (HNO.out (by rw [HD.out]; rfl))
              go_wp2_with fail
              refine (HIL.out _ (ls_below HZ.out hBa)).mono ?_
              rintro e w3 ⟨rfl, hb⟩
              have hB3 := bel_tr hBa hb
              have hB4 := hB3.alloc hB3.size (.cells #[.int .i64 (Wsh.qn false q.num), .int .i64 (Wsh.qn false (q.den : Int))] 46)
              clear c0 c1 c2 c3 c4 c5 K0 hb
              go_wp2_with fail
              go_quiet (fail)
              go_wp2_with fail
              go_ret
              exact ⟨ret_bool HN.out.symm, below_drewN hB4 _⟩
            | true =>
              have HIL2 : ∀ W : World, IsLs W (some ⟨g, u, none⟩) ls → Calls Try.prog 51 #[.slice (some ⟨g, u, none⟩) ls.length capz, .int .i64 ow, .int .i64 fr] W fun e w' => e = .returned (.tuple #[.agg #[.int .i64 q.num, .int .i64 (q.den : Int)], .bool true]) ∧ Below W.heap.size W w' := HIL.out
              obtain ⟨c, hc⟩ : ∃ c, Wsh.cmpF q.num (q.den : Int) (shareL (ledOf hs) ow).num ((shareL (ledOf hs) ow).den : Int) = c := ⟨_, rfl⟩
              have HC := Lib.hid hc
              have HD2 : Hid (lzK hs ls k = !decide (0 < c)) := by show _ = _; rw [HD.out, hc]; rfl
              clear hc
              go_wp2_with fail
              refine (HIL2 _ (ls_below HZ.out hBa)).mono ?_
              rintro e w3 ⟨rfl, hb⟩
              have hB3 := bel_tr hBa hb
              have K3 := K0.next hb
              have hB4 := hB3.alloc hB3.size (.cells #[.int .i64 q.num, .int .i64 (q.den : Int)] 46)
              have S4 := Blk.new w3 46 #[.int .i64 q.num, .int .i64 (q.den : Int)]
              have L4 := K3.alloc (.cells #[.int .i64 q.num, .int .i64 (q.den : Int)] 46)
              obtain ⟨s0, s1, s2, s3, s4⟩ := blk_two S4
              have f0 := L4.cell 0
              dsimp at f0
              clear c0 c1 c2 c3 c4 c5 K0 hb K3 S4 L4
              obtain ⟨W4, hW4⟩ : ∃ W4, W4 = w3.alloc (.cells #[.int .i64 q.num, .int .i64 (q.den : Int)] 46) := ⟨_, rfl⟩
              rw [← hW4] at s0 s1 f0 hB4
              clear s2 s3 s4
              go_upto_region 7 with fail
              rw [← hW4]
              clear hW4
              go_region_held3 (fun w' => w'.cell? ⟨w3.heap.size, 0, none⟩ = some (.int .i64 q.num) ∧ w'.cell? ⟨w3.heap.size, 1, none⟩ = some (.int .i64 (q.den : Int)) ∧ w'.cell? ⟨wr.heap.size, 0, none⟩ = some (.int .i64 ow) ∧ Below W4.heap.size W4 w') (first | (exact keepZ hb (by assumption)) | (refine ⟨?_, ?_, ?_, ?_⟩ <;> first | (go_keep; done) | exact (Below.refl _ _).drew))
                (first | (go_at_call 53; refine (ishareL a cap (ledOf hs) hs ow _ (hs_below (hs_below HI.out hB4) (keepZB (by assumption))) (led_eq HV.out) hn).mono ?_; rintro e wq ⟨rfl, hb⟩) | (go_at_call 52; refine (iCmpIs _ HC.out).mono ?_; rintro e wq2 ⟨rfl, hb⟩))
              have hB5 := bel_tr hB4 (keepZB (by assumption))
              have HB5 := Lib.hid hB5
              clear hB5
              by_cases h0 : 0 < c
              · have HN : Hid (lzB hs ls = false) := HE.out.trans (HNO.out (by rw [HD2.out, decide_eq_true h0]; rfl))
                have e0 : decide (0 < c) = true := decide_eq_true h0
                go_wp2_with fail
                go_ret
                exact ⟨ret_bool HN.out.symm, HB5.out⟩
              · have HY : Hid (∀ j, j < k + 1 → lzK hs ls j = true) := HYES.out (by rw [HD2.out, decide_eq_false h0]; rfl)
                have e0 : decide (0 < c) = false := decide_eq_false h0
                go_wp2_with fail
                go_roundw
                case rel => exact ⟨k + 1, by omega, by go_num, HY.out, HB5.out⟩
                case measure => simp [intOf]; omega
          · obtain rfl : ls.length = k := by omega
            have HN : Hid (lzB hs ls = true) := HE.out.trans (rng_yes HA.out)
            have HB := Lib.hid hB
            clear hB
            go_wp2_with fail
            go_ret
            exact ⟨ret_bool HN.out.symm, HB.out⟩
end Go.Proofs.Ythagafkjlecagab
