/- What is lacking, by both; days of a basin by the model. Condition: at most 1048576 numbers. -/
import Derived.Test.YtigapnbpgbfbhacRunS
namespace Go.Proofs.Ytigapnbpgbfbhac
open Go.RowKit
set_option linter.unusedSimpArgs false
set_option linter.unusedVariables false
theorem allocI {w : World} {base : Nat} {v : Value} {zs : List Int} (h : OwnI w base v zs) (o : Obj) : OwnI (w.alloc o) base v zs := World.ownsRow.alloc h o
theorem vfl_sum {zs : List Int} (h : vfl zs = true) : (∀ z ∈ zs, -1000000 ≤ z ∧ z ≤ 1000000) ∧ 0 ≤ zs.sum ∧ zs.sum ≤ 100000 := by
  obtain ⟨l, hz⟩ := vfl_is h
  refine ⟨fun z k => by have := hz z k; omega, sum_nonneg (fun z k => (hz z k).1), ?_⟩
  have := sum_le (zs := zs) (m := 500) (fun z k => (hz z k).2)
  omega
theorem gives_vfl {r h : Int} {cs ws : List Int} (e : runBa r h cs ws = true) : vfl (givesL r h (hrs cs ws)) = true := by
  obtain ⟨⟨r0, r1, r2, r3⟩, v1, v2, hl⟩ := run_is e
  have b := gives_bd (hrs cs ws) h 500 (hok_hrs v1 v2) (fun x hx => by
    have := List.of_mem_zip (a := x.1) (b := x.2) hx
    exact ((vfl_is v2).2 _ this.2).2) r2 r3
  unfold vfl
  rw [Bool.and_eq_true, decide_eq_true_eq, gives_len, hrs_len hl, allB_iff]
  exact ⟨(vfl_is v1).1, b⟩
theorem short_sum {r h : Int} {cs ws : List Int} (e : runBa r h cs ws = true) : ws.sum - (givesL r h (hrs cs ws)).sum = shortB r h (hrs cs ws) := by
  obtain ⟨⟨r0, r1, r2, r3⟩, v1, v2, hl⟩ := run_is e
  have a := short_give r (hrs cs ws) h
  have b := want_sum hl
  rw [gives_sum]
  omega
set_option maxHeartbeats 4000000 in
/-- impl.ShortOf -/
theorem iShort (r h : Int) (a b : Option Addr) (ca cb : Nat) (cs ws : List Int) (w : World) (ha : IsInts w a cs) (hb : IsInts w b ws) (hc : cs.length ≤ 1048576) (hw : ws.length ≤ 1048576) :
    Calls Try.prog 38 #[.agg #[.int .i64 r, .int .i64 h], .slice a cs.length ca, .slice b ws.length cb] w fun e w' => e = .returned (.int .i64 (shortV r h cs ws)) ∧ Below w.heap.size w w' := by
  have CR := fun (W : World) (hW : Below w.heap.size w W) => iCanRun r h a b ca cb cs ws W (ints_below ha hW) (ints_below hb hW) hc hw
  cases hr : runBa r h cs ws with
  | false =>
    rw [hr] at CR
    rw [(runL_no hr).2.2.2.2]
    have HCR := Lib.hid CR
    clear CR hr ha hb
    go_enter Try.func38, Try.ntmps38
    go_wp2_with fail
    refine (HCR.out _ (by go_grown)).mono ?_
    rintro e w1 ⟨rfl, C⟩
    go_wp2_with fail
    go_ret
    exact ⟨rfl, bel_tr (by go_grown) C⟩
  | true =>
  rw [hr] at CR
  obtain ⟨y1, _, y3, y4, y5⟩ := runL_yes hr
  rw [y5]
  have CX := fun (W : World) (hW : Below w.heap.size w W) => iRun r h a b ca cb cs ws W (ints_below ha hW) (ints_below hb hW) hc hw
  rw [y1, y3, y4] at CX
  have hs := short_sum hr
  obtain ⟨sg1, sg2, sg3⟩ := vfl_sum (gives_vfl hr)
  obtain ⟨sw1, sw2, sw3⟩ := vfl_sum (run_is hr).2.2.1
  have lg := (vfl_is (gives_vfl hr)).1
  rw [← hs]
  have wz : IntKind.i64.wrap (ws.sum - (givesL r h (hrs cs ws)).sum) = ws.sum - (givesL r h (hrs cs ws)).sum := by rw [IntKind.wrap_i64]; omega
  generalize givesL r h (hrs cs ws) = L at CX sg1 sg2 sg3 lg wz
  have HCR := Lib.hid CR
  have HCX := Lib.hid CX
  have HB := Lib.hid hb
  have HW := Lib.hid sw1
  have HG := Lib.hid sg1
  clear CR CX hr ha hb hs sw1 sg1 y1 y3 y4 y5
  go_enter Try.func38, Try.ntmps38
  go_wp2_with fail
  refine (HCR.out _ (by go_grown)).mono ?_
  rintro e w1 ⟨rfl, C⟩
  have B1 : Below w.heap.size w w1 := bel_tr (by go_grown) C
  have K := (Blk.new w 51 #[.int .i64 r, .int .i64 h]).next C
  obtain ⟨s0, s1, s2, s3, s4⟩ := blk_two K
  clear K C
  go_wp2_with fail
  refine (HCX.out _ B1).mono ?_
  rintro e w2 ⟨v, rfl, O, C⟩
  obtain ⟨b2, c2, rfl, _⟩ := O.ints
  have B2 := bel_tr B1 C
  have I2 := O.at_
  clear s0 s1 s2 s3 s4
  obtain ⟨e_, he⟩ : ∃ x, endB r h (hrs cs ws) = x := ⟨_, rfl⟩
  rw [he]
  have B3 := B2.alloc B2.size (.cells #[.int .i64 r, .int .i64 e_] 51)
  have I3 := ints_below I2 ((Below.refl _ w2).alloc (Nat.le_refl _) (.cells #[.int .i64 r, .int .i64 e_] 51))
  clear O C I2 he
  go_wp2_with fail
  refine (isum b cb ws _ (ints_below HB.out B3) hw HW.out).mono ?_
  rintro e w' ⟨rfl, rfl⟩
  go_wp2_with fail
  refine (isum b2 c2 L _ I3 (by omega) HG.out).mono ?_
  rintro e w' ⟨rfl, rfl⟩
  go_wp2_with fail
  go_ret
  exact ⟨rfl, B3⟩
set_option maxHeartbeats 4000000 in
/-- spec.shortOf -/
theorem sshort (r h : Int) (a b : Option Addr) (ca cb : Nat) (cs ws : List Int) (w : World) (ha : IsInts w a cs) (hb : IsInts w b ws) (hc : cs.length ≤ 1048576) (hw : ws.length ≤ 1048576) (hr : runBa r h cs ws = true) :
    Calls Try.prog 60 #[.agg #[.int .i64 r, .int .i64 h], .slice a cs.length ca, .slice b ws.length cb] w fun e w' => e = .returned (.int .i64 (shortB r h (hrs cs ws))) ∧ Below w.heap.size w w' := by
  have CX := fun (W : World) (hW : Below w.heap.size w W) => sday r h a b ca cb cs ws W (ints_below ha hW) (ints_below hb hW) hc hw hr
  unfold DayS at CX
  have hs := short_sum hr
  obtain ⟨sg1, sg2, sg3⟩ := vfl_sum (gives_vfl hr)
  obtain ⟨sw1, sw2, sw3⟩ := vfl_sum (run_is hr).2.2.1
  have lg := (vfl_is (gives_vfl hr)).1
  rw [← hs]
  have wz : IntKind.i64.wrap (ws.sum - (givesL r h (hrs cs ws)).sum) = ws.sum - (givesL r h (hrs cs ws)).sum := by rw [IntKind.wrap_i64]; omega
  generalize givesL r h (hrs cs ws) = L at CX sg1 sg2 sg3 lg wz
  generalize endB r h (hrs cs ws) = e_ at CX
  have HCX := Lib.hid CX
  have HB := Lib.hid hb
  have HW := Lib.hid sw1
  have HG := Lib.hid sg1
  clear CX hr ha hb hs sw1 sg1
  go_enter Try.func60, Try.ntmps60
  go_wp2_with fail
  refine (HCX.out _ (by go_grown)).mono ?_
  rintro e w2 ⟨v, v2, rfl, O, _, C⟩
  obtain ⟨b2, c2, rfl, _⟩ := O.ints
  have B2 : Below w.heap.size w w2 := bel_tr (by go_grown) C
  have I2 := O.at_
  have B3 := B2.alloc B2.size (.cells #[.int .i64 r, .int .i64 e_] 51)
  have I3 := ints_below I2 ((Below.refl _ w2).alloc (Nat.le_refl _) (.cells #[.int .i64 r, .int .i64 e_] 51))
  clear O C I2
  go_wp2_with fail
  refine (stotal b cb ws _ (ints_below HB.out B3) hw HW.out).mono ?_
  rintro e w' ⟨rfl, rfl⟩
  go_wp2_with fail
  refine (stotal b2 c2 L _ I3 (by omega) HG.out).mono ?_
  rintro e w' ⟨rfl, rfl⟩
  go_wp2_with fail
  go_ret
  exact ⟨rfl, B3⟩
end Go.Proofs.Ytigapnbpgbfbhac
