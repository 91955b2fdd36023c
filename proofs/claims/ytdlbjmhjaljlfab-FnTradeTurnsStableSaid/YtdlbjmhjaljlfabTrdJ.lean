/- impl.afterCircle. Conditions: valid wishes, the trader is left. -/
import Derived.Test.YtdlbjmhjaljlfabTrdI
import Derived.Test.YtdlbjmhjaljlfabReadz
namespace Go.Proofs.Ytdlbjmhjaljlfab
open Go.RowKit
set_option linter.unusedSimpArgs false
set_option linter.unusedVariables false
/-- how many of a row in memory are left -/
def cW (w : World) (g n : Nat) : Nat := cntL ((List.range n).map fun i => intOf ((w.cell? ⟨g, i, none⟩).getD (.bool false)))
def cV (v : Value) (w : World) (n : Nat) : Nat := match v with
  | .slice (some a) _ _ => cW w a.block n
  | _ => 0
theorem cW_own {w : World} {base g n c : Nat} {zs : List Int} (h : OwnI w base (.slice (some ⟨g, 0, none⟩) n c) zs) : cW w g zs.length = cntL zs := by
  unfold cW
  congr 1
  apply List.ext_getElem
  · simp
  · intro i h1 h2
    rw [List.getElem_map, List.getElem_range, h.cell h2]
    show intOf (.int .i64 (zs.getD i 0)) = _
    rw [List.getD_eq_getElem?_getD, List.getElem?_eq_getElem h2]; rfl
theorem wish_row {rs : List (List Int)} (hw : wishB rs = true) {i : Nat} (hi : i < rs.length) : (rs.getD i []).length ≤ 1048576 ∧ ∀ z ∈ rs.getD i [], 0 ≤ z ∧ z < (rs.length : Int) := by
  obtain ⟨h8, ho⟩ := wish_at hw hi
  obtain ⟨a, b, c⟩ := (ordB_iff _ _).1 ho
  exact ⟨by omega, c⟩
/-- the best one of a trader who is left, in place -/
theorem iBestN {w : World} {a : Option Addr} {rs : List (List Int)} {got : List Int} {B : Option Addr} (hA : IsRows w a rs) (hB : IsInts w B got) (hw : wishB rs = true) (hg : got.length = rs.length) {p : Nat} (hp : Lf rs got p) (cb : Nat) :
    ∃ g o A m cap, a = some ⟨g, o, none⟩ ∧ w.cell? ⟨g, o + p, none⟩ = some (.slice A m cap) ∧ Calls Try.prog 75 #[.slice A m cap, .slice B got.length cb, .int .i64 (p : Int)] w fun e w' => e = .returned (.int .i64 ((nx rs got p : Nat) : Int)) ∧ w = w' := by
  obtain ⟨g, o, A, cap, ha, c, hc, hi⟩ := rows_nth hA hp.1
  obtain ⟨r1, r2⟩ := wish_row hw hp.1
  have := iBest A B cap cb (rs.getD p []) got (p : Int) w hi hB (fun z hz => by rw [hg]; exact r2 z hz) r1
  obtain ⟨_, _, k, _, _, _, hf⟩ := nx_is hw hp.1 hp.2
  rw [hf] at this
  exact ⟨g, o, A, _, cap, ha, c, this⟩
set_option maxRecDepth 100000 in
set_option maxHeartbeats 8000000 in
theorem iAfter (a B : Option Addr) (ca cb : Nat) (rs : List (List Int)) (got : List Int) (x : Nat) (w : World) (hA : IsRows w a rs) (hB : IsInts w B got) (hw : wishB rs = true) (hg : got.length = rs.length) (hx : Lf rs got x) :
    Calls Try.prog 42 #[.slice a rs.length ca, .slice B got.length cb, .int .i64 (x : Int)] w (OutI w (stepC rs got x)) := by
  have h8 := (wish_at hw hx.1).1
  have hxl := hx.1
  have HA := Lib.hid hA
  have HB := Lib.hid hB
  have HW := Lib.hid hw
  have HG := Lib.hid hg
  have HX := Lib.hid hx
  have O0 := Lib.hid (OwnI.new (Below.refl w.heap.size w))
  have B0 := (Below.refl w.heap.size w).alloc (Nat.le_refl _) (.cells #[] 3)
  have HAB := Lib.hid (ints_below hB B0)
  have HB0 := Lib.hid B0
  have hgl : got.length ≤ 8 := by omega
  clear hA hB hw hg hx B0
  go_enter Try.func42, Try.ntmps42
  go_wp2_with fail
  go_loopw [7, 8] (fun p s wr => ∃ k s0 : Nat, k + s0 = rs.length ∧ p = .int .i64 ((it (nx rs got) k x : Nat) : Int) ∧ s = .int .i64 (s0 : Int) ∧ wr = w) (fun _ s _ => (intOf s).toNat)
  case atStart => exact ⟨0, rs.length, by omega, rfl, rfl, rfl⟩
  case round =>
    obtain ⟨k, s0, hk, rfl, rfl, rfl⟩ := hrel
    by_cases hs : s0 = 0
    · subst hs
      have hk' : k = rs.length := by omega
      subst hk'
      obtain ⟨w4, h4⟩ : ∃ W, W = wr := ⟨_, rfl⟩
      subst h4
      have hh : it (nx rs got) rs.length x = headC rs got x := rfl
      rw [hh]
      clear hh hk
      go_wp2_with (first | (at_builtin; refine wp_joinI rfl _ _ rfl rfl O0.out rfl rfl HAB.out (by simp; omega) (by simp) ?_; intro v1 w1 O1 G1 n1; replace G1 := Lib.hid (below_gv HB0.out G1 (fun q hq => O0.out.grow q hq)); replace O1 := Lib.hid O1; clear n1))
      obtain ⟨bA, cA, rfl, _⟩ := O1.out.ints
      rw [List.nil_append] at O1
      obtain ⟨gA, rfl, lA⟩ := OwnI.form_ O1.out (by rw [HG.out]; omega)
      have HS := Lib.hid (fun m hm => sets_cnt HW.out HG.out HX.out m hm)
      have HE := Lib.hid (sets_stop HW.out HG.out HX.out)
      have HL := Lib.hid (fun k => lf_head HW.out HX.out k)
      clear O0 HB0 HAB
      have HI : Hid (OwnI w1 w4.heap.size (.slice (some ⟨gA, 0, none⟩) got.length cA) (setsF (nx rs got) (headC rs got x) got 0) ∧ Below w4.heap.size w4 w1) := ⟨O1.out, G1.out⟩
      clear O1 G1
      simp only [List.nil_append] at *
      go_loopw [7] (fun p wr => ∃ m : Nat, m ≤ perC rs got x ∧ p = .int .i64 ((it (nx rs got) m (headC rs got x) : Nat) : Int) ∧ Hid (OwnI wr w4.heap.size (.slice (some ⟨gA, 0, none⟩) got.length cA) (setsF (nx rs got) (headC rs got x) got m) ∧ Below w4.heap.size w4 wr)) (fun _ wr => cW wr gA got.length)
      case atStart => exact ⟨0, Nat.zero_le _, rfl, HI⟩
      case round =>
        clear HI
        obtain ⟨m, hm, rfl, HS2⟩ := hrel
        have hL := HL.out m
        have O := HS2.out.1
        have hz := O.cell (j := it (nx rs got) m (headC rs got x)) (by rw [sets_len, HG.out]; exact hL.1)
        have hf := O.frozen (it (nx rs got) m (headC rs got x))
        by_cases hlt : m < perC rs got x
        · rw [(HS.out m hm).2 hlt] at hz
          obtain ⟨g, o, A, m1, cap, rfl, c1, CB⟩ := iBestN (rows_below HA.out HS2.out.2) (ints_below HB.out HS2.out.2) HW.out HG.out hL cb
          obtain ⟨p', hp'⟩ : ∃ p', it (nx rs got) (m + 1) (headC rs got x) = p' := ⟨_, rfl⟩
          have hn : nx rs got (it (nx rs got) m (headC rs got x)) = p' := hp'
          rw [hn] at CB
          have hpl := hL.1
          have HN : Hid (OwnI (wr.setCell ⟨gA, it (nx rs got) m (headC rs got x), none⟩ (.int .i64 (p' : Int))) w4.heap.size (.slice (some ⟨gA, 0, none⟩) got.length cA) (setsF (nx rs got) (headC rs got x) got (m + 1)) ∧ Below w4.heap.size w4 (wr.setCell ⟨gA, it (nx rs got) m (headC rs got x), none⟩ (.int .i64 (p' : Int)))) := ⟨by
            have := O.set_ (it (nx rs got) m (headC rs got x)) (p' : Int)
            rw [← hp'] at this ⊢; exact this, HS2.out.2.setCell lA _⟩
          have HM : Hid (cW (wr.setCell ⟨gA, it (nx rs got) m (headC rs got x), none⟩ (.int .i64 (p' : Int))) gA got.length < cW wr gA got.length) := by
            have a1 := cW_own HN.out.1
            have a2 := cW_own O
            rw [sets_len] at a1 a2
            have b1 := (HS.out m hm).1
            have b2 := (HS.out (m + 1) hlt).1
            show _ < _
            rw [a1, a2]; omega
          have HP := Lib.hid hp'
          have HCB := Lib.hid CB
          clear O hn CB hL HS HE HL hp'
          generalize it (nx rs got) m (headC rs got x) = p at *
          have k0 : (0 : Int) ≤ (p : Int) := by omega
          have k1 : (p : Int) < (rs.length : Int) := by omega
          have k2 : (p : Int) < (got.length : Int) := by rw [HG.out]; exact k1
          have k3 : p < got.length := by omega
          go_wp2_with fail
          refine HCB.out.mono ?_
          rintro e w2 ⟨rfl, rfl⟩
          go_wp2_with fail
          go_roundw
          case rel => exact ⟨m + 1, hlt, by rw [HP.out], HN⟩
          case measure => exact HM.out
        · obtain rfl : m = perC rs got x := by omega
          have HV : Hid (OwnI wr w4.heap.size (.slice (some ⟨gA, 0, none⟩) got.length cA) (stepC rs got x) ∧ Below w4.heap.size w4 wr) := HS2
          rw [HE.out.1] at hz hf ⊢
          have hne := HE.out.2
          have hpl : headC rs got x < rs.length := (HL.out 0).1
          replace hz : wr.cell? ⟨gA, headC rs got x, none⟩ = some (.int .i64 ((stepC rs got x).getD (headC rs got x) 0)) := hz
          clear O hL HS HE HL HS2 hm hlt
          generalize (stepC rs got x).getD (headC rs got x) 0 = y at *
          generalize headC rs got x = p at *
          have e1 : (y == -1) = false := by rw [beq_eq_false_iff_ne]; exact hne
          have k0 : (0 : Int) ≤ (p : Int) := by omega
          have k2 : (p : Int) < (got.length : Int) := by rw [HG.out]; omega
          have k3 : p < got.length := by omega
          go_wp2_with fail
          go_ret
          exact ⟨_, rfl, HV.out.1, HV.out.2⟩
    · obtain ⟨s1, rfl⟩ : ∃ s1, s0 = s1 + 1 := ⟨s0 - 1, by omega⟩
      have hp := lf_it HW.out HX.out k
      obtain ⟨g, o, A, m, cap, rfl, c1, CB⟩ := iBestN HA.out HB.out HW.out HG.out hp cb
      have hpl := hp.1
      obtain ⟨p', hp'⟩ : ∃ p', it (nx rs got) (k + 1) x = p' := ⟨_, rfl⟩
      have hn : nx rs got (it (nx rs got) k x) = p' := hp'
      rw [hn] at CB
      have e0 : decide ((0 : Int) < ((s1 + 1 : Nat) : Int)) = true := decide_eq_true (by omega)
      have ws : IntKind.i64.wrap (((s1 + 1 : Nat) : Int) - 1) = (s1 : Int) := by rw [IntKind.wrap_i64]; omega
      obtain ⟨s2, hs2⟩ : ∃ s2, s1 + 1 = s2 := ⟨_, rfl⟩
      rw [hs2] at e0 ws hk ⊢
      have e00 : decide (0 < s2) = true := decide_eq_true (by omega)
      have HN := Lib.hid hs2
      have HP := Lib.hid hp'
      have HCB := Lib.hid CB
      clear hs2 hp hn CB hs hp'
      generalize it (nx rs got) k x = p at *
      have k0 : (0 : Int) ≤ (p : Int) := by omega
      have k1 : (p : Int) < (rs.length : Int) := by omega
      go_wp2_with fail
      refine HCB.out.mono ?_
      rintro e w1 ⟨rfl, rfl⟩
      go_wp2_with fail
      go_roundw
      case rel => exact ⟨k + 1, s1, by have := HN.out; omega, by rw [HP.out], rfl, trivial⟩
      case measure => have := HN.out; simp [intOf]; omega
end Go.Proofs.Ytdlbjmhjaljlfab
