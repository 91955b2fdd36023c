/- Orders by the program: how many there are, and the order of a number. Condition: at most five indices, numbers up to 1000000. -/
import Derived.Test.YtojkgabkiagjdacClmV
import Derived.Test.YtojkgabkiagjdacReadz
namespace Go.Proofs.Ytojkgabkiagjdac
open Go.RowKit
set_option linter.unusedSimpArgs false
set_option linter.unusedVariables false
theorem own_capN {w : World} {base n c : Nat} {b : Option Addr} {zs : List Int} (h : OwnI w base (.slice b n c) zs) : n ≤ c := by
  rcases h.2 with ⟨e, h0⟩ | ⟨g, cap, cur, e, _, _, hc, _⟩
  · injection e with e1 e2 e3; omega
  · injection e with e1 e2 e3; omega
theorem ints_dropN {w : World} {g : Nat} {zs : List Int} {cap k : Nat} (h : IsInts w (some ⟨g, 0, none⟩) zs) (hk : k ≤ zs.length) (hc : zs.length ≤ cap) : IsInts w (if cap = k then some ⟨g, 0, none⟩ else some ⟨g, k, none⟩) (zs.drop k) := by
  by_cases e : cap = k
  · have : zs.drop k = [] := by rw [List.drop_eq_nil_iff]; omega
    rw [this]; exact .inl rfl
  · rw [if_neg e]
    rcases h with rfl | ⟨g', o', ha, hcc⟩
    · simp; exact .inl rfl
    · injection ha with ha
      injection ha with e1 e2
      subst e1 e2
      refine .inr ⟨g, k, rfl, fun i hi => ?_⟩
      rw [List.length_drop] at hi
      have := hcc (k + i) (by omega)
      rw [Nat.zero_add] at this
      rw [this]
      congr 2
      rw [List.getD_eq_getElem?_getD, List.getD_eq_getElem?_getD, List.getElem?_drop]
theorem ints_takeR {w : World} {a : Option Addr} {zs : List Int} (h : IsInts w a zs) (k : Nat) : IsInts w a (zs.take k) := by
  rcases h with rfl | ⟨g, o, ha, hc⟩
  · exact .inl (by simp)
  · refine .inr ⟨g, o, ha, fun i hi => ?_⟩
    rw [List.length_take] at hi
    have e : (zs.take k).getD i 0 = zs.getD i 0 := by rw [List.getD_eq_getElem?_getD, List.getD_eq_getElem?_getD, List.getElem?_take_of_lt (by omega)]
    rw [e]; exact hc i (by omega)
/-- impl.countOrders -/
theorem iCount (m : Nat) (w : World) (hm : m ≤ 5) :
    Calls Try.prog 48 #[.int .i64 (m : Int)] w fun e w' => e = .returned (.int .i64 (facN m : Int)) ∧ w = w' := by
  match m, hm with
  | 0, _ =>
    go_enter Try.func48, Try.ntmps48
    go_wp2
    go_rounds 1
    go_ret
    exact ⟨rfl, rfl⟩
  | 1, _ =>
    go_enter Try.func48, Try.ntmps48
    go_wp2
    go_rounds 1
    go_ret
    exact ⟨rfl, rfl⟩
  | 2, _ =>
    go_enter Try.func48, Try.ntmps48
    go_wp2
    go_rounds 2
    go_ret
    exact ⟨rfl, rfl⟩
  | 3, _ =>
    go_enter Try.func48, Try.ntmps48
    go_wp2
    go_rounds 3
    go_ret
    exact ⟨rfl, rfl⟩
  | 4, _ =>
    go_enter Try.func48, Try.ntmps48
    go_wp2
    go_rounds 4
    go_ret
    exact ⟨rfl, rfl⟩
  | 5, _ =>
    go_enter Try.func48, Try.ntmps48
    go_wp2
    go_rounds 5
    go_ret
    exact ⟨rfl, rfl⟩
set_option maxRecDepth 100000 in
set_option maxHeartbeats 4000000 in
/-- impl.withIndex -/
theorem iWith (g c m p : Nat) (os : List Int) (i : Int) (w : World) (h : IsInts w (some ⟨g, 0, none⟩) os) (hl : os.length = m) (hc : m ≤ c) (hp : p ≤ m) (hm : m ≤ 1000) :
    Calls Try.prog 68 #[.slice (some ⟨g, 0, none⟩) m c, .int .i64 (p : Int), .int .i64 i] w (OutI w (os.take p ++ [i] ++ os.drop p)) := by
  have HT := Lib.hid (ints_takeR h p)
  have hdr := ints_dropN (k := p) (cap := c) h (by omega) (by omega)
  have HTL : Hid ((os.take p).length = p) := by show _ = _; rw [List.length_take]; omega
  have HDL : Hid ((os.drop p).length = m - p) := by show _ = _; rw [List.length_drop]; omega
  obtain ⟨ts, hts⟩ : ∃ ts, os.take p = ts := ⟨_, rfl⟩
  obtain ⟨ds, hds⟩ : ∃ ds, os.drop p = ds := ⟨_, rfl⟩
  rw [hts] at HT HTL ⊢
  rw [hds] at hdr HDL ⊢
  have p0 : (0 : Int) ≤ (p : Int) := by omega
  have p1 : (p : Int) ≤ (m : Int) := by omega
  have p2 : (p : Int) ≤ (c : Int) := by omega
  clear h hl hts hds
  by_cases hcp : c = p
  · rw [if_pos hcp] at hdr
    have HDR := Lib.hid hdr
    have e1 : m = p := by omega
    subst e1
    have e2 : m = c := hcp.symm
    subst e2
    clear hcp hdr hc hp p0 p1 p2
    have p0 : (0 : Int) ≤ (m : Int) := by omega
    go_enter Try.func68, Try.ntmps68
    go_wp2_with (first | (at_builtin; refine wp_joinI rfl _ _ rfl rfl (OwnI.new (Below.refl w.heap.size w)) rfl (by have := HTL.out; omega) (ints_below HT.out ((Below.refl _ w).alloc (Nat.le_refl _) _)) (by have := HTL.out; show 0 + _ ≤ _; omega) (by simp) ?_; intro v1 w1 Q1 G1 n1; have B1 : Below w.heap.size w w1 := below_gv ((Below.refl w.heap.size w).alloc (Nat.le_refl _) _) G1 (fun q hq => (OwnI.new (Below.refl w.heap.size w)).grow q hq); rw [List.nil_append] at Q1; have HQ1 := Lib.hid Q1; have HB1 := Lib.hid B1; clear Q1 B1 G1 n1) | (at_builtin; refine wp_snoc rfl _ _ rfl rfl HQ1.out rfl rfl (by have := HTL.out; omega) (HB1.out.size) ?_; intro v2 w2 Q2 G2 n2; have B2 := below_gv HB1.out G2 (fun q hq => HQ1.out.grow q hq); have HQ2 := Lib.hid Q2; have HB2 := Lib.hid B2; have HD2 := Lib.hid (ints_below HDR.out B2); clear Q2 B2 G2 n2 HQ1 HB1) | (at_builtin; refine wp_joinI rfl _ _ rfl rfl HQ2.out rfl (by have := HDL.out; omega) HD2.out (by have := HDL.out; have := HTL.out; simp only [List.length_append, List.length_cons, List.length_nil]; omega) (HB2.out.size) ?_; intro v3 w3 Q3 G3 n3; have B3 := below_gv HB2.out G3 (fun q hq => HQ2.out.grow q hq); have HF := Lib.hid (And.intro Q3 B3); clear Q3 B3 G3 n3 HQ2 HB2 HD2))
    go_ret
    exact ⟨_, rfl, HF.out⟩
  · rw [if_neg hcp] at hdr
    have HDR := Lib.hid hdr
    clear hdr
    go_enter Try.func68, Try.ntmps68
    go_wp2_with (first | (at_builtin; refine wp_joinI rfl _ _ rfl rfl (OwnI.new (Below.refl w.heap.size w)) rfl (by have := HTL.out; omega) (ints_below HT.out ((Below.refl _ w).alloc (Nat.le_refl _) _)) (by have := HTL.out; show 0 + _ ≤ _; omega) (by simp) ?_; intro v1 w1 Q1 G1 n1; have B1 : Below w.heap.size w w1 := below_gv ((Below.refl w.heap.size w).alloc (Nat.le_refl _) _) G1 (fun q hq => (OwnI.new (Below.refl w.heap.size w)).grow q hq); rw [List.nil_append] at Q1; have HQ1 := Lib.hid Q1; have HB1 := Lib.hid B1; clear Q1 B1 G1 n1) | (at_builtin; refine wp_snoc rfl _ _ rfl rfl HQ1.out rfl rfl (by have := HTL.out; omega) (HB1.out.size) ?_; intro v2 w2 Q2 G2 n2; have B2 := below_gv HB1.out G2 (fun q hq => HQ1.out.grow q hq); have HQ2 := Lib.hid Q2; have HB2 := Lib.hid B2; have HD2 := Lib.hid (ints_below HDR.out B2); clear Q2 B2 G2 n2 HQ1 HB1) | (at_builtin; refine wp_joinI rfl _ _ rfl rfl HQ2.out rfl (by have := HDL.out; omega) HD2.out (by have := HDL.out; have := HTL.out; simp only [List.length_append, List.length_cons, List.length_nil]; omega) (HB2.out.size) ?_; intro v3 w3 Q3 G3 n3; have B3 := below_gv HB2.out G3 (fun q hq => HQ2.out.grow q hq); have HF := Lib.hid (And.intro Q3 B3); clear Q3 B3 G3 n3 HQ2 HB2 HD2))
    go_ret
    exact ⟨_, rfl, HF.out⟩
set_option maxRecDepth 100000 in
set_option maxHeartbeats 4000000 in
/-- impl.orderOf -/
theorem iOrder (nr cnt : Nat) (w : World) (hn : nr ≤ 1000000) (hc : cnt ≤ 5) :
    Calls Try.prog 49 #[.int .i64 (nr : Int), .int .i64 (cnt : Int)] w (OutI w (ordZ nr cnt)) := by
  have HM := Lib.hid (And.intro (OwnI.new (Below.refl w.heap.size w)) ((Below.refl w.heap.size w).alloc (Nat.le_refl _) (.cells #[] 3)))
  go_enter Try.func49, Try.ntmps49
  go_wp2_with fail
  go_loopw [0, 5, 6] (fun x v i wr => ∃ k g c : Nat, k ≤ cnt ∧ i = .int .i64 k ∧ x = .int .i64 (restK nr k : Int) ∧ v = .slice (some ⟨g, 0, none⟩) k c ∧ Hid (OwnI wr w.heap.size (.slice (some ⟨g, 0, none⟩) k c) (ordZ nr k) ∧ Below w.heap.size w wr ∧ k ≤ c)) (fun _ _ i _ => cnt - (intOf i).toNat)
  case atStart => exact ⟨0, w.heap.size, 0, Nat.zero_le _, rfl, rfl, rfl, HM.out.1, HM.out.2, Nat.le_refl _⟩
  case round =>
    clear HM
    obtain ⟨k, g, c, hk, rfl, rfl, rfl, HR⟩ := hrel
    by_cases hlt : k < cnt
    · have r1 := restK_le nr k
      have HE : Hid (restK nr (k + 1) = restK nr k / (k + 1)) := rfl
      have HZ := Lib.hid (ordZ_succ nr k)
      have HLK := Lib.hid (ordZ_len nr k)
      generalize restK nr k = r at *
      have hp : r % (k + 1) < k + 1 := Nat.mod_lt _ (by omega)
      have t1 : (r : Int).tmod ((k : Int) + 1) = ((r % (k + 1) : Nat) : Int) := by
        rw [Int.tmod_eq_emod_of_nonneg (by omega), show (k : Int) + 1 = ((k + 1 : Nat) : Int) by omega]; norm_cast
      have t2 : (r : Int).tdiv ((k : Int) + 1) = ((r / (k + 1) : Nat) : Int) := by
        rw [Int.tdiv_eq_ediv_of_nonneg (by omega), show (k : Int) + 1 = ((k + 1 : Nat) : Int) by omega]; norm_cast
      have q1 : r / (k + 1) ≤ r := Nat.div_le_self _ _
      have CW := fun (W : World) (hW : IsInts W (some ⟨g, 0, none⟩) (ordZ nr k)) => iWith g c k (r % (k + 1)) (ordZ nr k) (k : Int) W hW HLK.out HR.out.2.2 (by omega) (by omega)
      generalize hpv : r % (k + 1) = p at *
      generalize hqv : r / (k + 1) = q at *
      have HCW := Lib.hid CW
      have wk : IntKind.i64.wrap ((k : Int) + 1) = (k : Int) + 1 := by rw [IntKind.wrap_i64]; omega
      have nz : (k : Int) + 1 ≠ 0 := by omega
      have nzb : ((k : Int) + 1 == 0) = false := by rw [beq_eq_false_iff_ne]; exact nz
      have wq : IntKind.i64.wrap (q : Int) = (q : Int) := by rw [IntKind.wrap_i64]; omega
      clear CW hpv hqv
      go_wp2_with fail
      refine (HCW.out _ HR.out.1.at_).mono ?_
      rintro e w3 ⟨v3, rfl, O3, B3⟩
      rw [← HZ.out] at O3
      have hl3 : 0 < (ordZ nr (k + 1)).length := by rw [ordZ_len]; omega
      obtain ⟨b3, c3, rfl, _⟩ := O3.ints
      obtain ⟨g3, rfl, hg3⟩ := O3.form_ hl3
      have cp3 := own_capN O3
      rw [ordZ_len] at O3 cp3
      have HN := Lib.hid (And.intro (own_lower O3 HR.out.2.1.size) (And.intro (bel_tr HR.out.2.1 B3) cp3))
      rw [ordZ_len]
      clear O3 B3 cp3 hl3 HR HCW
      go_wp2_with fail
      go_roundw
      case rel => exact ⟨k + 1, g3, c3, by omega, by go_num, by rw [HE.out], rfl, HN.out⟩
      case measure => simp [intOf]; omega
    · obtain rfl : k = cnt := by omega
      have HF : Hid (OwnI wr w.heap.size (.slice (some ⟨g, 0, none⟩) k c) (ordZ nr k) ∧ Below w.heap.size w wr) := ⟨HR.out.1, HR.out.2.1⟩
      clear HR
      go_wp2_with fail
      go_ret
      exact ⟨_, rfl, HF.out⟩
end Go.Proofs.Ytojkgabkiagjdac
