/- spec.trade and spec.TradeTurns. Condition: at most 1048576 lists. -/
import Derived.Test.YtdlbjmhjaljlfabTrdK
import Derived.BigRegion
namespace Go.Proofs.Ytdlbjmhjaljlfab
open Go.RowKit
set_option linter.unusedSimpArgs false
set_option linter.unusedVariables false
def lenV : Value → Nat
  | .slice _ n _ => n
  | _ => 0
def cycL (f : Nat → Nat) (a m : Nat) : List Int := (List.range m).map fun j => ((it f j a : Nat) : Int)
theorem cyc_len (f : Nat → Nat) (a m : Nat) : (cycL f a m).length = m := by unfold cycL; simp
theorem cyc_next (f : Nat → Nat) (a m : Nat) : cycL f a (m + 1) = cycL f a m ++ [((it f m a : Nat) : Int)] := by unfold cycL; rw [List.range_succ, List.map_append]; rfl
theorem cyc_get (f : Nat → Nat) (a : Nat) {m j : Nat} (h : j < m) : (cycL f a m).getD j 0 = ((it f j a : Nat) : Int) := by
  unfold cycL
  rw [List.getD_eq_getElem?_getD, List.getElem?_map, List.getElem?_range h]; rfl
theorem sets_ge (f : Nat → Nat) (a : Nat) (got : List Int) (h : ∀ j, -1 ≤ got.getD j 0) : ∀ m j, -1 ≤ (setsF f a got m).getD j 0 := by
  intro m
  induction m with
  | zero => exact h
  | succ m ih =>
    intro j
    show -1 ≤ (List.set _ _ _).getD j 0
    by_cases hl : it f m a < (setsF f a got m).length
    · rw [getD_setZ j _ hl]
      split
      · omega
      · exact ih j
    · rw [List.set_eq_of_length_le (by omega)]; exact ih j
theorem got_ge (rs : List (List Int)) : ∀ m j, -1 ≤ (gotK rs m).getD j 0 := by
  intro m
  induction m with
  | zero =>
    intro j
    show -1 ≤ (List.replicate rs.length (-1)).getD j 0
    rw [List.getD_eq_getElem?_getD, List.getElem?_replicate]
    split <;> simp
  | succ m ih =>
    intro j
    have e : gotK rs (m + 1) = if flF (gotK rs m) < rs.length then stepC rs (gotK rs m) (flF (gotK rs m)) else gotK rs m := rfl
    rw [e]
    split
    · exact sets_ge _ _ _ ih _ j
    · exact ih j
theorem sFavN {w : World} {a : Option Addr} {rs : List (List Int)} {got : List Int} {B : Option Addr} (hA : IsRows w a rs) (hB : IsInts w B got) (hw : wishB rs = true) (hg : got.length = rs.length) (hge : ∀ j, -1 ≤ got.getD j 0) {p : Nat} (hp : Lf rs got p) (cb : Nat) :
    ∃ g o A m cap, a = some ⟨g, o, none⟩ ∧ w.cell? ⟨g, o + p, none⟩ = some (.slice A m cap) ∧ Calls Try.prog 77 #[.slice A m cap, .slice B got.length cb] w fun e w' => e = .returned (.int .i64 ((nx rs got p : Nat) : Int)) ∧ w = w' := by
  obtain ⟨g, o, A, cap, ha, c, hc, hi⟩ := rows_nth hA hp.1
  obtain ⟨r1, r2⟩ := wish_row hw hp.1
  have := sFav A B cap cb (rs.getD p []) got w hi hB (fun z hz => by rw [hg]; exact r2 z hz) (fun j _ => hge j) r1
  obtain ⟨_, _, k, _, _, _, hf⟩ := nx_is hw hp.1 hp.2
  rw [hf] at this
  exact ⟨g, o, A, _, cap, ha, c, this⟩
set_option maxRecDepth 100000 in
set_option maxHeartbeats 8000000 in
theorem strade (a : Option Addr) (ca : Nat) (rs : List (List Int)) (w : World) (h : IsRows w a rs) (hw : wishB rs = true) :
    Calls Try.prog 44 #[.slice a rs.length ca] w (OutI w (tradeV rs)) := by
  have HW := Lib.hid hw
  have HA := Lib.hid h
  have h8 := wish_len hw
  have HI : Hid (OwnI (w.alloc (.cells #[] 3)) w.heap.size (.slice (some ⟨w.heap.size, 0, none⟩) 0 0) (List.replicate 0 (-1)) ∧ Below w.heap.size w (w.alloc (.cells #[] 3))) := ⟨OwnI.new (Below.refl _ _), (Below.refl _ _).alloc (Nat.le_refl _) _⟩
  clear h hw
  go_enter Try.func44, Try.ntmps44
  go_wp2_with fail
  go_loopw [3, 4] (fun v i wr => ∃ k : Nat, k ≤ rs.length ∧ i = .int .i64 k ∧ Hid (OwnI wr w.heap.size v (List.replicate k (-1)) ∧ Below w.heap.size w wr)) (fun _ i _ => rs.length - (intOf i).toNat)
  case atStart => exact ⟨0, Nat.zero_le _, rfl, HI⟩
  case round =>
    clear HI
    obtain ⟨k, hk, rfl, HS⟩ := hrel
    obtain ⟨b, cp, rfl, _⟩ := HS.out.1.ints
    have hlen : (List.replicate k (-1 : Int)).length = k := by simp
    by_cases hlt : k < rs.length
    · have HO := Lib.hid HS.out.1
      have HB := Lib.hid HS.out.2
      clear hlen
      go_wp2_with (first | (at_builtin; refine wp_snoc rfl _ _ rfl rfl HO.out rfl rfl (by simp; omega) (HB.out.size) ?_; intro v3 w3 Q1 G3 n3))
      have HN : Hid (OwnI w3 w.heap.size v3 (List.replicate (k + 1) (-1)) ∧ Below w.heap.size w w3) := ⟨by rw [List.replicate_succ']; exact Q1, below_gv HB.out G3 (fun q hq => HO.out.grow q hq)⟩
      clear Q1 G3 n3 HO HB HS
      go_wp2_with fail
      go_roundw
      case rel => exact ⟨k + 1, by omega, by go_num, HN⟩
      case measure => simp [intOf]; omega
    · obtain rfl : k = rs.length := by omega
      rw [hlen] at HS ⊢
      have HG : Hid (OwnI wr w.heap.size (.slice b rs.length cp) (gotK rs 0) ∧ Below w.heap.size w wr ∧ ∀ j, j < 0 → (gotK rs 0).getD j 0 ≠ -1) := ⟨HS.out.1, HS.out.2, fun j hj => absurd hj (Nat.not_lt_zero _)⟩
      obtain ⟨w4, h4⟩ : ∃ W, W = wr := ⟨_, rfl⟩
      subst h4
      clear HS hlt hlen
      go_wp2_with fail
      go_loopw [5] (fun i wr => ∃ k m : Nat, k ≤ rs.length ∧ i = .int .i64 k ∧ Hid (OwnI wr w.heap.size (.slice b rs.length cp) (gotK rs m) ∧ Below w.heap.size w wr ∧ ∀ j, j < k → (gotK rs m).getD j 0 ≠ -1)) (fun i _ => rs.length - (intOf i).toNat)
      case atStart => exact ⟨0, 0, Nat.zero_le _, rfl, HG⟩
      case round =>
        clear HG
        obtain ⟨k, m0, hk, rfl, HS⟩ := hrel
        by_cases hlt : k < rs.length
        · obtain ⟨w5, h5⟩ : ∃ W, W = wr := ⟨_, rfl⟩
          subst h5
          have hk0 : (0 : Int) ≤ (k : Int) := by omega
          have hk1 : (k : Int) < (rs.length : Int) := by omega
          obtain ⟨gb, rfl, lb⟩ := OwnI.form_ HS.out.1 (by rw [(got_is HW.out m0).1]; omega)
          go_wp2_with fail
          go_loopw [6] (fun _ wr => ∃ m : Nat, Hid (OwnI wr w.heap.size (.slice (some ⟨gb, 0, none⟩) rs.length cp) (gotK rs m) ∧ Below w.heap.size w wr ∧ ∀ j, j < k → (gotK rs m).getD j 0 ≠ -1)) (fun _ wr => cW wr gb rs.length)
          case atStart => exact ⟨m0, HS⟩
          case round =>
            clear HS
            obtain ⟨m, HS⟩ := hrel
            have hl := (got_is HW.out m).1
            have hz := HS.out.1.cell (j := k) (by omega)
            by_cases c : (gotK rs m).getD k 0 = -1
            · obtain ⟨hL, hst, hc, hno⟩ := got_next HW.out hlt HS.out.2.2 c
              have m1 := cW_own HS.out.1
              rw [hl] at m1
              have hge := got_ge rs m
              have HST := Lib.hid hst
              have HC := Lib.hid hc
              have HNO := Lib.hid hno
              have HO := Lib.hid HS.out.1
              have HB := Lib.hid HS.out.2.1
              rw [c] at hz
              obtain ⟨w6, h6⟩ : ∃ W, W = wr := ⟨_, rfl⟩
              subst h6
              clear HS hst hc hno c
              generalize gotK rs m = got at *
              have HGL := Lib.hid hl
              have HGE := Lib.hid hge
              have HM := Lib.hid m1
              have HLX := Lib.hid hL
              have HK := Lib.hid (fun j => lf_head HW.out hL j)
              have HCI := Lib.hid (cir_of HW.out hL)
              have HP1 : Hid (1 ≤ perC rs got k ∧ perC rs got k ≤ rs.length) := ⟨HCI.out.one, HCI.out.le⟩
              have e0 : decide ((-1 : Int) < 0) = true := by decide
              clear hl hge m1 hL
              go_wp2_with fail
              clear hz e0
              go_loopw [6, 7] (fun p s wr => ∃ j : Nat, j ≤ rs.length ∧ p = .int .i64 ((it (nx rs got) j k : Nat) : Int) ∧ s = .int .i64 (j : Int) ∧ wr = w6) (fun _ s _ => rs.length - (intOf s).toNat)
              case atStart => exact ⟨0, Nat.zero_le _, rfl, rfl, rfl⟩
              case round =>
                obtain ⟨j, hj, rfl, rfl, rfl⟩ := hrel
                by_cases hjl : j < rs.length
                · have hp := lf_it HW.out HLX.out j
                  obtain ⟨g, o, A, m1, cap, rfl, c1, CB⟩ := sFavN (rows_below HA.out HB.out) HO.out.at_ HW.out HGL.out HGE.out hp cp
                  rw [HGL.out] at CB
                  obtain ⟨p', hp'⟩ : ∃ p', it (nx rs got) (j + 1) k = p' := ⟨_, rfl⟩
                  have hn : nx rs got (it (nx rs got) j k) = p' := hp'
                  rw [hn] at CB
                  have hpl := hp.1
                  have HP := Lib.hid hp'
                  have HCB := Lib.hid CB
                  clear hp hn CB hp'
                  generalize it (nx rs got) j k = p at *
                  have q0 : (0 : Int) ≤ (p : Int) := by omega
                  have q1 : (p : Int) < (rs.length : Int) := by omega
                  go_wp2_with fail
                  refine HCB.out.mono ?_
                  rintro e w7 ⟨rfl, rfl⟩
                  go_wp2_with fail
                  go_roundw
                  case rel => exact ⟨j + 1, by omega, by rw [HP.out], by go_num, trivial⟩
                  case measure => simp [intOf]; omega
                · obtain rfl : j = rs.length := by omega
                  have hh : it (nx rs got) rs.length k = headC rs got k := rfl
                  rw [hh]
                  obtain ⟨w8, h8'⟩ : ∃ W, W = wr := ⟨_, rfl⟩
                  subst h8'
                  clear hh hj hjl
                  have HQ : Hid (OwnI (w8.alloc (.cells #[.int .i64 ((headC rs got k : Nat) : Int)] 3)) w8.heap.size (.slice (some ⟨w8.heap.size, 0, none⟩) 1 1) (cycL (nx rs got) (headC rs got k) 1) ∧ Below w8.heap.size w8 (w8.alloc (.cells #[.int .i64 ((headC rs got k : Nat) : Int)] 3))) := ⟨OwnI.one (Below.refl w8.heap.size w8) _, (Below.refl _ _).alloc (Nat.le_refl _) _⟩
                  have hp := HK.out 0
                  obtain ⟨g, o, A, m1, cap, ea, c1, CB⟩ := sFavN (rows_below HA.out (bel_tr HB.out HQ.out.2)) (ints_below HO.out.at_ HQ.out.2) HW.out HGL.out HGE.out hp cp
                  rw [HGL.out] at CB
                  have hn : nx rs got (it (nx rs got) 0 (headC rs got k)) = it (nx rs got) 1 (headC rs got k) := rfl
                  rw [hn] at CB
                  obtain ⟨p', hp'⟩ : ∃ p', it (nx rs got) 1 (headC rs got k) = p' := ⟨_, rfl⟩
                  rw [hp'] at CB
                  have hpl := hp.1
                  have HP := Lib.hid hp'
                  have HCB := Lib.hid CB
                  have hh0 : it (nx rs got) 0 (headC rs got k) = headC rs got k := rfl
                  rw [hh0] at c1 hpl
                  have HEA := Lib.hid ea
                  obtain ⟨pp, hpp⟩ : ∃ pp, headC rs got k = pp := ⟨_, rfl⟩
                  have HPP := Lib.hid hpp
                  rw [hpp] at HQ c1 hpl HCB ⊢
                  clear hp hn CB hp' hh0 hpp
                  subst ea
                  have q0 : (0 : Int) ≤ (pp : Int) := by omega
                  have q1 : (pp : Int) < (rs.length : Int) := by omega
                  go_wp2_with fail
                  refine HCB.out.mono ?_
                  rintro e w9 ⟨rfl, rfl⟩
                  go_wp2_with fail
                  rw [← HP.out]
                  have HKEY : Hid (∀ (j : Nat) (W : World), Below w8.heap.size w8 W → ∃ A m cap, W.cell? ⟨g, o + it (nx rs got) j pp, none⟩ = some (.slice A m cap) ∧ Calls Try.prog 77 #[.slice A m cap, .slice (some ⟨gb, 0, none⟩) rs.length cp] W fun e w' => e = .returned (.int .i64 ((it (nx rs got) (j + 1) pp : Nat) : Int)) ∧ W = w') := fun j W hW => by
                    have hp := HK.out j
                    rw [HPP.out] at hp
                    obtain ⟨g', o', A, m1, cap, ea, c1, CB⟩ := sFavN (rows_below HA.out (bel_tr HB.out hW)) (ints_below HO.out.at_ hW) HW.out HGL.out HGE.out hp cp
                    injection ea with ea
                    injection ea with e1 e2
                    subst e1 e2
                    rw [HGL.out] at CB
                    exact ⟨A, m1, cap, c1, CB⟩
                  have HK2 : Hid (∀ j, it (nx rs got) j pp < rs.length) := fun j => by
                    have := (HK.out j).1
                    rw [HPP.out] at this; exact this
                  have HCJ : Hid (it (nx rs got) (perC rs got k) pp = pp ∧ ∀ j, 0 < j → j < perC rs got k → pp ≠ it (nx rs got) j pp) := by
                    have := HCI.out
                    rw [HPP.out] at this
                    exact ⟨this.back, fun j h1 h2 => this.ne 0 j h1 h2⟩
                  have HSTP : Hid (setsF (nx rs got) pp got (perC rs got k) = gotK rs (m + 1)) := by
                    have := HST.out
                    unfold stepC at this
                    rw [HPP.out] at this; exact this
                  clear HCB c1 q0 q1 hpl
                  go_loopw [8, 9] (fun v i wr => ∃ q : Nat, 1 ≤ q ∧ q ≤ perC rs got k ∧ i = .int .i64 ((it (nx rs got) q pp : Nat) : Int) ∧ Hid (OwnI wr w8.heap.size v (cycL (nx rs got) pp q) ∧ Below w8.heap.size w8 wr)) (fun v _ _ => rs.length - lenV v)
                  case atStart => exact ⟨1, Nat.le_refl _, HP1.out.1, by rw [← HPP.out], HQ⟩
                  case round =>
                    clear HQ
                    obtain ⟨q, hq1, hq, rfl, HS⟩ := hrel
                    obtain ⟨b2, c2, rfl, _⟩ := HS.out.1.ints
                    have hcl := cyc_len (nx rs got) pp q
                    rw [hcl] at HS ⊢
                    have HP1q := HP1.out.2
                    by_cases hlq : q < perC rs got k
                    · have hne := HCJ.out.2 q (by omega) hlq
                      have hpl := HK2.out q
                      obtain ⟨p', hp'⟩ : ∃ p', it (nx rs got) (q + 1) pp = p' := ⟨_, rfl⟩
                      have HKQ := Lib.hid (fun W hW => HKEY.out q W hW)
                      have HCN := Lib.hid (cyc_next (nx rs got) pp q)
                      have HP := Lib.hid hp'
                      rw [hp'] at HKQ
                      clear hcl hp'
                      generalize it (nx rs got) q pp = p at *
                      have e1 : ((p : Int) != (pp : Int)) = true := by rw [bne_iff_ne]; omega
                      have e2 : (p != pp) = true := by rw [bne_iff_ne]; omega
                      have q0 : (0 : Int) ≤ (p : Int) := by omega
                      have q1 : (p : Int) < (rs.length : Int) := by omega
                      have HHS := Lib.hid HS.out
                      clear hne HS
                      go_wp2_with (first | (at_builtin; refine wp_snoc rfl _ _ rfl rfl HHS.out.1 rfl rfl (by rw [cyc_len]; omega) (HHS.out.2.size) ?_; intro v3 w3 Q1 G3 n3; have HB3 := Lib.hid (below_gv HHS.out.2 G3 (fun r hr => HHS.out.1.grow r hr)); rw [← HCN.out] at Q1; have HQ3 := Lib.hid Q1; clear Q1 G3 n3; obtain ⟨A, m1, cap, c1, CB⟩ := HKQ.out w3 HB3.out; have HCB := Lib.hid CB; clear CB))
                      refine HCB.out.mono ?_
                      rintro e w7 ⟨rfl, rfl⟩
                      go_wp2_with fail
                      go_roundw
                      case rel => exact ⟨q + 1, by omega, hlq, by rw [HP.out], HQ3.out, HB3.out⟩
                      case measure =>
                        obtain ⟨b3, c3, rfl, _⟩ := HQ3.out.ints
                        show rs.length - (cycL (nx rs got) pp (q + 1)).length < rs.length - q
                        rw [cyc_len]; omega
                    · have hqP : perC rs got k = q := by omega
                      rw [hqP] at HCJ HSTP
                      have hback := HCJ.out.1
                      obtain ⟨gC, rfl, lC⟩ := OwnI.form_ HS.out.1 (by rw [hcl]; omega)
                      obtain ⟨w10, h10⟩ : ∃ W, W = wr := ⟨_, rfl⟩
                      subst h10
                      have lO : gb < w8.heap.size := HO.out.blk.2
                      have HBK := Lib.hid hback
                      rw [hback]
                      have HZ : Hid (OwnI w10 w.heap.size (.slice (some ⟨gb, 0, none⟩) rs.length cp) (setsF (nx rs got) pp got 0) ∧ OwnI w10 w8.heap.size (.slice (some ⟨gC, 0, none⟩) q c2) (cycL (nx rs got) pp q) ∧ Below w.heap.size w w10) := ⟨HO.out.of_block HS.out.2, HS.out.1, bel_tr HB.out HS.out.2⟩
                      have HQ1 := Lib.hid hq1
                      have q8 : q ≤ 8 := by omega
                      clear hcl hq hlq HS hback hqP HP1q hq1
                      go_wp2_with fail
                      go_loopw [10] (fun s wr => ∃ j : Nat, j ≤ q ∧ s = .int .i64 (j : Int) ∧ Hid (OwnI wr w.heap.size (.slice (some ⟨gb, 0, none⟩) rs.length cp) (setsF (nx rs got) pp got j) ∧ OwnI wr w8.heap.size (.slice (some ⟨gC, 0, none⟩) q c2) (cycL (nx rs got) pp q) ∧ Below w.heap.size w wr)) (fun s _ => q - (intOf s).toNat)
                      case atStart => exact ⟨0, Nat.zero_le _, rfl, HZ⟩
                      case round =>
                        clear HZ
                        obtain ⟨j, hj, rfl, HS⟩ := hrel
                        by_cases hjl : j < q
                        · have x1 := HS.out.2.1.cell (j := j) (by rw [cyc_len]; exact hjl)
                          rw [cyc_get _ _ hjl] at x1
                          obtain ⟨r, hr1, hr2, hr3⟩ : ∃ r : Nat, r < q ∧ Int.tmod ((j : Int) + 1) (q : Int) = (r : Int) ∧ it (nx rs got) r pp = it (nx rs got) (j + 1) pp := by
                            by_cases e : j + 1 = q
                            · exact ⟨0, by omega, by rw [show ((j : Int) + 1) = (q : Int) from by omega, Int.tmod_self]; rfl, by rw [e, HBK.out]; rfl⟩
                            · exact ⟨j + 1, by omega, by rw [Int.tmod_eq_emod_of_nonneg (by omega), Int.emod_eq_of_lt (by omega) (by omega)]; omega, rfl⟩
                          have x2 := HS.out.2.1.cell (j := r) (by rw [cyc_len]; exact hr1)
                          rw [cyc_get _ _ hr1, hr3] at x2
                          have hpl := HK2.out j
                          have x3 := HS.out.1.cell (j := it (nx rs got) j pp) (by rw [sets_len, HGL.out]; exact hpl)
                          have xf := HS.out.1.frozen (it (nx rs got) j pp)
                          have HN : Hid (OwnI (wr.setCell ⟨gb, it (nx rs got) j pp, none⟩ (.int .i64 ((it (nx rs got) (j + 1) pp : Nat) : Int))) w.heap.size (.slice (some ⟨gb, 0, none⟩) rs.length cp) (setsF (nx rs got) pp got (j + 1)) ∧ OwnI (wr.setCell ⟨gb, it (nx rs got) j pp, none⟩ (.int .i64 ((it (nx rs got) (j + 1) pp : Nat) : Int))) w8.heap.size (.slice (some ⟨gC, 0, none⟩) q c2) (cycL (nx rs got) pp q) ∧ Below w.heap.size w (wr.setCell ⟨gb, it (nx rs got) j pp, none⟩ (.int .i64 ((it (nx rs got) (j + 1) pp : Nat) : Int)))) :=
                            ⟨HS.out.1.set_ _ _, HS.out.2.1.far (g := gb) (fun e => by injection e with e; simp at e; omega) _, HS.out.2.2.setCell lb _⟩
                          clear HS hr3
                          generalize (setsF (nx rs got) pp got j).getD (it (nx rs got) j pp) 0 = y at x3
                          obtain ⟨p', hp'⟩ : ∃ p', it (nx rs got) (j + 1) pp = p' := ⟨_, rfl⟩
                          obtain ⟨jn, hjn⟩ : ∃ jn, j + 1 = jn := ⟨_, rfl⟩
                          rw [hp'] at x2 HN
                          rw [hjn] at HN
                          have HJ := Lib.hid hjn
                          clear hp' hjn
                          generalize it (nx rs got) j pp = p at *
                          have wj : IntKind.i64.wrap ((j : Int) + 1) = (j : Int) + 1 := by rw [IntKind.wrap_i64]; omega
                          have qn : ((q : Int) == 0) = false := by rw [beq_eq_false_iff_ne]; omega
                          have wr1 : IntKind.i64.wrap (r : Int) = (r : Int) := by rw [IntKind.wrap_i64]; omega
                          have q0 : (0 : Int) ≤ (p : Int) := by omega
                          have q1 : (p : Int) < (rs.length : Int) := by omega
                          have q2 : (0 : Int) ≤ (j : Int) := by omega
                          have q3 : (j : Int) < (q : Int) := by omega
                          have q4 : (0 : Int) ≤ (r : Int) := by omega
                          have q5 : (r : Int) < (q : Int) := by omega
                          go_wp2_with fail
                          go_region
                          go_wp2_with fail
                          go_roundw
                          case rel => exact ⟨jn, by have := HJ.out; omega, by rw [← HJ.out]; go_num, HN.out.1, HN.out.2.1, HN.out.2.2.drew⟩
                          case measure => have := HJ.out; simp [intOf]; omega
                        · have hjq : j = q := by omega
                          subst hjq
                          have O2 := HS.out.1
                          rw [HSTP.out] at O2
                          have B2 := HS.out.2.2
                          have HN : Hid (OwnI wr w.heap.size (.slice (some ⟨gb, 0, none⟩) rs.length cp) (gotK rs (m + 1)) ∧ Below w.heap.size w wr ∧ ∀ j, j < k → (gotK rs (m + 1)).getD j 0 ≠ -1) := ⟨O2, B2, HNO.out⟩
                          have m2 := cW_own O2
                          rw [(got_is HW.out (m + 1)).1] at m2
                          have HM2 : Hid (cW wr gb rs.length < cW w8 gb rs.length) := by
                            show _ < _
                            rw [m2, HM.out]; exact HC.out
                          clear O2 B2 HS m2
                          go_wp2_with fail
                          go_roundw
                          case rel => exact ⟨m + 1, HN⟩
                          case measure => exact HM2.out
            · have HN : Hid (OwnI wr w.heap.size (.slice (some ⟨gb, 0, none⟩) rs.length cp) (gotK rs m) ∧ Below w.heap.size w wr ∧ ∀ j, j < k + 1 → (gotK rs m).getD j 0 ≠ -1) := ⟨HS.out.1, HS.out.2.1, fun j hj => by
                by_cases e : j = k
                · subst e; exact c
                · exact HS.out.2.2 j (by omega)⟩
              have hge := got_ge rs m k
              generalize (gotK rs m).getD k 0 = y at hz c hge
              have e1 : decide (y < 0) = false := decide_eq_false (by omega)
              clear c HS hl hge
              go_wp2_with fail
              go_roundw
              case rel => exact ⟨k + 1, m, by omega, by go_num, HN⟩
              case measure => simp [intOf]; omega
        · obtain rfl : k = rs.length := by omega
          have ht := tr_yes HW.out HS.out.2.2
          rw [ht] at HS
          go_wp2_with fail
          go_ret
          exact ⟨_, rfl, HS.out.1, HS.out.2.1⟩
end Go.Proofs.Ytdlbjmhjaljlfab
