/- ParseLedger, by the program. Condition: texts of at most 4294967296 bytes. -/
import Derived.Test.YtdlbjmhjaljlfaaLgpI
namespace Go.Proofs.Ytdlbjmhjaljlfaa
open Go.RowKit
set_option linter.unusedSimpArgs false
set_option linter.unusedVariables false
def sizeV : Value → Nat
  | .string s => s.size
  | _ => 0
theorem ownH_nil (w : World) (b : Nat) : OwnH w b (.slice none 0 0) [] := ⟨rfl, .inl ⟨rfl, rfl⟩⟩
theorem ownH_new (w : World) : OwnH (w.alloc (.cells #[] 85)) w.heap.size (.slice (some ⟨w.heap.size, 0, none⟩) 0 0) [] := ⟨rfl, .inr ⟨w.heap.size, 0, #[], rfl, Nat.le_refl _, Blk.new _ _ _, Nat.le_refl _, by unfold maxLen; omega, rfl, rfl⟩⟩
theorem ownH_next {w w' : World} {base : Nat} {v : Value} {hs : List Hd} (h : OwnH w base v hs) (hb : Below w.heap.size w w') : OwnH w' base v hs := by
  have hg : w.grownBy w' none := ⟨hb.os, hb.tape, hb.output, hb.size, fun i hi _ => hb.block i hi⟩
  by_cases c : v.ownBlock = none
  · exact World.ownsRow.kept h hg (.inl c)
  · exact World.ownsRow.kept h hg (.inr c)
/-- what ParseLedger leaves -/
def ParL (w : World) (s : ByteArray) : Ending → World → Prop := MoveV w (plB s) (ledOf (plL s))
theorem parL_no {w w' : World} {s : ByteArray} (h : plB s = false) (hb : Below w.heap.size w w') : ParL w s (.returned (.tuple #[.slice none 0 0, .bool false])) w' := ⟨_, by rw [h], fun _ => rfl, fun c => (by rw [h] at c; cases c), hb⟩
theorem parL_yes {w w' : World} {s : ByteArray} {v : Value} {hs : List Hd} (h : plB s = true) (e : plL s = hs) (hv : vlR hs = true) (hO : OwnH w' w.heap.size v hs) (hb : Below w.heap.size w w') : ParL w s (.returned (.tuple #[v, .bool true])) w' :=
  ⟨v, by rw [h], fun c => (by rw [h] at c; cases c), fun _ => by rw [e, (vlR_is hv).1]; exact hO, hb⟩
set_option maxRecDepth 100000 in
set_option maxHeartbeats 4000000 in
/-- impl.ParseLedger -/
theorem iParL (s : ByteArray) (w : World) (h : s.size ≤ 4294967296) :
    Calls Try.prog 27 #[.string s] w (ParL w s) := by
  obtain ⟨i0, hi0, hz0, hzz, hz2⟩ := info_parts infoH
  have K0 := ownH_new w
  have B0 : Below w.heap.size w (w.alloc (.cells #[] 85)) := by go_grown
  have HS : Hid (s.extract 0 s.size = s) := by show _ = _; simp
  go_enter Try.func27, Try.ntmps27
  go_wp2_with fail
  go_loopw [4, 5] (fun v r wr => ∃ (p : Nat) (P : List ByteArray), Hid (p ≤ s.size ∧ cutTo 10 s p = (P, p) ∧ (∀ l ∈ P, hokB l = true) ∧ P.length ≤ 12) ∧ r = .string (s.extract p s.size) ∧ OwnH wr w.heap.size v (P.map (hdS 10000000)) ∧ Below w.heap.size w wr) (fun _ r _ => sizeV r)
  case atStart => exact ⟨0, [], ⟨Nat.zero_le _, rfl, fun l hl => (by cases hl), Nat.zero_le _⟩, by rw [HS.out], K0, B0⟩
  case round =>
    clear K0 B0
    obtain ⟨p, P, HP, rfl, hO, hB⟩ := hrel
    have hsz := hB.size
    obtain ⟨hp, hc, hok, h12⟩ := HP.out
    have hR := rest_size s p
    have hl : (P.map (hdS 10000000)).length = P.length := by simp
    obtain ⟨b, cap, rfl, hI⟩ := own_hs hO
    rw [hl] at hO ⊢
    have HO := Lib.hid hO
    have HL := Lib.hid hl
    have hN : P.length ≤ 1048576 := by omega
    clear hO
    by_cases hlt : p < s.size
    · have e0 : decide (((s.extract p s.size).size : Int) > 0) = true := decide_eq_true (by omega)
      rcases rest_idx s p with ⟨e, he, hb, hbn, hx⟩ | ⟨hbn, hx⟩
      · have hH := cut_hit hc hb hbn
        have E1 := ext_ext1 s (p := p) (e := e) (by omega)
        have E2 := ext_ext2 s p e
        generalize s.extract p s.size = R at *
        have HX := Lib.hid hx
        have zR : R.size ≤ 4294967296 := by omega
        have q0 : ¬ ((e : Int) < 0) := by omega
        by_cases hm : P.length = 12
        · have HN := Lib.hid (pl_no2 (s := s) (p := p + e + 1) (by omega) (by rw [hH]; simp; omega))
          have e1 : decide ((P.length : Int) = 12) = true := decide_eq_true (by omega)
          have e2 : ((P.length : Int) == 12) = true := by rw [hm]; rfl
          clear hx hH E1 E2 hb hbn hc hok
          go_wp2_with fail
          refine (iidx R 10 _ zR).mono ?_
          rintro e3 w' ⟨rfl, rfl⟩
          rw [HX.out]
          go_wp2_with fail
          go_returns
          exact parL_no HN.out hB
        · have e1 : decide ((P.length : Int) = 12) = false := decide_eq_false (by omega)
          have e2 : ((P.length : Int) == 12) = false := beq_eq_false_iff_ne.2 (by omega)
          have q1 : (0 : Int) ≤ (e : Int) := by omega
          have q2 : (e : Int) ≤ (R.size : Int) := by omega
          have q3 : (0 : Int) ≤ (e : Int) + 1 := by omega
          have q4 : (e : Int) + 1 ≤ (R.size : Int) := by omega
          have t1 : IntKind.i64.wrap ((e : Int) + 1) = (e : Int) + 1 := by rw [IntKind.wrap_i64]; omega
          have t2 : ((e : Int) + 1).toNat = e + 1 := by omega
          rw [← hR] at E2
          rw [← E1] at hH
          have zA : (R.extract 0 e).size ≤ 4294967296 := Nat.le_trans (ext_size _ _ _) zR
          generalize hA : R.extract 0 e = A at *
          generalize hD : R.extract (e + 1) R.size = R2 at *
          have zD : R2.size < R.size := by rw [E2, rest_size]; omega
          have HD := Lib.hid E2
          have HH := Lib.hid hH
          have hdv := hdV_yes (l := A)
          have hdn := hdV_no (l := A)
          have HE : Hid (p + e + 1 ≤ s.size) := by show _ ≤ _; omega
          clear hx hH E1 E2 hb hbn hc hR
          cases hk : hokB A with
          | false =>
            have HN := Lib.hid (pl_no3 HE.out (by rw [HH.out]; simp) hk)
            have HV := Lib.hid (hdn hk)
            clear hdn hdv hk
            go_wp2_with fail
            refine (iidx R 10 _ zR).mono ?_
            rintro e3 w' ⟨rfl, rfl⟩
            rw [HX.out]
            go_wp2_with fail
            refine (ireadH A _ zA).mono ?_
            rintro e3 w1 ⟨rfl, C⟩
            rw [HV.out]
            have B1 := bel_tr hB C
            have hz1 := B1.size
            clear C
            go_wp2_with fail
            go_returns
            exact parL_no HN.out (by go_grown)
          | true =>
            have HV := Lib.hid (hdv hk)
            have HK : Hid (∀ l ∈ P ++ [A], hokB l = true) := fun l hl => by
              rcases List.mem_append.1 hl with hl | hl
              · exact hok l hl
              · simp only [List.mem_singleton] at hl; subst hl; exact hk
            have hh : hdS 10000000 A = (rdS 10000000 (wA A), pnum (wB A), pden (wB A)) := rfl
            clear hdn hdv hk hok
            generalize rdS 10000000 (wA A) = o1 at *
            generalize pnum (wB A) = n1 at *
            generalize pden (wB A) = d1 at *
            have HHd := Lib.hid hh
            clear hh
            go_wp2_with fail
            refine (iidx R 10 _ zR).mono ?_
            rintro e3 w' ⟨rfl, rfl⟩
            rw [HX.out]
            go_wp2_with fail
            refine (ireadH A _ zA).mono ?_
            rintro e3 w1 ⟨rfl, C⟩
            rw [HV.out]
            have O1 : w1.ownsRow w.heap.size 85 3 (.slice b P.length cap) P.length (valsH (P.map (hdS 10000000))) := by have := ownH_next HO.out C; unfold OwnH at this; rw [hl] at this; exact this
            have B1 := bel_tr hB C
            have hz1 := B1.size
            clear C hI
            have J := Blk.new w1 85 #[.int .i64 o1, .int .i64 n1, .int .i64 d1]
            have j0 := J.cell 0
            have j1 := J.cell 1
            have j2 := J.cell 2
            simp only [List.getElem?_toArray, List.getElem?_cons_zero, List.getElem?_cons_succ] at j0 j1 j2
            have NC : ∀ j u, [Value.int .i64 o1, .int .i64 n1, .int .i64 d1][j]? = some u → ((w1.alloc (.cells #[.int .i64 o1, .int .i64 n1, .int .i64 d1] 85)).alloc (.cells #[.int .i64 o1, .int .i64 n1, .int .i64 d1] 85)).cell? ((⟨w1.heap.size + 1, 0, none⟩ : Addr).add j) = some u := by
              have := new_cells (w1.alloc (.cells #[.int .i64 o1, .int .i64 n1, .int .i64 d1] 85)) [Value.int .i64 o1, .int .i64 n1, .int .i64 d1] 85
              rw [World.size_alloc] at this
              exact this
            have O2 := Lib.hid ((O1.alloc (.cells #[.int .i64 o1, .int .i64 n1, .int .i64 d1] 85)).alloc (.cells #[.int .i64 o1, .int .i64 n1, .int .i64 d1] 85))
            have B2 := Lib.hid ((B1.alloc hz1 (.cells #[.int .i64 o1, .int .i64 n1, .int .i64 d1] 85)).alloc (by simp; omega) (.cells #[.int .i64 o1, .int .i64 n1, .int .i64 d1] 85))
            have HNC := Lib.hid NC
            clear NC O1 B1 J
            go_wp2_with (first | (at_builtin; refine wpList_append_own _ rfl _ _ _ rfl w.heap.size 85 i0 _ 3 24 Try.underlying23 hi0 hz0 hzz hz2 rfl (by decide) _ P.length (valsH (P.map (hdS 10000000))) rfl O2.out ⟨w1.heap.size + 1, 0, none⟩ 1 1 [.int .i64 o1, .int .i64 n1, .int .i64 d1] rfl rfl HNC.out (vals_one [(o1, n1, d1)]) (by unfold maxLen; omega) (by omega) (by simp; omega) ?_; intro v2 w2 hO2 hg2 hat2))
            have OF : OwnH w2 w.heap.size v2 ((P ++ [A]).map (hdS 10000000)) := by
              unfold OwnH
              rw [List.map_append, List.length_append, vals_append, HL.out]
              show w2.ownsRow _ _ 3 v2 (P.length + 1) (valsH _ ++ valsH [hdS 10000000 A])
              rw [HHd.out]; exact hO2
            have BF : Below w.heap.size w w2 := B2.out.grown hg2 B2.out.size (fun q hq => (World.ownsRow.lt O2.out q hq).1)
            have HOF := Lib.hid OF
            have HBF := Lib.hid BF
            clear OF BF hO2 hg2 hat2 O2 B2
            go_roundw
            case rel => exact ⟨p + e + 1, P ++ [A], ⟨HE.out, HH.out, HK.out, by simp; omega⟩, by rw [HD.out], HOF.out, HBF.out⟩
            case measure => simp only [sizeV]; exact zD
      · have HN := Lib.hid (pl_no1 hc hlt hbn)
        generalize s.extract p s.size = R at *
        have HX := Lib.hid hx
        have zR : R.size ≤ 4294967296 := by omega
        clear hx hbn hc hok
        go_wp2_with fail
        refine (iidx R 10 _ zR).mono ?_
        rintro e3 w' ⟨rfl, rfl⟩
        rw [HX.out]
        go_wp2_with fail
        go_returns
        exact parL_no HN.out hB
    · obtain rfl : p = s.size := by omega
      have e0 : decide (((s.extract s.size s.size).size : Int) > 0) = false := decide_eq_false (by omega)
      obtain ⟨E1, E2⟩ := pl_end hc hok
      obtain ⟨T1, T2⟩ := hd_two P
      have CV := fun W c => iVL b cap (P.map (hdS 10000000)) W c (by rw [hl]; omega)
      rw [hl] at CV
      generalize s.extract s.size s.size = R at *
      cases hv : vlR (P.map (hdS 10000000)) with
      | false =>
        have HN : Hid (plB s = false) := Lib.hid (by rw [E1, ← T1]; exact hv)
        rw [hv] at CV
        clear E1 E2 T1 T2 hv hc hok
        go_wp2_with fail
        refine (CV _ hI).mono ?_
        rintro e3 w1 ⟨rfl, C⟩
        go_wp2_with fail
        go_returns
        exact parL_no HN.out (bel_tr hB C)
      | true =>
        have HY : Hid (plB s = true) := Lib.hid (by rw [E1, ← T1]; exact hv)
        have HQ : Hid (plL s = P.map (hdS 10000000)) := Lib.hid (by rw [E2]; exact (T2 (by rw [← T1]; exact hv)).symm)
        have HVV := Lib.hid hv
        rw [hv] at CV
        clear E1 E2 T1 T2 hv hc hok
        go_wp2_with fail
        refine (CV _ hI).mono ?_
        rintro e3 w1 ⟨rfl, C⟩
        go_wp2_with fail
        go_returns
        exact parL_yes HY.out HQ.out HVV.out (ownH_next HO.out C) (bel_tr hB C)
end Go.Proofs.Ytdlbjmhjaljlfaa
