/- Contracts and facts of functions of this program, in build order. Conditions: those stated in each. -/
import Derived.Test.YthagafkjlecagaaGrD
import Derived.Test.YthagafkjlecagaaGrB
import Derived.Test.YthagafkjlecagaaGrC
import Derived.Test.YthagafkjlecagaaGrA
import Derived.Laws.AppendOwn
import Derived.OwnWalk
import Derived.OpenShut
import Derived.Deep.AppendLies
import Derived.Deep.OwnRows
import Derived.Deep.RegionHeld3
import Derived.Deep.RegionWith
import Derived.Deep.QuietTactic
import Derived.BigQuiet
import Derived.RegionTactic
import Derived.Lib.SmallJoins
import Derived.Deep.MidRow
import Derived.StillTailTactics
namespace Go.Proofs.Ythagafkjlecagaa
open Go.RowKit

theorem pok_no {s : ByteArray} (h : idxI 47 s = -1) : pok s = false := by unfold pok; rw [h]; rfl
theorem pok_at {s : ByteArray} {k : Nat} (h : idxI 47 s = k) : pok s = Wsh.vfB (rdS 1000000 (s.extract 0 k)) (rdS 1000000 (s.extract (k + 1) s.size)) ∧ pnum s = rdS 1000000 (s.extract 0 k) ∧ pden s = rdS 1000000 (s.extract (k + 1) s.size) := by
  unfold pok pnum pden
  rw [h, decide_eq_true (by omega), Bool.true_and]
  exact ⟨rfl, rfl, rfl⟩
theorem frV_no' {b : Bool} {x y : Int} (h : b = false) : Ending.returned (.tuple #[.agg #[.int .i64 0, .int .i64 0], .bool false]) = .returned (frV b x y) := by rw [h]; rfl
theorem frV_yes' {b : Bool} {x y u v : Int} (h : b = true) (hx : u = x) (hy : v = y) : Ending.returned (.tuple #[.agg #[.int .i64 u, .int .i64 v], .bool true]) = .returned (frV b x y) := by rw [h, hx, hy]; rfl
theorem iread_q (s : ByteArray) (w : World) (h : s.size ≤ 4294967296) : ∀ j : Nat, Calls Try.prog 92 #[.string s] (w.drewN j) fun e w' => e = .returned (.int .i64 (rdS 10000000 s)) ∧ ∃ m, w' = w.drewN m :=
  fun j => Calls.quiet_of_same (w := w) (n := j) ((iread s _ h).mono (fun _ _ h => ⟨h.1, h.2.symm⟩))
theorem ext_size (s : ByteArray) (a b : Nat) : (s.extract a b).size ≤ s.size := by
  rw [← bt_len, ext_data, ← bt_len, List.length_take, List.length_drop]; omega
theorem c2_drew {w : World} {g : Nat} {x y : Value} (h : Cell2 w g x y) : Cell2 w.drew g x y := h
set_option maxHeartbeats 1000000 in
/-- impl.ParseFrac -/
theorem iPar (s : ByteArray) (w : World) (h : s.size ≤ 4294967296) :
    Calls Try.prog 106 #[.string s] w fun e w' => e = .returned (frV (pok s) (pnum s) (pden s)) ∧ Below w.heap.size w w' := by
  rcases idx_or 47 s with ⟨k, hk, _, _, hi⟩ | ⟨_, hi⟩
  · obtain ⟨e1, e2, e3⟩ := pok_at hi
    obtain ⟨l1, l2⟩ := vf_lim (s.extract 0 k) (s.extract (k + 1) s.size)
    have z1 := ext_size s 0 k
    have z2 := ext_size s (k + 1) s.size
    rw [e1, e2, e3]
    have HI := Lib.hid hi
    have HL := Lib.hid l2
    have HL1 := Lib.hid l1
    clear e1 e2 e3 hi l1 l2
    go_enter Try.func106, Try.ntmps106
    go_wp2_with fail
    refine (iidx s 47 _ h).mono ?_
    rintro e w' ⟨rfl, rfl⟩
    rw [HI.out]
    go_wp2_with fail
    have q1 : (0 : Int) ≤ (k : Int) := by omega
    have q2 : (k : Int) ≤ (s.size : Int) := by omega
    have q3 : (0 : Int) ≤ (k : Int) + 1 := by omega
    have q4 : (k : Int) + 1 ≤ (s.size : Int) := by omega
    have t1 : IntKind.i64.wrap ((k : Int) + 1) = (k : Int) + 1 := by rw [IntKind.wrap_i64]; omega
    have t2 : ((k : Int) + 1).toNat = k + 1 := by omega
    generalize hA : s.extract 0 k = A at *
    generalize hD : s.extract (k + 1) s.size = D at *
    have za : A.size ≤ 4294967296 := by omega
    have zd : D.size ≤ 4294967296 := by omega
    go_region_held3 (fun _ => True) (exact trivial) (first | (go_at_call_of 92 (Value.string A); refine (iread A _ za).mono ?_; rintro e w' ⟨rfl, rfl⟩) | (go_at_call_of 92 (Value.string D); refine (iread D _ zd).mono ?_; rintro e w' ⟨rfl, rfl⟩))
    all_goals (
      go_wp2_with fail
      refine (iValid (rdS 10000000 A) (rdS 10000000 D) _).mono ?_
      rintro e w1 ⟨rfl, hb⟩
      obtain ⟨c0, c1, f0, f1, hz⟩ := c2_below (c2_drew (c2_new (w.alloc (.cells #[.int .i64 0, .int .i64 0] 31)) (.int .i64 (rdS 10000000 A)) (.int .i64 (rdS 10000000 D)) _)) hb
      have hB1 : Below w.heap.size w w1 := bel_tr (by go_grown) hb
      simp only [World.size_alloc] at c0 c1 f0 f1 hz
      obtain ⟨d0, d1, g0, g1, hy⟩ := c2_below (c2_drew (c2_alloc (c2_new w (.int .i64 0) (.int .i64 0) 31) (.cells #[.int .i64 (rdS 10000000 A), .int .i64 (rdS 10000000 D)] 31))) hb
      clear hb
      rw [HL1.out]
      cases hv : Wsh.vfB (rdS 1000000 A) (rdS 1000000 D) with
      | false =>
        go_wp2_with fail
        refine bodyPost_ret (v := .tuple #[.agg #[.int .i64 0, .int .i64 0], .bool false]) (by simp [results, Try.results106, go_sem, d0, d1]) rfl ⟨frV_no' (by rw [hA, hD]; exact hv), by go_grown⟩
      | true =>
        have HE := Lib.hid (HL.out hv)
        go_wp2_with fail
        refine bodyPost_ret (v := .tuple #[.agg #[.int .i64 (rdS 10000000 A), .int .i64 (rdS 10000000 D)], .bool true]) (by simp [results, Try.results106, go_sem, d0, d1]) rfl ⟨frV_yes' (by rw [hA, hD]; exact hv) (by rw [hA]; exact HE.out.1) (by rw [hD]; exact HE.out.2), by go_grown⟩)
  · have HX := Lib.hid (pok_no hi)
    have HI := Lib.hid hi
    clear hi
    go_enter Try.func106, Try.ntmps106
    go_wp2_with fail
    refine (iidx s 47 _ h).mono ?_
    rintro e w' ⟨rfl, rfl⟩
    rw [HI.out]
    go_wp2_with fail
    go_returns
    exact ⟨frV_no' HX.out, by go_grown⟩
end Go.Proofs.Ythagafkjlecagaa
namespace Go.Proofs.Ythagafkjlecagaa
open Go.RowKit

theorem infoStr : (Try.prog.info? 9).map (fun i => (i.zero, i.size, i.bytes)) = some (some (.string { data := #[] }), 1, 16) := by kernel_rfl
/-- what splitAt leaves -/
def Splat (w : World) (c : Int) (s : ByteArray) (e : Ending) (w' : World) : Prop := ∃ v, e = .returned v ∧ w'.ownsRow w.heap.size 9 1 v (cutS c s).length ((cutS c s).map Value.string) ∧ Below w.heap.size w w'
set_option maxHeartbeats 2000000 in
theorem ssplit (s : ByteArray) (c : Int) (w : World) (h : s.size ≤ 4294967296) :
    Calls Try.prog 77 #[.string s, .int .u8 c] w (Splat w c s) := by
  have hb := get_bt s
  obtain ⟨i0, hi, hz0, hz1, hz2⟩ := info_parts infoStr
  go_enter Try.func77, Try.ntmps77
  go_wp2_with fail
  go_loopw [5, 6, 7] (fun v f i wr => ∃ k : Nat, k ≤ s.size ∧ i = .int .i64 k ∧ f = .int .i64 ((cutTo c s k).2 : Int) ∧ wr.ownsRow w.heap.size 9 1 v (cutTo c s k).1.length ((cutTo c s k).1.map Value.string) ∧ Below w.heap.size w wr) (fun _ _ i _ => s.size - (intOf i).toNat)
  case atStart => exact ⟨0, Nat.zero_le _, rfl, rfl, ⟨by simp [cutTo], .inr ⟨w.heap.size, 0, #[], rfl, Nat.le_refl _, Go.Deep.blk_alloc_new _ _, Nat.le_refl _, by unfold maxLen; omega, rfl, rfl⟩⟩, by go_grown⟩
  case round =>
    obtain ⟨k, hk, rfl, rfl, hown, hB⟩ := hrel
    have hsz := hB.size
    obtain ⟨y1, y2⟩ := cutTo_bd c s k
    by_cases hlt : k < s.size
    · by_cases hc : bt s k = c
      · have HC := Lib.hid (cutTo_hit hc)
        have ec : (bt s k == c) = true := by rw [beq_iff_eq]; exact hc
        clear hc
        generalize cutTo c s k = p at *
        obtain ⟨L, f⟩ := p
        simp only at y1 y2 hown HC
        generalize hn : L.length = n at *
        go_wp2_with (first | (at_builtin; refine wpList_append_own _ rfl _ _ 74 rfl w.heap.size 9 i0 (.string { data := #[] }) 1 16 Try.underlying74 hi hz0 hz1 hz2 rfl (by decide) _ _ _ rfl (hown.alloc _) ⟨wr.heap.size, 0, none⟩ 1 1 [.string (s.extract f k)] rfl rfl (cell_one_new _ _ _) (fun x hx => by simp at hx; subst hx; rfl) (by unfold maxLen; omega) (by omega) (by simp; omega) ?_; intro v' w3 hown' hgrow3 hnil3))
        have HR : Hid (w3.ownsRow w.heap.size 9 1 v' (n + 1) ((L ++ [s.extract f k]).map Value.string) ∧ Below w.heap.size w w3) := ⟨by rw [List.map_append]; exact hown', (hB.alloc hsz _).grown hgrow3 (by simp; omega) (fun q hq => (hown.lt q hq).1)⟩
        clear hown hown' hgrow3 hnil3 hB
        go_roundw
        case rel =>
          refine ⟨k + 1, by omega, by go_num, by rw [HC.out]; go_num, ?_, HR.out.2⟩
          rw [HC.out]
          show w3.ownsRow _ _ 1 v' (L ++ [s.extract f k]).length _
          rw [List.length_append, hn]; exact HR.out.1
        case measure => simp [intOf]; omega
      · have HC := Lib.hid (cutTo_miss hc)
        have ec : (bt s k == c) = false := by rw [beq_eq_false_iff_ne]; exact hc
        clear hc
        go_wp2_with fail
        go_roundw
        case rel => exact ⟨k + 1, by omega, by go_num, by rw [HC.out], by rw [HC.out]; exact hown, hB⟩
        case measure => simp [intOf]; omega
    · have e : k = s.size := by omega
      subst e
      have HF : Hid (cutS c s = (cutTo c s s.size).1 ++ [s.extract (cutTo c s s.size).2 s.size]) := Lib.hid rfl
      generalize cutTo c s s.size = p at *
      obtain ⟨L, f⟩ := p
      simp only at y1 y2 hown HF
      generalize hn : L.length = n at *
      go_wp2_with (first | (at_builtin; refine wpList_append_own _ rfl _ _ 74 rfl w.heap.size 9 i0 (.string { data := #[] }) 1 16 Try.underlying74 hi hz0 hz1 hz2 rfl (by decide) _ _ _ rfl (hown.alloc _) ⟨wr.heap.size, 0, none⟩ 1 1 [.string (s.extract f s.size)] rfl rfl (cell_one_new _ _ _) (fun x hx => by simp at hx; subst hx; rfl) (by unfold maxLen; omega) (by omega) (by simp; omega) ?_; intro v' w3 hown' hgrow3 hnil3))
      have HR : Hid (w3.ownsRow w.heap.size 9 1 v' (n + 1) ((L ++ [s.extract f s.size]).map Value.string) ∧ Below w.heap.size w w3) := ⟨by rw [List.map_append]; exact hown', (hB.alloc hsz _).grown hgrow3 (by simp; omega) (fun q hq => (hown.lt q hq).1)⟩
      clear hown hown' hgrow3 hnil3 hB
      go_ret
      refine ⟨v', rfl, ?_, HR.out.2⟩
      rw [HF.out, List.length_append, hn]; exact HR.out.1
end Go.Proofs.Ythagafkjlecagaa
namespace Go.Proofs.Ythagafkjlecagaa
open Go.RowKit
set_option linter.unusedSimpArgs false
set_option linter.unusedVariables false

/-- words in a row of the call's own -/
def StrO (w : World) (base : Nat) (v : Value) (L : List ByteArray) : Prop := w.ownsRow base 9 1 v L.length (L.map Value.string)
/-- words that are read -/
def IsStr (w : World) (a : Option Addr) (L : List ByteArray) : Prop := L = [] ∨ ∃ g o, a = some ⟨g, o, none⟩ ∧ ∀ i, i < L.length → w.cell? ⟨g, o + i, none⟩ = some (.string (L.getD i tE))
theorem str_below {w w' : World} {a : Option Addr} {L : List ByteArray} (h : IsStr w a L) (hB : Below w.heap.size w w') : IsStr w' a L := by
  rcases h with h | ⟨g, o, ha, hc⟩
  · exact .inl h
  · exact .inr ⟨g, o, ha, fun i hi => (hB.cell (p := ⟨g, o + i, none⟩) (World.block_lt_of_cell? w _ (hc i hi))).trans (hc i hi)⟩
theorem StrO.form {w : World} {base : Nat} {v : Value} {L : List ByteArray} (h : StrO w base v L) (hL : L ≠ []) : ∃ g cp, v = .slice (some ⟨g, 0, none⟩) L.length cp ∧ base ≤ g ∧ IsStr w (some ⟨g, 0, none⟩) L := by
  have hp : 0 < L.length := List.length_pos_iff.2 hL
  obtain ⟨g, cp, rfl, lg, _⟩ := World.ownsRow.form h hp
  refine ⟨g, cp, rfl, lg, .inr ⟨g, 0, rfl, fun i hi => ?_⟩⟩
  have := World.ownsRow.cellAt h i (by omega)
  rw [List.getElem?_map, List.getElem?_eq_getElem hi] at this
  rw [Nat.zero_add, List.getD_eq_getElem?_getD, List.getElem?_eq_getElem hi]
  exact this
theorem str_new {w W : World} (h : Below w.heap.size w W) : StrO (W.alloc (.cells #[] 9)) w.heap.size (.slice (some ⟨W.heap.size, 0, none⟩) 0 0) [] :=
  ⟨by simp, .inr ⟨W.heap.size, 0, #[], rfl, h.size, Go.Deep.blk_alloc_new _ _, Nat.le_refl _, by unfold maxLen; omega, rfl, rfl⟩⟩
theorem str_forms {w : World} {base : Nat} {v : Value} {L : List ByteArray} (hO : StrO w base v L) : ∃ b k, v = .slice b L.length k := by
  rcases Go.Joins.ownsRow_forms hO with ⟨e, hn⟩ | ⟨g, c, e⟩
  · exact ⟨none, 0, by rw [hn]; exact e⟩
  · exact ⟨_, c, e⟩
def sizeS : Value → Nat
  | .string s => s.size
  | _ => 0
/-- what wordsOf leaves -/
def Wds (w : World) (s : ByteArray) (e : Ending) (w' : World) : Prop := ∃ (v : Value) (L : List ByteArray), e = .returned v ∧ StrO w' w.heap.size v L ∧ Below w.heap.size w w' ∧ L ≠ [] ∧ L.length ≤ 14 ∧ (∀ l ∈ L, l.size ≤ s.size) ∧ ((cutS 32 s).length ≤ 14 → L = cutS 32 s)
set_option maxRecDepth 100000 in
set_option maxHeartbeats 6000000 in
/-- impl.wordsOf -/
theorem iwords (s : ByteArray) (w : World) (h : s.size ≤ 4294967296) :
    Calls Try.prog 43 #[.string s] w (Wds w s) := by
  obtain ⟨i0, hi, hz0, hz1, hz2⟩ := info_parts infoStr
  have K0 := str_new (Below.refl w.heap.size w)
  have B0 : Below w.heap.size w (w.alloc (.cells #[] 9)) := by go_grown
  have HS : Hid (s.extract 0 s.size = s) := by show _ = _; simp
  go_enter Try.func43, Try.ntmps43
  go_wp2_with fail
  go_loopw [3, 4] (fun v r wr => ∃ (p : Nat) (P : List ByteArray), Hid (p ≤ s.size ∧ cutTo 32 s p = (P, p) ∧ ∀ l ∈ P, l.size ≤ s.size) ∧ P.length ≤ 13 ∧ r = .string (s.extract p s.size) ∧ StrO wr w.heap.size v P ∧ Below w.heap.size w wr) (fun _ r _ => sizeS r)
  case atStart => exact ⟨0, [], ⟨Nat.zero_le _, rfl, fun l hl => (by cases hl)⟩, Nat.zero_le _, by rw [HS.out], K0, B0⟩
  case round =>
    clear K0 B0
    obtain ⟨p, P, HP, h13, rfl, hO, hB⟩ := hrel
    have hsz := hB.size
    obtain ⟨hp, hc, hm⟩ := HP.out
    have hR := rest_size s p
    have zR : (s.extract p s.size).size ≤ s.size := ext_size _ _ _
    obtain ⟨b, cap, rfl⟩ := str_forms hO
    have hmR : ∀ l ∈ P ++ [s.extract p s.size], l.size ≤ s.size := fun l hl => by
      rcases List.mem_append.1 hl with hl | hl
      · exact hm l hl
      · simp only [List.mem_singleton] at hl; subst hl; exact zR
    unfold StrO at hO
    by_cases hlt : P.length < 13
    · have q0 : decide ((P.length : Int) < 13) = true := decide_eq_true (by omega)
      rcases rest_ix 32 s p with ⟨e, he, hb, hbn, hx⟩ | ⟨hbn, hx⟩
      · have hH := cut_hit hc hb hbn
        have E1 := ext_ext1 s (p := p) (e := e) (by omega)
        have E2 := ext_ext2 s p e
        have hmP : ∀ l ∈ P ++ [(s.extract p s.size).extract 0 e], l.size ≤ s.size := fun l hl => by
          rcases List.mem_append.1 hl with hl | hl
          · exact hm l hl
          · simp only [List.mem_singleton] at hl; subst hl; exact Nat.le_trans (ext_size _ _ _) zR
        generalize s.extract p s.size = R at *
        have HX := Lib.hid hx
        have z2 : R.size ≤ 4294967296 := by omega
        have q1 : (0 : Int) ≤ (e : Int) := by omega
        have q2 : (e : Int) ≤ (R.size : Int) := by omega
        have q3 : (0 : Int) ≤ (e : Int) + 1 := by omega
        have q4 : (e : Int) + 1 ≤ (R.size : Int) := by omega
        have q5 : ¬ (e : Int) < 0 := by omega
        have t1 : IntKind.i64.wrap ((e : Int) + 1) = (e : Int) + 1 := by rw [IntKind.wrap_i64]; omega
        have t2 : ((e : Int) + 1).toNat = e + 1 := by omega
        rw [← hR] at E2
        rw [← E1] at hH
        generalize hA_ : R.extract 0 e = A at *
        generalize hD : R.extract (e + 1) R.size = R2 at *
        have zD : R2.size < R.size := by rw [E2, rest_size]; omega
        have HD := Lib.hid E2
        have HN : Hid (p + e + 1 ≤ s.size ∧ cutTo 32 s (p + e + 1) = (P ++ [A], p + e + 1) ∧ ∀ l ∈ P ++ [A], l.size ≤ s.size) := Lib.hid ⟨by omega, hH, hmP⟩
        have O2 := Lib.hid (hO.alloc (.cells #[.string A] 9))
        have HZ := Lib.hid zD
        clear hx hH E1 E2 hb hbn hc hR hm hmP hmR HP zD
        go_wp2_with fail
        refine (iidx R 32 _ z2).mono ?_
        rintro e3 w' ⟨rfl, rfl⟩
        rw [HX.out]
        go_wp2_with (first | (at_builtin; refine wpList_append_own _ rfl _ _ 74 rfl w.heap.size 9 i0 (.string { data := #[] }) 1 16 Try.underlying74 hi hz0 hz1 hz2 rfl (by decide) _ _ _ rfl O2.out ⟨wr.heap.size, 0, none⟩ 1 1 [.string A] rfl rfl (cell_one_new _ _ _) (fun x hx => by simp at hx; subst hx; rfl) (by unfold maxLen; omega) (by omega) (by simp; omega) ?_; intro v2 w2 hO2 hg2 hat2))
        have HR : Hid (StrO w2 w.heap.size v2 (P ++ [A]) ∧ Below w.heap.size w w2) := by
          refine ⟨?_, (hB.alloc hsz _).grown hg2 (by simp; omega) (fun q hq => (World.ownsRow.lt hO q hq).1)⟩
          unfold StrO; rw [List.map_append, List.length_append]; exact hO2
        clear hO2 hg2 hat2 O2 hB hO
        go_roundw
        case rel => exact ⟨p + e + 1, P ++ [A], HN, by simp; omega, by rw [HD.out], HR.out.1, HR.out.2⟩
        case measure => simp only [sizeS]; exact HZ.out
      · have HL : Hid (P ++ [s.extract p s.size] = cutS 32 s) := Lib.hid (cut_rest hc hp hbn).symm
        generalize s.extract p s.size = R at *
        have HX := Lib.hid hx
        have z2 : R.size ≤ 4294967296 := by omega
        have O2 := Lib.hid (hO.alloc (.cells #[.string R] 9))
        have HM := Lib.hid hmR
        clear hx hbn hc hm hmR HP
        go_wp2_with fail
        refine (iidx R 32 _ z2).mono ?_
        rintro e3 w' ⟨rfl, rfl⟩
        rw [HX.out]
        go_wp2_with (first | (at_builtin; refine wpList_append_own _ rfl _ _ 74 rfl w.heap.size 9 i0 (.string { data := #[] }) 1 16 Try.underlying74 hi hz0 hz1 hz2 rfl (by decide) _ _ _ rfl O2.out ⟨wr.heap.size, 0, none⟩ 1 1 [.string R] rfl rfl (cell_one_new _ _ _) (fun x hx => by simp at hx; subst hx; rfl) (by unfold maxLen; omega) (by omega) (by simp; omega) ?_; intro v2 w2 hO2 hg2 hat2))
        have HR : Hid (StrO w2 w.heap.size v2 (P ++ [R]) ∧ Below w.heap.size w w2) := by
          refine ⟨?_, (hB.alloc hsz _).grown hg2 (by simp; omega) (fun q hq => (World.ownsRow.lt hO q hq).1)⟩
          unfold StrO; rw [List.map_append, List.length_append]; exact hO2
        clear hO2 hg2 hat2 O2 hB hO
        go_ret
        exact ⟨v2, P ++ [R], rfl, HR.out.1, HR.out.2, by simp, by simp; omega, HM.out, fun _ => HL.out⟩
    · have q0 : decide ((P.length : Int) < 13) = false := decide_eq_false (by omega)
      have h3 : P.length = 13 := by omega
      have HL := Lib.hid (words_full hc hp h3)
      generalize s.extract p s.size = R at *
      have O2 := Lib.hid (hO.alloc (.cells #[.string R] 9))
      have HM := Lib.hid hmR
      clear hc hm hmR HP h3
      go_wp2_with (first | (at_builtin; refine wpList_append_own _ rfl _ _ 74 rfl w.heap.size 9 i0 (.string { data := #[] }) 1 16 Try.underlying74 hi hz0 hz1 hz2 rfl (by decide) _ _ _ rfl O2.out ⟨wr.heap.size, 0, none⟩ 1 1 [.string R] rfl rfl (cell_one_new _ _ _) (fun x hx => by simp at hx; subst hx; rfl) (by unfold maxLen; omega) (by omega) (by simp; omega) ?_; intro v2 w2 hO2 hg2 hat2))
      have HR : Hid (StrO w2 w.heap.size v2 (P ++ [R]) ∧ Below w.heap.size w w2) := by
        refine ⟨?_, (hB.alloc hsz _).grown hg2 (by simp; omega) (fun q hq => (World.ownsRow.lt hO q hq).1)⟩
        unfold StrO; rw [List.map_append, List.length_append]; exact hO2
      clear hO2 hg2 hat2 O2 hB hO
      go_ret
      exact ⟨v2, P ++ [R], rfl, HR.out.1, HR.out.2, by simp, by simp; omega, HM.out, HL.out⟩
set_option maxRecDepth 100000 in
set_option maxHeartbeats 6000000 in
/-- impl.numberAt -/
theorem inumAt (a : Option Addr) (cap : Nat) (L : List ByteArray) (k : Int) (n : Nat) (w : World) (h : IsStr w a L) (hz : ∀ l ∈ L, l.size ≤ 4294967296) (hl : L.length ≤ 1048576) (hk : k = n) :
    Calls Try.prog 74 #[.slice a L.length cap, .int .i64 k] w fun e w' => e = .returned (.int .i64 (nA L n)) ∧ w = w' := by
  subst hk
  by_cases hn : n < L.length
  · have HX := Lib.hid (nA_yes hn)
    rcases h with e | ⟨g, o, rfl, hc⟩
    · rw [e] at hn; exact absurd hn (Nat.not_lt_zero _)
    have c0 := hc n hn
    have zl := hz _ (getD_memS hn)
    clear hc hz
    have q0 : (0 : Int) ≤ (n : Int) := by omega
    have q1 : (n : Int) < (L.length : Int) := by omega
    have q2 : ¬ (L.length : Int) ≤ (n : Int) := by omega
    generalize L.getD n tE = A at *
    go_enter Try.func74, Try.ntmps74
    go_wp2_with fail
    refine (iread A _ zl).mono ?_
    rintro e w' ⟨rfl, rfl⟩
    go_wp2_with fail
    go_ret
    exact ⟨ret_int HX.out.symm, rfl⟩
  · have HX := Lib.hid (nA_no hn)
    have q1 : (L.length : Int) ≤ (n : Int) := by omega
    clear h hz
    go_enter Try.func74, Try.ntmps74
    go_wp2_with fail
    go_ret
    exact ⟨ret_int HX.out.symm, rfl⟩
set_option maxRecDepth 100000 in
set_option maxHeartbeats 6000000 in
/-- impl.heirsIn -/
theorem iheirsIn (a : Option Addr) (cap : Nat) (L : List ByteArray) (w : World) (h : IsStr w a L) (hz : ∀ l ∈ L, l.size ≤ 4294967296) (hl : L.length ≤ 1048576) :
    Calls Try.prog 94 #[.slice a L.length cap] w (OutI w (hA L)) := by
  have K0 := OwnI.new (Below.refl w.heap.size w)
  have B0 : Below w.heap.size w (w.alloc (.cells #[] 3)) := by go_grown
  have HI := Lib.hid h
  have HZ := Lib.hid hz
  clear h hz
  go_enter Try.func94, Try.ntmps94
  go_wp2_with fail
  go_loopw [3, 4] (fun v i wr => ∃ (k : Nat), 2 ≤ k ∧ k ≤ 2 + L.length ∧ i = .int .i64 (k : Int) ∧ OwnI wr w.heap.size v (hA (L.take k)) ∧ Below w.heap.size w wr) (fun _ i _ => (L.length + 2) - (intOf i).toNat)
  case atStart => exact ⟨2, Nat.le_refl _, by omega, rfl, by rw [hA_two]; exact K0, B0⟩
  case round =>
    clear K0 B0
    obtain ⟨k, hk2, hk3, rfl, hO, hB⟩ := hrel
    by_cases hlt : k < L.length
    · have HN := Lib.hid (hA_next hk2 hlt)
      have hll : (hA (L.take k)).length ≤ 1048576 := by rw [hA_len, List.length_take]; omega
      have CN := inumAt a cap L k k wr (str_below HI.out hB) HZ.out hl rfl
      have HO := Lib.hid hO
      have HB := Lib.hid hB
      have HLL := Lib.hid hll
      have q1 : (k : Int) < (L.length : Int) := by omega
      obtain ⟨b, cp, hv, hI⟩ := hO.ints
      generalize hA (L.take k) = Z at *
      generalize nA L k = z at *
      clear hO hB hll hI hv
      go_wp2_with fail
      refine CN.mono ?_
      rintro e w' ⟨rfl, rfl⟩
      go_wp2_with (first | (at_builtin; refine wp_snoc rfl _ _ rfl rfl HO.out rfl rfl HLL.out (HB.out.size) ?_; intro v3 w3 Q3 G3 n3))
      have B3 : Below w.heap.size w w3 := below_gv HB.out G3 (fun q hq => HO.out.grow q hq)
      have HQ := Lib.hid Q3
      clear Q3 G3 n3
      go_roundw
      case rel => exact ⟨k + 1, by omega, by omega, by go_num, by rw [HN.out]; exact HQ.out, B3⟩
      case measure => simp [intOf]; omega
    · have HX : Hid (hA (L.take k) = hA L) := Lib.hid (hA_all (by omega))
      have q1 : ¬ (k : Int) < (L.length : Int) := by omega
      have HO := Lib.hid hO
      clear hO
      go_wp2_with fail
      go_ret
      exact ⟨_, rfl, by rw [← HX.out]; exact HO.out, hB⟩
set_option maxRecDepth 100000 in
set_option maxHeartbeats 6000000 in
/-- impl.partAt -/
theorem ipartAt (a : Option Addr) (cap : Nat) (L : List ByteArray) (k : Int) (n : Nat) (w : World) (h : IsStr w a L) (hz : ∀ l ∈ L, l.size ≤ 4294967296) (hl : L.length ≤ 1048576) (hk : k = n) :
    Calls Try.prog 93 #[.slice a L.length cap, .int .i64 k] w fun e w' => e = .returned (.agg #[.int .i64 (pA L n).1, .int .i64 (pA L n).2]) ∧ Below w.heap.size w w' := by
  subst hk
  by_cases hn : n < L.length
  · rcases h with e | ⟨g, o, rfl, hc⟩
    · rw [e] at hn; exact absurd hn (Nat.not_lt_zero _)
    have c0 := hc n hn
    have zl := hz _ (getD_memS hn)
    have HX : Hid (frV (pok (L.getD n tE)) (pnum (L.getD n tE)) (pden (L.getD n tE)) = .tuple #[.agg #[.int .i64 (pA L n).1, .int .i64 (pA L n).2], .bool (pok (L.getD n tE))]) := Lib.hid (by
      cases e : pok (L.getD n tE) with
      | true => rw [pA_yes hn e]; rfl
      | false => rw [pA_bad e]; rfl)
    have hg := World.block_lt_of_cell? w _ c0
    clear hc hz
    have q0 : (0 : Int) ≤ (n : Int) := by omega
    have q1 : (n : Int) < (L.length : Int) := by omega
    have q2 : ¬ (L.length : Int) ≤ (n : Int) := by omega
    generalize L.getD n tE = A at *
    generalize pA L n = q at *
    obtain ⟨x, y⟩ := q
    dsimp only at HX ⊢
    have k0 := c2_new w (.int .i64 0) (.int .i64 0) 31
    go_enter Try.func93, Try.ntmps93
    go_wp2_with fail
    refine (iPar A _ zl).mono ?_
    rintro e w1 ⟨rfl, hb⟩
    rw [HX.out]
    have hB1 : Below w.heap.size w w1 := bel_tr (by go_grown) hb
    have k1 := c2_below k0 hb
    obtain ⟨d0, d1, f0, f1, hlt⟩ := k1
    have KB := ((Blk.new w 31 #[.int .i64 0, .int .i64 0]).next hb).two (.int .i64 x) (.int .i64 y)
    have e0 := (KB.alloc (.cells #[.int .i64 x, .int .i64 y] 31)).cell 0
    have e1 := (KB.alloc (.cells #[.int .i64 x, .int .i64 y] 31)).cell 1
    simp only [List.getElem?_toArray, List.getElem?_cons_zero, List.getElem?_cons_succ] at e0 e1
    clear hb k0 KB
    go_wp2_with fail
    refine bodyPost_ret (v := .agg #[.int .i64 x, .int .i64 y]) (by simp [results, Try.results93, go_sem, e0, e1]) rfl ⟨rfl, by go_grown⟩
  · have HX : Hid ((pA L n).1 = 0 ∧ (pA L n).2 = 0) := Lib.hid (by rw [pA_no hn]; exact ⟨rfl, rfl⟩)
    have q1 : (L.length : Int) ≤ (n : Int) := by omega
    have k0 := c2_new w (.int .i64 0) (.int .i64 0) 31
    clear h hz
    go_enter Try.func93, Try.ntmps93
    go_wp2_with fail
    obtain ⟨d0, d1, f0, f1, hlt⟩ := k0
    refine bodyPost_ret (v := .agg #[.int .i64 0, .int .i64 0]) (by simp [results, Try.results93, go_sem, d0, d1]) rfl ⟨by rw [HX.out.1, HX.out.2], by go_grown⟩
end Go.Proofs.Ythagafkjlecagaa
namespace Go.Proofs.Ythagafkjlecagaa
open Go.RowKit
set_option linter.unusedSimpArgs false
set_option linter.unusedVariables false
theorem wpList_str9 {P : Program} {ops : Array Oper} {rest : List Oper} {op : Oper} {a : Act} {w : World} {Q : Exit → Act → World → Prop} (hgd : op.guard = none) (ty : TypeId) (x y : Operand) (ho : op.op = .store ty x y)
    (b : Nat) (v0 v1 v2 v3 v4 v5 v6 v7 v8 : Value) (hx : a.eval x = .pointer (some ⟨b, 0, none⟩)) (hy : a.eval y = .agg #[v0, v1, v2, v3, v4, v5, v6, v7, v8]) {t : TypeId} {u0 u1 u2 u3 u4 u5 u6 u7 u8 : Value} (K : Blk w b t #[u0, u1, u2, u3, u4, u5, u6, u7, u8])
    (hi : (P.info? ty).map (·.size) = some 9) (h1 : (v0.oneCell' && v1.oneCell' && v2.oneCell' && v3.oneCell' && v4.oneCell' && v5.oneCell' && v6.oneCell' && v7.oneCell' && v8.oneCell') = true)
    (h : wpList P ops Q rest (a.put op.dst undef) (sets9 w b v0 v1 v2 v3 v4 v5 v6 v7 v8)) : wpList P ops Q (op :: rest) a w := by
  have h2 : (#[v0, v1, v2, v3, v4, v5, v6, v7, v8] : Array Value).all (·.oneCell') = true := by
    simp only [Bool.and_eq_true] at h1
    obtain ⟨⟨⟨⟨⟨⟨⟨⟨a0, a1⟩, a2⟩, a3⟩, a4⟩, a5⟩, a6⟩, a7⟩, a8⟩ := h1
    simp [a0, a1, a2, a3, a4, a5, a6, a7, a8]
  refine wpList_store_mid hgd ty x y ho b 0 #[v0, v1, v2, v3, v4, v5, v6, v7, v8] hx hy (fun j hj => ?_) hi h2 ?_
  · have hj' : j < 9 := hj
    have hc : ∃ v, (#[u0, u1, u2, u3, u4, u5, u6, u7, u8] : Array Value)[j]? = some v := ⟨_, Array.getElem?_eq_getElem (by simpa using hj')⟩
    rw [Nat.zero_add]
    obtain ⟨q0, q1, q2, q3, q4, q5, q6, q7, q8⟩ := cells9 K
    refine ⟨?_, K.frozen j⟩
    have hm : j = 0 ∨ j = 1 ∨ j = 2 ∨ j = 3 ∨ j = 4 ∨ j = 5 ∨ j = 6 ∨ j = 7 ∨ j = 8 := by omega
    rcases hm with e | e | e | e | e | e | e | e | e <;> subst e <;> simp [*]
  · exact h
theorem wpList_str6 {P : Program} {ops : Array Oper} {rest : List Oper} {op : Oper} {a : Act} {w : World} {Q : Exit → Act → World → Prop} (hgd : op.guard = none) (ty : TypeId) (x y : Operand) (ho : op.op = .store ty x y)
    (b : Nat) (v0 v1 v2 v3 v4 v5 : Value) (hx : a.eval x = .pointer (some ⟨b, 0, none⟩)) (hy : a.eval y = .agg #[v0, v1, v2, v3, v4, v5]) {t : TypeId} {u0 u1 u2 u3 u4 u5 : Value} (K : Blk w b t #[u0, u1, u2, u3, u4, u5])
    (hi : (P.info? ty).map (·.size) = some 6) (h1 : (v0.oneCell' && v1.oneCell' && v2.oneCell' && v3.oneCell' && v4.oneCell' && v5.oneCell') = true)
    (h : wpList P ops Q rest (a.put op.dst undef) (sets6 w b v0 v1 v2 v3 v4 v5)) : wpList P ops Q (op :: rest) a w := by
  have h2 : (#[v0, v1, v2, v3, v4, v5] : Array Value).all (·.oneCell') = true := by
    simp only [Bool.and_eq_true] at h1
    obtain ⟨⟨⟨⟨⟨a0, a1⟩, a2⟩, a3⟩, a4⟩, a5⟩ := h1
    simp [a0, a1, a2, a3, a4, a5]
  refine wpList_store_mid hgd ty x y ho b 0 #[v0, v1, v2, v3, v4, v5] hx hy (fun j hj => ?_) hi h2 ?_
  · have hj' : j < 6 := hj
    have hc : ∃ v, (#[u0, u1, u2, u3, u4, u5] : Array Value)[j]? = some v := ⟨_, Array.getElem?_eq_getElem (by simpa using hj')⟩
    rw [Nat.zero_add]
    obtain ⟨q0, q1, q2, q3, q4, q5⟩ := cells6 K
    refine ⟨?_, K.frozen j⟩
    have hm : j = 0 ∨ j = 1 ∨ j = 2 ∨ j = 3 ∨ j = 4 ∨ j = 5 := by omega
    rcases hm with e | e | e | e | e | e <;> subst e <;> simp [*]
  · exact h
theorem str_eq (A : ByteArray) (l : List UInt8) (h : A.data.toList = l) : (A.toList == l) = true := by rw [ByteArray.toList_eq, beq_iff_eq]; exact h
theorem str_ne (A : ByteArray) (l : List UInt8) (h : ¬ A.data.toList = l) : (A.toList == l) = false := by rw [ByteArray.toList_eq, beq_eq_false_iff_ne]; exact h
end Go.Proofs.Ythagafkjlecagaa
namespace Go.Proofs.Ythagafkjlecagaa
open Go.RowKit

def TwoS (p q : Addr) (x y : Value) (w' : World) : Prop := w'.cell? p = some x ∧ w'.cell? q = some y
theorem twoS_below {p q : Addr} {x y : Value} {W W' : World} (h : TwoS p q x y W) (hb : Below W.heap.size W W') : TwoS p q x y W' :=
  ⟨(hb.cell (World.block_lt_of_cell? W _ h.1)).trans h.1, (hb.cell (World.block_lt_of_cell? W _ h.2)).trans h.2⟩
theorem twoS_alloc {p q : Addr} {x y : Value} {W : World} (o : Obj) (h : TwoS p q x y W) : TwoS p q x y (W.alloc o) := twoS_below h ((Below.refl _ _).alloc (Nat.le_refl _) _)
theorem twoS_drew {p q : Addr} {x y : Value} {W : World} (h : TwoS p q x y W) : TwoS p q x y W.drew := h
theorem pok_two {s : ByteArray} {k j : Nat} (hi : idxI 47 s = k) (hj : k < j) (hjs : j < s.size) (h : bt s j = 47) : pok s = false := by
  obtain ⟨e1, _, _⟩ := pok_at hi
  rw [e1]
  have : rdS 1000000 (s.extract (k + 1) s.size) = -1 := by
    refine rdS_not (k := j - (k + 1)) ?_ (.inl ?_)
    · rw [← bt_len, ext_data, List.length_take, List.length_drop, bt_len]; omega
    · rw [bt_ext s _ _ _ (by omega), show k + 1 + (j - (k + 1)) = j by omega, h]; omega
  rw [this]
  exact vf_no (by omega)
/-- a second byte c, or none -/
theorem later_or (c : Int) (s : ByteArray) (k : Nat) : (∃ j, k < j ∧ j < s.size ∧ bt s j = c) ∨ ∀ j, k < j → j < s.size → bt s j ≠ c := by
  by_cases h : ∃ j, k < j ∧ j < s.size ∧ bt s j = c
  · exact .inl h
  · exact .inr fun j h1 h2 h3 => h ⟨j, h1, h2, h3⟩
set_option maxHeartbeats 2000000 in
/-- the text is cut into another number of parts than two -/
theorem sPar_no (s : ByteArray) (w : World) (h : s.size ≤ 4294967296) (hp : pok s = false) (hl : (cutS 47 s).length ≠ 2) :
    Calls Try.prog 107 #[.string s] w fun e w' => e = .returned (frV (pok s) (pnum s) (pden s)) ∧ Below w.heap.size w w' := by
  have HP := Lib.hid hp
  have hl1 : ((cutS 47 s).length : Int) ≠ 2 := by omega
  have hl2 : (((cutS 47 s).length : Int) == 2) = false := by rw [beq_eq_false_iff_ne]; exact hl1
  have hl0 : 0 < (cutS 47 s).length := by unfold cutS; simp
  clear hl1
  go_enter Try.func107, Try.ntmps107
  go_wp2_with fail
  refine (ssplit s 47 _ h).mono ?_
  rintro e w1 ⟨v, rfl, hO, hB⟩
  obtain ⟨g, cp, rfl, lg, ltg⟩ := hO.form hl0
  clear hO
  have hB1 : Below w.heap.size w w1 := bel_tr (by go_grown) hB
  obtain ⟨d0, d1, g0, g1, hy⟩ := c2_below (c2_new w (.int .i64 0) (.int .i64 0) 31) hB
  clear hB
  generalize (cutS 47 s).length = n at *
  go_wp2_with fail
  refine bodyPost_ret (v := .tuple #[.agg #[.int .i64 0, .int .i64 0], .bool false]) (by simp [results, Try.results107, go_sem, d0, d1]) rfl ⟨frV_no' HP.out, by go_grown⟩
set_option maxHeartbeats 2000000 in
theorem sPar_two (s : ByteArray) (w : World) (h : s.size ≤ 4294967296) (A D : ByteArray) (hc : cutS 47 s = [A, D]) (hpk : pok s = Wsh.vfB (rdS 1000000 A) (rdS 1000000 D)) (hpn : pnum s = rdS 1000000 A) (hpd : pden s = rdS 1000000 D) (za : A.size ≤ 4294967296) (zd : D.size ≤ 4294967296) :
    Calls Try.prog 107 #[.string s] w fun e w' => e = .returned (frV (pok s) (pnum s) (pden s)) ∧ Below w.heap.size w w' := by
  rw [hpk, hpn, hpd]
  have HC := Lib.hid hc
  clear hpk hpn hpd hc
  go_enter Try.func107, Try.ntmps107
  go_wp2_with fail
  refine (ssplit s 47 _ h).mono ?_
  rintro e w1 ⟨v, rfl, hO, hB⟩
  rw [HC.out] at hO
  obtain ⟨g, cp, rfl, lg, ltg⟩ := hO.form (by simp)
  have hS0 : TwoS ⟨g, 0, none⟩ ⟨g, 1, none⟩ (.string A) (.string D) w1 := ⟨hO.cellAt 0 (by simp), hO.cellAt 1 (by simp)⟩
  clear hO
  have hB1 : Below w.heap.size w w1 := bel_tr (by go_grown) hB
  have k1 := c2_below (c2_new w (.int .i64 0) (.int .i64 0) 31) hB
  clear hB
  simp only [List.length_cons, List.length_nil]
  have hSz := k1.2.2.2.2
  unfold TwoS at hS0
  go_wp2_with fail
  go_region_held3 (fun w' => w'.cell? ⟨g, 0, none⟩ = some (.string A) ∧ w'.cell? ⟨g, 1, none⟩ = some (.string D)) (first | exact hS0 | exact twoS_drew hS0 | assumption | exact twoS_alloc _ (by assumption) | exact twoS_drew (twoS_alloc _ hS0) | exact twoS_drew (by assumption)) (first | (go_at_call_of 108 (Value.string A); refine (sread A _ za).mono ?_; rintro e w' ⟨rfl, rfl⟩) | (go_at_call_of 108 (Value.string D); refine (sread D _ zd).mono ?_; rintro e w' ⟨rfl, rfl⟩))
  all_goals (
    go_wp2_with fail
    refine (svalid (rdS 1000000 A) (rdS 1000000 D) _).mono ?_
    rintro e w2 ⟨rfl, hb⟩
    obtain ⟨c0, c1, f0, f1, hz⟩ := c2_below (c2_drew (c2_new w1 (.int .i64 (rdS 1000000 A)) (.int .i64 (rdS 1000000 D)) _)) hb
    obtain ⟨d0, d1, g0, g1, hy⟩ := c2_below (c2_drew (c2_alloc k1 (.cells #[.int .i64 (rdS 1000000 A), .int .i64 (rdS 1000000 D)] 31))) hb
    have hB2 : Below w.heap.size w w2 := bel_tr (by go_grown) hb
    clear hb
    cases hv : Wsh.vfB (rdS 1000000 A) (rdS 1000000 D) with
    | false =>
      go_wp2_with fail
      refine bodyPost_ret (v := .tuple #[.agg #[.int .i64 0, .int .i64 0], .bool false]) (by simp [results, Try.results107, go_sem, d0, d1]) rfl ⟨frV_no' hv, by go_grown⟩
    | true =>
      go_wp2_with fail
      refine bodyPost_ret (v := .tuple #[.agg #[.int .i64 (rdS 1000000 A), .int .i64 (rdS 1000000 D)], .bool true]) (by simp [results, Try.results107, go_sem, d0, d1]) rfl ⟨frV_yes' hv rfl rfl, by go_grown⟩)
/-- spec.parseFrac -/
theorem sparse (s : ByteArray) (w : World) (h : s.size ≤ 4294967296) :
    Calls Try.prog 107 #[.string s] w fun e w' => e = .returned (frV (pok s) (pnum s) (pden s)) ∧ Below w.heap.size w w' := by
  rcases idx_or 47 s with ⟨k, hk, hb, hbn, hi⟩ | ⟨hbn, hi⟩
  · rcases later_or 47 s k with ⟨j, hj, hjs, hjb⟩ | hno
    · refine sPar_no s w h (pok_two hi hj hjs hjb) ?_
      have := cut_more hb hbn hj hjs hjb
      exact fun e => by rw [show ((47 : Nat) : Int) = 47 from rfl] at this; omega
    · obtain ⟨e1, e2, e3⟩ := pok_at hi
      exact sPar_two s w h _ _ (cut_one hk hb hbn hno) e1 e2 e3 (Nat.le_trans (ext_size _ _ _) h) (Nat.le_trans (ext_size _ _ _) h)
  · refine sPar_no s w h (pok_no hi) ?_
    have := cut_none (c := 47) (s := s) hbn
    rw [this]; simp
end Go.Proofs.Ythagafkjlecagaa
namespace Go.Proofs.Ythagafkjlecagaa
open Go.RowKit
set_option linter.unusedSimpArgs false
set_option linter.unusedVariables false

def nnB (z : Int) : Bool := decide (0 ≤ z)
def numL (L : List ByteArray) : List Int := L.map (rdS 1000000)
theorem num_next {L : List ByteArray} {k : Nat} (h : k < L.length) : numL (L.take (k + 1)) = numL (L.take k) ++ [rdS 1000000 (L.getD k tE)] := by
  unfold numL
  rw [List.take_add_one, List.map_append, List.getD_eq_getElem?_getD, List.getElem?_eq_getElem h]; rfl
theorem num_all {L : List ByteArray} : numL (L.take L.length) = numL L := by rw [List.take_length]
theorem num_len (L : List ByteArray) : (numL L).length = L.length := by unfold numL; simp
theorem num_bad {L : List ByteArray} {k : Nat} (h : k < L.length) (hz : rdS 1000000 (L.getD k tE) < 0) : (numL L).all nnB = false := by
  cases c : (numL L).all nnB with
  | false => rfl
  | true =>
    have := List.all_eq_true.1 c (rdS 1000000 (L.getD k tE)) (by unfold numL; exact List.mem_map.2 ⟨_, getD_memS h, rfl⟩)
    unfold nnB at this; rw [decide_eq_true_eq] at this; omega
theorem num_good {L : List ByteArray} (h : ∀ j, j < L.length → 0 ≤ rdS 1000000 (L.getD j tE)) : (numL L).all nnB = true := by
  rw [List.all_eq_true]
  intro z m
  obtain ⟨l, hl, rfl⟩ := List.mem_map.1 m
  obtain ⟨j, hj, rfl⟩ := List.mem_iff_getElem.1 hl
  have := h j hj
  rw [List.getD_eq_getElem?_getD, List.getElem?_eq_getElem hj] at this
  unfold nnB; simpa using this
/-- what numbersIn leaves -/
def OutNI (w : World) (L : List ByteArray) (e : Ending) (w' : World) : Prop := ∃ v, e = .returned (.tuple #[v, .bool ((numL L).all nnB)]) ∧ ((numL L).all nnB = true → OwnI w' w.heap.size v (numL L)) ∧ ((numL L).all nnB = false → v = .slice none 0 0) ∧ Below w.heap.size w w'
theorem outNI_no {w w' : World} {L : List ByteArray} (h : (numL L).all nnB = false) (hb : Below w.heap.size w w') : OutNI w L (.returned (.tuple #[.slice none 0 0, .bool false])) w' := ⟨_, by rw [h], fun c => (by rw [h] at c; cases c), fun _ => rfl, hb⟩
theorem outNI_yes {w w' : World} {L : List ByteArray} {v : Value} (h : (numL L).all nnB = true) (ho : OwnI w' w.heap.size v (numL L)) (hb : Below w.heap.size w w') : OutNI w L (.returned (.tuple #[v, .bool true])) w' := ⟨_, by rw [h], fun _ => ho, fun c => (by rw [h] at c; cases c), hb⟩
set_option maxRecDepth 100000 in
set_option maxHeartbeats 6000000 in
/-- spec.numbersIn -/
theorem snumbers (a : Option Addr) (cap : Nat) (L : List ByteArray) (w : World) (h : IsStr w a L) (hz : ∀ l ∈ L, l.size ≤ 4294967296) (hl : L.length ≤ 1048577) :
    Calls Try.prog 96 #[.slice a L.length cap] w (OutNI w L) := by
  have K0 := OwnI.new (Below.refl w.heap.size w)
  have B0 : Below w.heap.size w (w.alloc (.cells #[] 3)) := by go_grown
  have HI := Lib.hid h
  have HZ := Lib.hid hz
  clear h hz
  go_enter Try.func96, Try.ntmps96
  go_wp2_with fail
  go_loopw [4, 5] (fun v i wr => ∃ (k : Nat), k ≤ L.length ∧ i = .int .i64 (k : Int) ∧ OwnI wr w.heap.size v (numL (L.take k)) ∧ Hid (∀ j, j < k → 0 ≤ rdS 1000000 (L.getD j tE)) ∧ Below w.heap.size w wr) (fun _ i _ => L.length - (intOf i).toNat)
  case atStart => exact ⟨0, Nat.zero_le _, rfl, K0, fun j hj => absurd hj (Nat.not_lt_zero _), B0⟩
  case round =>
    clear K0 B0
    obtain ⟨k, hk, rfl, hO, HG, hB⟩ := hrel
    by_cases hlt : k < L.length
    · rcases HI.out with e | ⟨g, o_, rfl, hc⟩
      · rw [e] at hlt; exact absurd hlt (Nat.not_lt_zero _)
      have c0 := (hB.cell (p := ⟨g, o_ + k, none⟩) (World.block_lt_of_cell? w _ (hc k hlt))).trans (hc k hlt)
      have CR := sread (L.getD k tE) wr (HZ.out _ (getD_memS hlt))
      have HN := Lib.hid (num_next hlt)
      have hbad := num_bad hlt
      have hll : (numL (L.take k)).length ≤ 1048576 := by rw [num_len, List.length_take]; omega
      have HG2 : 0 ≤ rdS 1000000 (L.getD k tE) → ∀ j, j < k + 1 → 0 ≤ rdS 1000000 (L.getD j tE) := fun hp j hj => by
        by_cases e : j = k
        · subst e; exact hp
        · exact HG.out j (by omega)
      have HO := Lib.hid hO
      have HB := Lib.hid hB
      have HLL := Lib.hid hll
      have q0 : (0 : Int) ≤ (k : Int) := by omega
      have q1 : (k : Int) < (L.length : Int) := by omega
      obtain ⟨b, cp, hv, _⟩ := hO.ints
      generalize numL (L.take k) = Z at *
      generalize hzz : rdS 1000000 (L.getD k tE) = z at *
      generalize L.getD k tE = A at *
      clear hO hB hll hv hc hzz
      by_cases hz0 : z < 0
      · have HX := Lib.hid (hbad hz0)
        clear hbad HG2
        go_wp2_with fail
        refine CR.mono ?_
        rintro e w' ⟨rfl, rfl⟩
        go_wp2_with fail
        go_returns
        exact outNI_no HX.out HB.out
      · have HG3 := Lib.hid (HG2 (by omega))
        clear hbad HG2
        go_wp2_with fail
        refine CR.mono ?_
        rintro e w' ⟨rfl, rfl⟩
        go_wp2_with (first | (at_builtin; refine wp_snoc rfl _ _ rfl rfl HO.out rfl rfl HLL.out (HB.out.size) ?_; intro v3 w3 Q3 G3 n3))
        have B3 : Below w.heap.size w w3 := below_gv HB.out G3 (fun q hq => HO.out.grow q hq)
        have HQ := Lib.hid Q3
        clear Q3 G3 n3
        go_roundw
        case rel => exact ⟨k + 1, by omega, by go_num, by rw [HN.out]; exact HQ.out, HG3, B3⟩
        case measure => simp [intOf]; omega
    · obtain rfl : k = L.length := by omega
      have HX := Lib.hid (num_good HG.out)
      have HO := Lib.hid (show OwnI wr w.heap.size _ (numL L) by rw [← num_all]; exact hO)
      clear hO
      go_wp2_with fail
      go_returns
      exact outNI_yes HX.out HO.out hB
/-- what readEvent and readSell leave -/
def OutRM (w : World) (o : Option Ev) (e : Ending) (w' : World) : Prop := ∃ (A : Option Addr) (cz : Nat) (x : Ev), (o = none ∨ o = some x) ∧ e = .returned (.tuple #[.agg #[.int .i64 x.k, .int .i64 x.dd.k, .int .i64 x.dd.o, .int .i64 x.dd.t, .int .i64 x.dd.n, .int .i64 x.dd.d, .slice A x.dd.zs.length cz, .int .i64 x.at_, .int .i64 x.nu], .bool o.isSome]) ∧ IsInts w' A x.dd.zs ∧ (∀ g o s, A = some ⟨g, o, s⟩ → w.heap.size ≤ g) ∧ x.dd.zs.length ≤ cz ∧ x.dd.zs.length ≤ 1048576 ∧ Below w.heap.size w w'
theorem outRM_no {w w' : World} (h : Below w.heap.size w w') : OutRM w none (.returned (.tuple #[.agg #[.int .i64 0, .int .i64 0, .int .i64 0, .int .i64 0, .int .i64 0, .int .i64 0, .slice none 0 0, .int .i64 0, .int .i64 0], .bool false])) w' := ⟨none, 0, ev0, .inl rfl, rfl, .inl rfl, fun _ _ _ h => (by cases h), Nat.le_refl _, by decide, h⟩
theorem outRM_flat {w w' : World} {k at_ nu : Int} {x : Dd} (h : Below w.heap.size w w') (hx : x.zs = []) : OutRM w (some ⟨k, x, at_, nu⟩) (.returned (.tuple #[.agg #[.int .i64 k, .int .i64 x.k, .int .i64 x.o, .int .i64 x.t, .int .i64 x.n, .int .i64 x.d, .slice none 0 0, .int .i64 at_, .int .i64 nu], .bool true])) w' := ⟨none, 0, ⟨k, x, at_, nu⟩, .inr rfl, by dsimp only; rw [hx]; rfl, .inl hx, fun _ _ _ h => (by cases h), by dsimp only; rw [hx]; exact Nat.le_refl _, by dsimp only; rw [hx]; decide, h⟩
theorem outRM_sell {w w' : World} {n1 n2 x y : Int} {ok : Bool} {o : Option Ev} (h : o = if ok = true then some ⟨0, ⟨0, n1, n2, x, y, []⟩, 0, 0⟩ else none) (hb : Below w.heap.size w w') : OutRM w o (.returned (.tuple #[.agg #[.int .i64 0, .int .i64 0, .int .i64 n1, .int .i64 n2, .int .i64 x, .int .i64 y, .slice none 0 0, .int .i64 0, .int .i64 0], .bool ok])) w' := by
  subst h
  cases ok with
  | true => exact outRM_flat (x := ⟨0, n1, n2, x, y, []⟩) hb rfl
  | false => exact ⟨none, 0, ⟨0, ⟨0, n1, n2, x, y, []⟩, 0, 0⟩, .inl rfl, rfl, .inl rfl, fun _ _ _ h => (by cases h), Nat.le_refl _, by simp, hb⟩
set_option maxRecDepth 100000 in
set_option maxHeartbeats 6000000 in
/-- spec.readSell -/
theorem sreadSell (a : Option Addr) (cap : Nat) (L : List ByteArray) (w : World) (h : IsStr w a L) (hz : ∀ l ∈ L, l.size ≤ 4294967296) (hk : kw L = kSell) :
    Calls Try.prog 95 #[.slice a L.length cap] w (OutRM w (rdM L)) := by
  have B := (Below.refl w.heap.size w).alloc (Nat.le_refl _) (.cells #[.int .i64 0, .int .i64 0, .int .i64 0, .int .i64 0, .int .i64 0, .int .i64 0, .slice none 0 0, .int .i64 0, .int .i64 0] 35)
  have K := Blk.new w 35 #[.int .i64 0, .int .i64 0, .int .i64 0, .int .i64 0, .int .i64 0, .int .i64 0, .slice none 0 0, .int .i64 0, .int .i64 0]
  obtain ⟨U, hU⟩ : ∃ U, U = w.alloc (.cells #[.int .i64 0, .int .i64 0, .int .i64 0, .int .i64 0, .int .i64 0, .int .i64 0, .slice none 0 0, .int .i64 0, .int .i64 0] 35) := ⟨_, rfl⟩
  have hI := str_below h ((Below.refl w.heap.size w).alloc (Nat.le_refl _) (.cells #[.int .i64 0, .int .i64 0, .int .i64 0, .int .i64 0, .int .i64 0, .int .i64 0, .slice none 0 0, .int .i64 0, .int .i64 0] 35))
  rw [← hU] at B K hI
  have HU := Lib.hid hU
  have KH := Lib.hid K
  have HB := Lib.hid B
  have hI0 := h
  clear hU h
  by_cases h4 : L.length = 4
  case neg =>
    have HX : Hid (rdM L = none) := Lib.hid (by unfold rdM; rw [if_pos hk, if_neg (fun c => h4 c.1)])
    have n4 : ¬ (L.length : Int) = 4 := by omega
    have n4b : ((L.length : Int) != 4) = true := by simp; omega
    have n4d : decide ((L.length : Int) = 4) = false := decide_eq_false n4
    clear hI hI0 hz hk h4
    go_enter Try.func95, Try.ntmps95
    obtain ⟨y1, hy⟩ : ∃ Y_, Y_ = sets9 U w.heap.size (.int .i64 0) (.int .i64 0) (.int .i64 0) (.int .i64 0) (.int .i64 0) (.int .i64 0) (.slice none 0 0) (.int .i64 0) (.int .i64 0) := ⟨_, rfl⟩
    have KF := sets9_blk (v0 := .int .i64 0) (v1 := .int .i64 0) (v2 := .int .i64 0) (v3 := .int .i64 0) (v4 := .int .i64 0) (v5 := .int .i64 0) (v6 := .slice none 0 0) (v7 := .int .i64 0) (v8 := .int .i64 0) KH.out
    rw [← hy] at KF
    obtain ⟨z0, z1, z2, z3, z4, z5, z6, z7, z8⟩ := cells9 KF
    have BF := Lib.hid (show Below w.heap.size w y1 by subst hy; exact sets9_below HB.out (Nat.le_refl _))
    have HY := Lib.hid hy
    clear KF hy
    go_wp2_with (first | (show wpList _ _ _ _ _ (World.alloc _ _); rw [← HU.out]) | (show wpList _ _ _ ({ dst := _, op := Op.store _ _ _, type := _, pos := _, after := _, guard := _ } :: _) _ _; refine wpList_str9 rfl _ _ _ rfl w.heap.size (.int .i64 0) (.int .i64 0) (.int .i64 0) (.int .i64 0) (.int .i64 0) (.int .i64 0) (.slice none 0 0) (.int .i64 0) (.int .i64 0) rfl rfl KH.out (by kernel_rfl) rfl ?_; rw [← HY.out]))
    refine bodyPost_ret (v := .tuple #[.agg #[.int .i64 0, .int .i64 0, .int .i64 0, .int .i64 0, .int .i64 0, .int .i64 0, .slice none 0 0, .int .i64 0, .int .i64 0], .bool false]) (by simp [results, Try.results95, go_sem, z0, z1, z2, z3, z4, z5, z6, z7, z8]) rfl (by rw [HX.out]; exact outRM_no BF.out)
  obtain ⟨A, B1, B2, B3, rfl⟩ : ∃ A B1 B2 B3, L = [A, B1, B2, B3] := by
    match L, h4 with
    | [A, B1, B2, B3], _ => exact ⟨A, B1, B2, B3, rfl⟩
  rcases hI0 with e | ⟨g, o_, rfl, hc0⟩
  · cases e
  have hgw : g ≠ w.heap.size := by have := World.block_lt_of_cell? w _ (hc0 0 (by simp)); show g ≠ _; have h2 : g < w.heap.size := this; omega
  have hc : ∀ i, i < [A, B1, B2, B3].length → U.cell? ⟨g, o_ + i, none⟩ = some (.string ([A, B1, B2, B3].getD i tE)) := fun i hi => by
    rcases hI with e | ⟨g', o', e, h'⟩
    · cases e
    · injection e with e; injection e with e1 e2; subst e1 e2; exact h' i hi
  have c1 : U.cell? ⟨g, o_ + 1, none⟩ = some (.string B1) := hc 1 (by simp)
  have c2 : U.cell? ⟨g, o_ + 2, none⟩ = some (.string B2) := hc 2 (by simp)
  have c3 : U.cell? ⟨g, o_ + 3, none⟩ = some (.string B3) := hc 3 (by simp)
  have z1 := hz B1 (by simp)
  have z2 := hz B2 (by simp)
  have z3 := hz B3 (by simp)
  have lt1 := World.block_lt_of_cell? U _ c1
  have HX : Hid (rdM [A, B1, B2, B3] = if pok B3 = true then some ⟨0, ⟨0, rdS 1000000 B1, rdS 1000000 B2, pnum B3, pden B3, []⟩, 0, 0⟩ else none) := Lib.hid (by
    unfold rdM; rw [if_pos hk]
    by_cases e : pok B3 = true
    · rw [if_pos ⟨rfl, e⟩, if_pos e]; rfl
    · rw [if_neg (fun c => e c.2), if_neg e])
  have CF := sparse B3 U z3
  clear hc hc0 hz hk h4
  have CN := fun W => sread B1 W z1
  have CM := fun W => sread B2 W z2
  have hgU : g < U.heap.size := lt1
  have HGW := Lib.hid hgw
  generalize rdS 1000000 B1 = n1 at *
  generalize rdS 1000000 B2 = n2 at *
  clear z1 z2 z3
  obtain ⟨x, y, ok, hV, hok⟩ : ∃ x y ok, frV (pok B3) (pnum B3) (pden B3) = .tuple #[.agg #[.int .i64 x, .int .i64 y], .bool ok] ∧ (if pok B3 = true then some (⟨0, ⟨0, n1, n2, pnum B3, pden B3, []⟩, 0, 0⟩ : Ev) else none) = (if ok = true then some ⟨0, ⟨0, n1, n2, x, y, []⟩, 0, 0⟩ else none) := by
    cases pok B3 with
    | true => exact ⟨_, _, true, rfl, rfl⟩
    | false => exact ⟨0, 0, false, rfl, rfl⟩
  rw [hV] at CF
  rw [hok] at HX
  clear hV hok
  go_enter Try.func95, Try.ntmps95
  go_wp2_with (first | (show wpList _ _ _ _ _ (World.alloc _ _); rw [← HU.out]))
  refine CF.mono ?_
  rintro e U2 ⟨rfl, C⟩
  replace c1 := (C.cell (p := ⟨g, o_ + 1, none⟩) hgU).trans c1
  replace c2 := (C.cell (p := ⟨g, o_ + 2, none⟩) hgU).trans c2
  have K2 := KH.out.next C
  have B2_ := bel_tr HB.out C
  have hg2 : g < U2.heap.size := Nat.lt_of_lt_of_le hgU C.size
  have hw2 : w.heap.size < U2.heap.size := K2.lt
  have hgw : g ≠ w.heap.size := HGW.out
  have D2 : Below U2.heap.size U2 (U2.alloc (.cells #[.int .i64 x, .int .i64 y] 31)) := (Below.refl _ _).alloc (Nat.le_refl _) _
  have KF2 := Blk.new U2 31 #[.int .i64 x, .int .i64 y]
  obtain ⟨U3, hU3⟩ : ∃ U3, U3 = U2.alloc (.cells #[.int .i64 x, .int .i64 y] 31) := ⟨_, rfl⟩
  rw [← hU3] at D2 KF2
  have HU3 := Lib.hid hU3
  replace c1 := (D2.cell (p := ⟨g, o_ + 1, none⟩) hg2).trans c1
  replace c2 := (D2.cell (p := ⟨g, o_ + 2, none⟩) hg2).trans c2
  have KH3 : Hid (Blk U3.drew w.heap.size 35 #[.int .i64 0, .int .i64 0, .int .i64 0, .int .i64 0, .int .i64 0, .int .i64 0, .slice none 0 0, .int .i64 0, .int .i64 0]) := Lib.hid (K2.next D2).drew
  have HB3 : Hid (Below w.heap.size w U3.drew) := Lib.hid (bel_tr B2_ D2).drew
  have e0 := KF2.cell 0
  have e1 := KF2.cell 1
  simp only [List.getElem?_toArray, List.getElem?_cons_zero, List.getElem?_cons_succ] at e0 e1
  clear C hgU KH HB K2 B2_ hg2 D2 KF2 hU3 CF HU
  generalize hp2 : U2.heap.size = p2 at *
  go_wp2_with fail
  rw [← HU3.out]
  obtain ⟨y1, hy⟩ : ∃ Y_, Y_ = sets9 U3.drew w.heap.size (.int .i64 0) (.int .i64 0) (.int .i64 n1) (.int .i64 n2) (.int .i64 x) (.int .i64 y) (.slice none 0 0) (.int .i64 0) (.int .i64 0) := ⟨_, rfl⟩
  have KF := sets9_blk (v0 := .int .i64 0) (v1 := .int .i64 0) (v2 := .int .i64 n1) (v3 := .int .i64 n2) (v4 := .int .i64 x) (v5 := .int .i64 y) (v6 := .slice none 0 0) (v7 := .int .i64 0) (v8 := .int .i64 0) KH3.out
  rw [← hy] at KF
  obtain ⟨z0, z1, z2, z3, z4, z5, z6, z7, z8⟩ := cells9 KF
  obtain ⟨q0, q1, q2, q3, q4, q5, q6, q7, q8⟩ := cells9 KH3.out
  have ff0 := KH3.out.frozen 0
  have ff1 := KH3.out.frozen 1
  have ff2 := KH3.out.frozen 2
  have ff3 := KH3.out.frozen 3
  have ff4 := KH3.out.frozen 4
  have ff5 := KH3.out.frozen 5
  have ff6 := KH3.out.frozen 6
  have ff7 := KH3.out.frozen 7
  have ff8 := KH3.out.frozen 8
  have BF := Lib.hid (show Below w.heap.size w y1 by subst hy; exact sets9_below HB3.out (Nat.le_refl _))
  have far : ∀ (b l : Nat) (v : Value), b ≠ w.heap.size → U3.drew.cell? ⟨b, l, none⟩ = some v → y1.cell? ⟨b, l, none⟩ = some v := fun b l v hb h => by
    have hq : ∀ (V : World) (i : Nat) (z : Value), (V.setCell ⟨w.heap.size, i, none⟩ z).cell? ⟨b, l, none⟩ = V.cell? ⟨b, l, none⟩ := fun V i z => World.cell?_setCell_other V _ _ z (fun e => by injection e with e; omega)
    subst hy; unfold sets9; rw [hq, hq, hq, hq, hq, hq, hq, hq, hq]; exact h
  have HSY : Hid (y1.cell? ⟨g, o_ + 1, none⟩ = some (.string B1) ∧ y1.cell? ⟨g, o_ + 2, none⟩ = some (.string B2) ∧ y1.cell? ⟨p2, 0, none⟩ = some (.int .i64 x) ∧ y1.cell? ⟨p2, 1, none⟩ = some (.int .i64 y)) := Lib.hid ⟨far _ _ _ (by omega) c1, far _ _ _ (by omega) c2, far _ _ _ (by omega) e0, far _ _ _ (by omega) e1⟩
  have HY := Lib.hid hy
  clear KF hy far
  refine wp_region_held_drew (S := (fun w' => w'.cell? ⟨g, o_ + 1, none⟩ = some (.string B1) ∧ w'.cell? ⟨g, o_ + 2, none⟩ = some (.string B2) ∧ w'.cell? ⟨p2, 0, none⟩ = some (.int .i64 x) ∧ w'.cell? ⟨p2, 1, none⟩ = some (.int .i64 y))) (by kernel_rfl) ?_ (fun hHeld => ?_)
  · exact ⟨c1, c2, e0, e1⟩
  generalize U3.drew = U4 at *
  refine wpAnyH_take (i := 0) (oi := ?ooa0) (v := ?vva0) ?hia0 (by kernel_rfl) ?h3a0 ?h4a0 ?h5a0 ?h6a0 (by assumption) ?h8a0
  case hia0 => (simp only [List.getElem?_toArray, List.getElem?_cons_succ, List.getElem?_cons_zero]; rfl)
  case h3a0 => kernel_rfl
  case h4a0 => kernel_rfl
  case h6a0 => (refine Or.inl ⟨by rfl, ?_⟩; intro w hSw; (try dsimp only at hSw); (go_simp <;> with_reducible rfl))
  case h5a0 => exact fun _ _ _ h => h
  try simp only [Act.put, List.setIfInBounds_toArray, List.set_cons_zero, List.set_cons_succ]
  refine wpAnyH_take (i := 1) (oi := ?ooa1) (v := ?vva1) ?hia1 (by kernel_rfl) ?h3a1 ?h4a1 ?h5a1 ?h6a1 (by assumption) ?h8a1
  case hia1 => (simp only [List.getElem?_toArray, List.getElem?_cons_succ, List.getElem?_cons_zero]; rfl)
  case h3a1 => kernel_rfl
  case h4a1 => kernel_rfl
  case h6a1 => (refine Or.inl ⟨by rfl, ?_⟩; intro w hSw; (try dsimp only at hSw); (go_simp <;> with_reducible rfl))
  case h5a1 => exact fun _ _ _ h => h
  try simp only [Act.put, List.setIfInBounds_toArray, List.set_cons_zero, List.set_cons_succ]
  refine wpAnyH_take (i := 2) (oi := ?ooa2) (v := ?vva2) ?hia2 (by kernel_rfl) ?h3a2 ?h4a2 ?h5a2 ?h6a2 (by assumption) ?h8a2
  case hia2 => (simp only [List.getElem?_toArray, List.getElem?_cons_succ, List.getElem?_cons_zero]; rfl)
  case h3a2 => kernel_rfl
  case h4a2 => kernel_rfl
  case h6a2 => (refine Or.inl ⟨by rfl, ?_⟩; intro w hSw; (try dsimp only at hSw); (go_simp <;> with_reducible rfl))
  case h5a2 => exact fun _ _ _ h => h
  try simp only [Act.put, List.setIfInBounds_toArray, List.set_cons_zero, List.set_cons_succ]
  refine wpAnyH_take (i := 4) (oi := ?ooa4) (v := ?vva4) ?hia4 (by kernel_rfl) ?h3a4 ?h4a4 ?h5a4 ?h6a4 (by assumption) ?h8a4
  case hia4 => (simp only [List.getElem?_toArray, List.getElem?_cons_succ, List.getElem?_cons_zero]; rfl)
  case h3a4 => kernel_rfl
  case h4a4 => kernel_rfl
  case h6a4 => (refine Or.inl ⟨by rfl, ?_⟩; intro w hSw; (try dsimp only at hSw); (go_simp <;> with_reducible rfl))
  case h5a4 => exact fun _ _ _ h => h
  try simp only [Act.put, List.setIfInBounds_toArray, List.set_cons_zero, List.set_cons_succ]
  refine wpAnyH_take (i := 5) (oi := ?ooa5) (v := ?vva5) ?hia5 (by kernel_rfl) ?h3a5 ?h4a5 ?h5a5 ?h6a5 (by assumption) ?h8a5
  case hia5 => (simp only [List.getElem?_toArray, List.getElem?_cons_succ, List.getElem?_cons_zero]; rfl)
  case h3a5 => kernel_rfl
  case h4a5 => kernel_rfl
  case h6a5 => (refine Or.inl ⟨by rfl, ?_⟩; intro w hSw; (try dsimp only at hSw); (go_simp <;> with_reducible rfl))
  case h5a5 => exact fun _ _ _ h => h
  try simp only [Act.put, List.setIfInBounds_toArray, List.set_cons_zero, List.set_cons_succ]
  refine wpAnyH_take (i := 6) (oi := ?ooa6) (v := ?vva6) ?hia6 (by kernel_rfl) ?h3a6 ?h4a6 ?h5a6 ?h6a6 (by assumption) ?h8a6
  case hia6 => (simp only [List.getElem?_toArray, List.getElem?_cons_succ, List.getElem?_cons_zero]; rfl)
  case h3a6 => kernel_rfl
  case h4a6 => kernel_rfl
  case h6a6 => (refine Or.inl ⟨by rfl, ?_⟩; intro w hSw; (try dsimp only at hSw); (go_simp <;> with_reducible rfl))
  case h5a6 => exact fun _ _ _ h => h
  try simp only [Act.put, List.setIfInBounds_toArray, List.set_cons_zero, List.set_cons_succ]
  refine wpAnyH_take (i := 8) (oi := ?ooa8) (v := ?vva8) ?hia8 (by kernel_rfl) ?h3a8 ?h4a8 ?h5a8 ?h6a8 (by assumption) ?h8a8
  case hia8 => (simp only [List.getElem?_toArray, List.getElem?_cons_succ, List.getElem?_cons_zero]; rfl)
  case h3a8 => kernel_rfl
  case h4a8 => kernel_rfl
  case h6a8 => (refine Or.inl ⟨by rfl, ?_⟩; intro w hSw; (try dsimp only at hSw); (go_simp <;> with_reducible rfl))
  case h5a8 => exact fun _ _ _ h => h
  try simp only [Act.put, List.setIfInBounds_toArray, List.set_cons_zero, List.set_cons_succ]
  refine wpAnyH_take (i := 11) (oi := ?ooa11) (v := ?vva11) ?hia11 (by kernel_rfl) ?h3a11 ?h4a11 ?h5a11 ?h6a11 (by assumption) ?h8a11
  case hia11 => (simp only [List.getElem?_toArray, List.getElem?_cons_succ, List.getElem?_cons_zero]; rfl)
  case h3a11 => kernel_rfl
  case h4a11 => kernel_rfl
  case h6a11 => (refine Or.inl ⟨by rfl, ?_⟩; intro w hSw; (try dsimp only at hSw); (go_simp <;> with_reducible rfl))
  case h5a11 => exact fun _ _ _ h => h
  try simp only [Act.put, List.setIfInBounds_toArray, List.set_cons_zero, List.set_cons_succ]
  refine wpAnyH_ready (rs := [3]) (by kernel_rfl) (by simp) (AllReadyH.cons (o := ?ooa3) ?hia3 (fun K hK => ?hka3) AllReadyH.nil)
  rotate_left
  case hia3 => (simp only [List.getElem?_toArray, List.getElem?_cons_succ, List.getElem?_cons_zero]; rfl)
  (rw [if_pos (by rfl)]; go_simp; refine (CN _).mono ?_; rintro e w3 ⟨rfl, rfl⟩; go_wp2_with fail; refine hK.out _ _ (hHeld) (fun hHeld => ?_); clear hK K)
  try simp only [Act.put, List.setIfInBounds_toArray, List.set_cons_zero, List.set_cons_succ]
  refine wpAnyH_ready (rs := [7]) (by kernel_rfl) (by simp) (AllReadyH.cons (o := ?ooa7) ?hia7 (fun K hK => ?hka7) AllReadyH.nil)
  rotate_left
  case hia7 => (simp only [List.getElem?_toArray, List.getElem?_cons_succ, List.getElem?_cons_zero]; rfl)
  (rw [if_pos (by rfl)]; go_simp; refine (CM _).mono ?_; rintro e w3 ⟨rfl, rfl⟩; go_wp2_with fail; refine hK.out _ _ (hHeld) (fun hHeld => ?_); clear hK K)
  try simp only [Act.put, List.setIfInBounds_toArray, List.set_cons_zero, List.set_cons_succ]
  refine wpAnyH_take (i := 9) (oi := ?ooa9) (v := ?vva9) ?hia9 (by kernel_rfl) ?h3a9 ?h4a9 ?h5a9 ?h6a9 (by assumption) ?h8a9
  case hia9 => (simp only [List.getElem?_toArray, List.getElem?_cons_succ, List.getElem?_cons_zero]; rfl)
  case h3a9 => kernel_rfl
  case h4a9 => kernel_rfl
  case h6a9 => (refine Or.inl ⟨by rfl, ?_⟩; intro w hSw; (try dsimp only at hSw); (go_simp <;> with_reducible rfl))
  case h5a9 => exact fun _ _ _ h => h
  try simp only [Act.put, List.setIfInBounds_toArray, List.set_cons_zero, List.set_cons_succ]
  refine wpAnyH_take (i := 10) (oi := ?ooa10) (v := ?vva10) ?hia10 (by kernel_rfl) ?h3a10 ?h4a10 ?h5a10 ?h6a10 (by assumption) ?h8a10
  case hia10 => (simp only [List.getElem?_toArray, List.getElem?_cons_succ, List.getElem?_cons_zero]; rfl)
  case h3a10 => kernel_rfl
  case h4a10 => kernel_rfl
  case h6a10 => (refine Or.inl ⟨by rfl, ?_⟩; intro w hSw; (try dsimp only at hSw); (go_simp <;> with_reducible rfl))
  case h5a10 => exact fun _ _ _ h => h
  try simp only [Act.put, List.setIfInBounds_toArray, List.set_cons_zero, List.set_cons_succ]
  refine wpAnyH_ready (rs := [12]) (by kernel_rfl) (by simp) (AllReadyH.cons (o := ?ooa12) ?hia12 (fun K hK => ?hka12) AllReadyH.nil)
  rotate_left
  case hia12 => (simp only [List.getElem?_toArray, List.getElem?_cons_succ, List.getElem?_cons_zero]; rfl)
  (rw [if_pos (by rfl)]; go_simp; change K _ (sets9 _ _ _ _ _ _ _ _ _ _ _); rw [← HY.out]; refine hK.out _ _ (HSY.out) (fun hHeld => ?_); clear hK K)
  try simp only [Act.put, List.setIfInBounds_toArray, List.set_cons_zero, List.set_cons_succ]
  refine wpAnyH_take (i := 13) (oi := ?ooa13) (v := ?vva13) ?hia13 (by kernel_rfl) ?h3a13 ?h4a13 ?h5a13 ?h6a13 (by assumption) ?h8a13
  case hia13 => (simp only [List.getElem?_toArray, List.getElem?_cons_succ, List.getElem?_cons_zero]; rfl)
  case h3a13 => kernel_rfl
  case h4a13 => kernel_rfl
  case h6a13 => (refine Or.inl ⟨by rfl, ?_⟩; intro w hSw; (try dsimp only at hSw); (go_simp <;> with_reducible rfl))
  case h5a13 => exact fun _ _ _ h => h
  try simp only [Act.put, List.setIfInBounds_toArray, List.set_cons_zero, List.set_cons_succ]
  refine wpAnyH_done (by kernel_rfl) ?_ _
  clear q0 q1 q2 q3 q4 q5 q6 q7 q8 ff0 ff1 ff2 ff3 ff4 ff5 ff6 ff7 ff8 c1 c2 e0 e1 HSY
  go_wp2_with fail
  refine bodyPost_ret (v := .tuple #[.agg #[.int .i64 0, .int .i64 0, .int .i64 n1, .int .i64 n2, .int .i64 x, .int .i64 y, .slice none 0 0, .int .i64 0, .int .i64 0], .bool ok]) (by simp [results, Try.results95, go_sem, z0, z1, z2, z3, z4, z5, z6, z7, z8]) rfl (outRM_sell HX.out BF.out)
end Go.Proofs.Ythagafkjlecagaa
namespace Go.Proofs.Ythagafkjlecagaa
open Go.RowKit
set_option linter.unusedSimpArgs false
set_option linter.unusedVariables false

/-- what readDeed leaves -/
def OutRD (w : World) (x : Dd) (e : Ending) (w' : World) : Prop := ∃ v, e = .returned (.agg #[.int .i64 x.k, .int .i64 x.o, .int .i64 x.t, .int .i64 x.n, .int .i64 x.d, v]) ∧ OwnI w' w.heap.size v x.zs ∧ Below w.heap.size w w'
/-- what readEvent leaves -/
def OutRE (w : World) (x : Ev) (e : Ending) (w' : World) : Prop := ∃ v, e = .returned (.agg #[.int .i64 x.k, .int .i64 x.dd.k, .int .i64 x.dd.o, .int .i64 x.dd.t, .int .i64 x.dd.n, .int .i64 x.dd.d, v, .int .i64 x.at_, .int .i64 x.nu]) ∧ OwnI w' w.heap.size v x.dd.zs ∧ Below w.heap.size w w'
theorem rdD_sell {L : List ByteArray} (h : kw L = kSell) : rdD L = ⟨0, nA L 1, nA L 2, (pA L 3).1, (pA L 3).2, []⟩ := by unfold rdD; rw [if_pos h]
theorem rdD_inh {L : List ByteArray} (h0 : ¬ kw L = kSell) (h : kw L = kInh) : rdD L = ⟨1, nA L 1, 0, 0, 0, hA L⟩ := by unfold rdD; rw [if_neg h0, if_pos h]
theorem rdD_join {L : List ByteArray} (h0 : ¬ kw L = kSell) (h1 : ¬ kw L = kInh) (h : kw L = kJoin) : rdD L = ⟨2, nA L 1, nA L 2, 0, 0, []⟩ := by unfold rdD; rw [if_neg h0, if_neg h1, if_pos h]
theorem rdD_no {L : List ByteArray} (h0 : ¬ kw L = kSell) (h1 : ¬ kw L = kInh) (h : ¬ kw L = kJoin) : rdD L = dd0 := by unfold rdD; rw [if_neg h0, if_neg h1, if_neg h]
theorem own_alloc {w W : World} {base : Nat} {v : Value} {zs : List Int} (h : OwnI w base v zs) (o : Obj) (hW : W = w.alloc o) : OwnI W base v zs := by subst hW; exact h.of_block ((Below.refl _ _).alloc (Nat.le_refl _) _)
set_option maxRecDepth 100000 in
set_option maxHeartbeats 6000000 in
/-- impl.readDeed -/
theorem ireadD (a : Option Addr) (cap : Nat) (L : List ByteArray) (w : World) (h : IsStr w a L) (hL : L ≠ []) (hz : ∀ l ∈ L, l.size ≤ 4294967296) (hl : L.length ≤ 1048576) :
    Calls Try.prog 75 #[.slice a L.length cap] w (OutRD w (rdD L)) := by
  have CN := Lib.hid (fun (k : Int) (n : Nat) W (hW : Below w.heap.size w W) (hk : k = n) => inumAt a cap L k n W (str_below h hW) hz hl hk)
  have CP := Lib.hid (fun (k : Int) (n : Nat) W (hW : Below w.heap.size w W) (hk : k = n) => ipartAt a cap L k n W (str_below h hW) hz hl hk)
  have CH := Lib.hid (fun W (hW : Below w.heap.size w W) => iheirsIn a cap L W (str_below h hW) hz hl)
  have hkw : kw L = (L.getD 0 tE).data.toList := rfl
  rcases h with e | ⟨g, o_, rfl, hc⟩
  · exact absurd e hL
  have c0 := hc 0 (List.length_pos_iff.2 hL)
  have hp : (0 : Int) < (L.length : Int) := by have := List.length_pos_iff.2 hL; omega
  have c0b := World.block_lt_of_cell? w _ c0
  clear hc hL hz
  rw [Nat.add_zero] at c0
  have B := (Below.refl w.heap.size w).alloc (Nat.le_refl _) (.cells #[.int .i64 0, .int .i64 0, .int .i64 0, .int .i64 0, .int .i64 0, .slice none 0 0] 33)
  have K := Lib.hid (Blk.new w 33 #[.int .i64 0, .int .i64 0, .int .i64 0, .int .i64 0, .int .i64 0, .slice none 0 0])
  have c1 := (B.cell (p := ⟨g, o_, none⟩) c0b).trans c0
  obtain ⟨U, hU⟩ : ∃ U, U = w.alloc (.cells #[.int .i64 0, .int .i64 0, .int .i64 0, .int .i64 0, .int .i64 0, .slice none 0 0] 33) := ⟨_, rfl⟩
  rw [← hU] at B K c1
  have HU := Lib.hid hU
  have HB := Lib.hid B
  have hs0 := B.size
  have ltU := K.out.lt
  clear hU c0 c0b
  by_cases k1 : kw L = kSell
  · have HX := Lib.hid (rdD_sell k1)
    rw [hkw] at k1
    clear hkw
    generalize L.getD 0 tE = A at *
    have t1 : (A.toList == [115, 101, 108, 108]) = true := str_eq A kSell k1
    generalize hn1 : nA L 1 = n1 at *
    generalize hn2 : nA L 2 = n2 at *
    generalize hn3 : pA L 3 = q3 at *
    obtain ⟨x, y⟩ := q3
    dsimp only at HX
    have C1 := CN.out 1 1 U B rfl
    have C2 := CN.out 2 2 U B rfl
    have C3 := CP.out 3 3 U B rfl
    rw [hn1] at C1
    rw [hn2] at C2
    rw [hn3] at C3
    clear CN CP CH B k1 hn1 hn2 hn3
    go_enter Try.func75, Try.ntmps75
    go_wp2_with fail
    rw [← HU.out]
    refine C1.mono ?_
    rintro e w' ⟨rfl, rfl⟩
    go_wp2_with fail
    refine C2.mono ?_
    rintro e w' ⟨rfl, rfl⟩
    go_wp2_with fail
    refine C3.mono ?_
    rintro e U2 ⟨rfl, C⟩
    have K2 := Lib.hid (K.out.next C)
    have B2 := Lib.hid (bel_tr HB.out C)
    clear C c1
    obtain ⟨y1, hy⟩ : ∃ Y_, Y_ = sets6 U2 w.heap.size (.int .i64 0) (.int .i64 n1) (.int .i64 n2) (.int .i64 x) (.int .i64 y) (.slice none 0 0) := ⟨_, rfl⟩
    have KF := sets6_blk (v0 := .int .i64 0) (v1 := .int .i64 n1) (v2 := .int .i64 n2) (v3 := .int .i64 x) (v4 := .int .i64 y) (v5 := .slice none 0 0) K2.out
    rw [← hy] at KF
    obtain ⟨z0, z1, z2, z3, z4, z5⟩ := cells6 KF
    have BF := Lib.hid (show Below w.heap.size w y1 by subst hy; exact sets6_below B2.out (Nat.le_refl _))
    have HY := Lib.hid hy
    clear KF hy
    go_wp2_with (first | (show wpList _ _ _ ({ dst := _, op := Op.store _ _ _, type := _, pos := _, after := _, guard := _ } :: _) _ _; refine wpList_str6 rfl _ _ _ rfl w.heap.size (.int .i64 0) (.int .i64 n1) (.int .i64 n2) (.int .i64 x) (.int .i64 y) (.slice none 0 0) rfl rfl K2.out (by kernel_rfl) rfl ?_; rw [← HY.out]))
    refine bodyPost_ret (v := .agg #[.int .i64 0, .int .i64 n1, .int .i64 n2, .int .i64 x, .int .i64 y, .slice none 0 0]) (by simp [results, Try.results75, go_sem, z0, z1, z2, z3, z4, z5]) rfl ⟨_, by rw [HX.out], by rw [HX.out]; exact OwnI.nil _ _, BF.out⟩
  have t1 : ((L.getD 0 tE).toList == [115, 101, 108, 108]) = false := str_ne _ kSell (by rw [← hkw]; exact k1)
  by_cases k2 : kw L = kInh
  · have HX := Lib.hid (rdD_inh k1 k2)
    rw [hkw] at k1 k2
    clear hkw
    generalize L.getD 0 tE = A at *
    have t2 : (A.toList == [105, 110, 104, 101, 114, 105, 116]) = true := str_eq A kInh k2
    generalize hn1 : nA L 1 = n1 at *
    have C1 := CN.out 1 1 U B rfl
    have C3 := CH.out U B
    rw [hn1] at C1
    clear CN CP CH B k1 k2 hn1
    generalize hA L = zs at *
    go_enter Try.func75, Try.ntmps75
    go_wp2_with fail
    rw [← HU.out]
    refine C1.mono ?_
    rintro e w' ⟨rfl, rfl⟩
    go_wp2_with fail
    refine C3.mono ?_
    rintro e U2 ⟨v, rfl, O, C⟩
    have K2 := Lib.hid (K.out.next C)
    have B2 := Lib.hid (bel_tr HB.out C)
    obtain ⟨b, cz, rfl, _⟩ := O.ints
    have hne : (Value.slice b zs.length cz).ownBlock ≠ some w.heap.size := fun c => by have := O.grow _ c; omega
    have HO := Lib.hid (own_lower O hs0)
    have HNE := Lib.hid hne
    clear C c1 O hne
    obtain ⟨y1, hy⟩ : ∃ Y_, Y_ = sets6 U2 w.heap.size (.int .i64 1) (.int .i64 n1) (.int .i64 0) (.int .i64 0) (.int .i64 0) (.slice b zs.length cz) := ⟨_, rfl⟩
    have KF := sets6_blk (v0 := .int .i64 1) (v1 := .int .i64 n1) (v2 := .int .i64 0) (v3 := .int .i64 0) (v4 := .int .i64 0) (v5 := .slice b zs.length cz) K2.out
    rw [← hy] at KF
    obtain ⟨z0, z1, z2, z3, z4, z5⟩ := cells6 KF
    have BF := Lib.hid (show Below w.heap.size w y1 by subst hy; exact sets6_below B2.out (Nat.le_refl _))
    have HOF := Lib.hid (show OwnI y1 w.heap.size (.slice b zs.length cz) zs by subst hy; exact ((((((HO.out.far HNE.out _).far HNE.out _).far HNE.out _).far HNE.out _).far HNE.out _).far HNE.out _))
    have HY := Lib.hid hy
    clear KF hy
    go_wp2_with (first | (show wpList _ _ _ ({ dst := _, op := Op.store _ _ _, type := _, pos := _, after := _, guard := _ } :: _) _ _; refine wpList_str6 rfl _ _ _ rfl w.heap.size (.int .i64 1) (.int .i64 n1) (.int .i64 0) (.int .i64 0) (.int .i64 0) (.slice b zs.length cz) rfl rfl K2.out (by kernel_rfl) rfl ?_; rw [← HY.out]))
    refine bodyPost_ret (v := .agg #[.int .i64 1, .int .i64 n1, .int .i64 0, .int .i64 0, .int .i64 0, .slice b zs.length cz]) (by simp [results, Try.results75, go_sem, z0, z1, z2, z3, z4, z5]) rfl ⟨_, by rw [HX.out], by rw [HX.out]; exact HOF.out, BF.out⟩
  have t2 : ((L.getD 0 tE).toList == [105, 110, 104, 101, 114, 105, 116]) = false := str_ne _ kInh (by rw [← hkw]; exact k2)
  by_cases k3 : kw L = kJoin
  · have HX := Lib.hid (rdD_join k1 k2 k3)
    rw [hkw] at k1 k2 k3
    clear hkw
    generalize L.getD 0 tE = A at *
    have t3 : (A.toList == [106, 111, 105, 110]) = true := str_eq A kJoin k3
    generalize hn1 : nA L 1 = n1 at *
    generalize hn2 : nA L 2 = n2 at *
    have C1 := CN.out 1 1 U B rfl
    have C2 := CN.out 2 2 U B rfl
    rw [hn1] at C1
    rw [hn2] at C2
    clear CN CP CH B k1 k2 k3 hn1 hn2
    go_enter Try.func75, Try.ntmps75
    go_wp2_with fail
    rw [← HU.out]
    refine C1.mono ?_
    rintro e w' ⟨rfl, rfl⟩
    go_wp2_with fail
    refine C2.mono ?_
    rintro e w' ⟨rfl, rfl⟩
    obtain ⟨y1, hy⟩ : ∃ Y_, Y_ = sets6 U w.heap.size (.int .i64 2) (.int .i64 n1) (.int .i64 n2) (.int .i64 0) (.int .i64 0) (.slice none 0 0) := ⟨_, rfl⟩
    have KF := sets6_blk (v0 := .int .i64 2) (v1 := .int .i64 n1) (v2 := .int .i64 n2) (v3 := .int .i64 0) (v4 := .int .i64 0) (v5 := .slice none 0 0) K.out
    rw [← hy] at KF
    obtain ⟨z0, z1, z2, z3, z4, z5⟩ := cells6 KF
    have BF := Lib.hid (show Below w.heap.size w y1 by subst hy; exact sets6_below HB.out (Nat.le_refl _))
    have HY := Lib.hid hy
    clear KF hy
    go_wp2_with (first | (show wpList _ _ _ ({ dst := _, op := Op.store _ _ _, type := _, pos := _, after := _, guard := _ } :: _) _ _; refine wpList_str6 rfl _ _ _ rfl w.heap.size (.int .i64 2) (.int .i64 n1) (.int .i64 n2) (.int .i64 0) (.int .i64 0) (.slice none 0 0) rfl rfl K.out (by kernel_rfl) rfl ?_; rw [← HY.out]))
    refine bodyPost_ret (v := .agg #[.int .i64 2, .int .i64 n1, .int .i64 n2, .int .i64 0, .int .i64 0, .slice none 0 0]) (by simp [results, Try.results75, go_sem, z0, z1, z2, z3, z4, z5]) rfl ⟨_, by rw [HX.out], by rw [HX.out]; exact OwnI.nil _ _, BF.out⟩
  have t3 : ((L.getD 0 tE).toList == [106, 111, 105, 110]) = false := str_ne _ kJoin (by rw [← hkw]; exact k3)
  have HX := Lib.hid (rdD_no k1 k2 k3)
  clear k1 k2 k3 hkw
  generalize L.getD 0 tE = A at *
  have C1 := CN.out 1 1 U B rfl
  generalize nA L 1 = n1 at *
  clear CN CP CH B
  go_enter Try.func75, Try.ntmps75
  go_wp2_with fail
  rw [← HU.out]
  refine C1.mono ?_
  rintro e w' ⟨rfl, rfl⟩
  obtain ⟨y1, hy⟩ : ∃ Y_, Y_ = sets6 U w.heap.size (.int .i64 0) (.int .i64 0) (.int .i64 0) (.int .i64 0) (.int .i64 0) (.slice none 0 0) := ⟨_, rfl⟩
  have KF := sets6_blk (v0 := .int .i64 0) (v1 := .int .i64 0) (v2 := .int .i64 0) (v3 := .int .i64 0) (v4 := .int .i64 0) (v5 := .slice none 0 0) K.out
  rw [← hy] at KF
  obtain ⟨z0, z1, z2, z3, z4, z5⟩ := cells6 KF
  have BF := Lib.hid (show Below w.heap.size w y1 by subst hy; exact sets6_below HB.out (Nat.le_refl _))
  have HY := Lib.hid hy
  clear KF hy
  go_wp2_with (first | (show wpList _ _ _ ({ dst := _, op := Op.store _ _ _, type := _, pos := _, after := _, guard := _ } :: _) _ _; refine wpList_str6 rfl _ _ _ rfl w.heap.size (.int .i64 0) (.int .i64 0) (.int .i64 0) (.int .i64 0) (.int .i64 0) (.slice none 0 0) rfl rfl K.out (by kernel_rfl) rfl ?_; rw [← HY.out]))
  refine bodyPost_ret (v := .agg #[.int .i64 0, .int .i64 0, .int .i64 0, .int .i64 0, .int .i64 0, .slice none 0 0]) (by simp [results, Try.results75, go_sem, z0, z1, z2, z3, z4, z5]) rfl ⟨_, by rw [HX.out]; rfl, by rw [HX.out]; exact OwnI.nil _ _, BF.out⟩
end Go.Proofs.Ythagafkjlecagaa
namespace Go.Proofs.Ythagafkjlecagaa
open Go.RowKit
set_option linter.unusedSimpArgs false
set_option linter.unusedVariables false
theorem rdP_Turns {L : List ByteArray}  (h : kw L = kTurns) : rdP L = ⟨1, dd0, 0, nA L 1⟩ := by unfold rdP; rw [if_pos h]
theorem rdP_Swap {L : List ByteArray} (h0 : ¬ kw L = kTurns) (h : kw L = kSwap) : rdP L = ⟨2, dd0, nA L 1, nA L 2⟩ := by unfold rdP; rw [if_neg h0, if_pos h]
theorem rdP_Gate {L : List ByteArray} (h0 : ¬ kw L = kTurns) (h1 : ¬ kw L = kSwap) (h : kw L = kGate) : rdP L = ⟨3, dd0, nA L 1, nA L 2⟩ := by unfold rdP; rw [if_neg h0, if_neg h1, if_pos h]
theorem rdP_Dig {L : List ByteArray} (h0 : ¬ kw L = kTurns) (h1 : ¬ kw L = kSwap) (h2 : ¬ kw L = kGate) (h : kw L = kDig) : rdP L = ⟨4, dd0, nA L 1, nA L 2⟩ := by unfold rdP; rw [if_neg h0, if_neg h1, if_neg h2, if_pos h]
theorem rdP_Hour {L : List ByteArray} (h0 : ¬ kw L = kTurns) (h1 : ¬ kw L = kSwap) (h2 : ¬ kw L = kGate) (h3 : ¬ kw L = kDig) (h : kw L = kHour) : rdP L = ⟨5, dd0, 0, nA L 1⟩ := by unfold rdP; rw [if_neg h0, if_neg h1, if_neg h2, if_neg h3, if_pos h]
theorem rdP_no {L : List ByteArray} (h0 : ¬ kw L = kTurns) (h1 : ¬ kw L = kSwap) (h2 : ¬ kw L = kGate) (h3 : ¬ kw L = kDig) (h4 : ¬ kw L = kHour) : rdP L = ⟨0, rdD L, 0, 0⟩ := by unfold rdP; rw [if_neg h0, if_neg h1, if_neg h2, if_neg h3, if_neg h4]
set_option maxRecDepth 100000 in
set_option maxHeartbeats 6000000 in
/-- impl.readEvent -/
theorem ireadE (a : Option Addr) (cap : Nat) (L : List ByteArray) (w : World) (h : IsStr w a L) (hL : L ≠ []) (hz : ∀ l ∈ L, l.size ≤ 4294967296) (hl : L.length ≤ 1048576) :
    Calls Try.prog 42 #[.slice a L.length cap] w (OutRE w (rdP L)) := by
  have CN := Lib.hid (fun (k : Int) (n : Nat) W (hW : Below w.heap.size w W) (hk : k = n) => inumAt a cap L k n W (str_below h hW) hz hl hk)
  have CD := Lib.hid (fun W (hW : Below w.heap.size w W) => ireadD a cap L W (str_below h hW) hL hz hl)
  have hkw : kw L = (L.getD 0 tE).data.toList := rfl
  rcases h with e | ⟨g, o_, rfl, hc⟩
  · exact absurd e hL
  have c0 := hc 0 (List.length_pos_iff.2 hL)
  have hp : (0 : Int) < (L.length : Int) := by have := List.length_pos_iff.2 hL; omega
  have c0b := World.block_lt_of_cell? w _ c0
  clear hc hL hz
  rw [Nat.add_zero] at c0
  have B := (Below.refl w.heap.size w).alloc (Nat.le_refl _) (.cells #[.int .i64 0, .int .i64 0, .int .i64 0, .int .i64 0, .int .i64 0, .int .i64 0, .slice none 0 0, .int .i64 0, .int .i64 0] 35)
  have K := Lib.hid (Blk.new w 35 #[.int .i64 0, .int .i64 0, .int .i64 0, .int .i64 0, .int .i64 0, .int .i64 0, .slice none 0 0, .int .i64 0, .int .i64 0])
  have c1 := (B.cell (p := ⟨g, o_, none⟩) c0b).trans c0
  obtain ⟨U, hU⟩ : ∃ U, U = w.alloc (.cells #[.int .i64 0, .int .i64 0, .int .i64 0, .int .i64 0, .int .i64 0, .int .i64 0, .slice none 0 0, .int .i64 0, .int .i64 0] 35) := ⟨_, rfl⟩
  rw [← hU] at B K c1
  have HU := Lib.hid hU
  have HB := Lib.hid B
  have hs0 := B.size
  have ltU := K.out.lt
  clear hU c0 c0b
  have C1 := CN.out 1 1 U B rfl
  have C2 := CN.out 2 2 U B rfl
  clear CN
  by_cases k0 : kw L = kTurns
  · have HX := Lib.hid (rdP_Turns k0)
    rw [hkw] at k0
    clear hkw
    generalize L.getD 0 tE = A at *
    have t0 : (A.toList == [116, 117, 114, 110, 115]) = true := str_eq A kTurns k0
    generalize nA L 1 = n1 at *
    generalize nA L 2 = n2 at *
    clear CD B k0
    go_enter Try.func42, Try.ntmps42
    go_wp2_with fail
    rw [← HU.out]
    refine C1.mono ?_
    rintro e w' ⟨rfl, rfl⟩
    go_wp2_with fail
    refine C2.mono ?_
    rintro e w' ⟨rfl, rfl⟩
    obtain ⟨y1, hy⟩ : ∃ Y_, Y_ = sets9 U w.heap.size (.int .i64 1) (.int .i64 0) (.int .i64 0) (.int .i64 0) (.int .i64 0) (.int .i64 0) (.slice none 0 0) (.int .i64 0) (.int .i64 n1) := ⟨_, rfl⟩
    have KF := sets9_blk (v0 := .int .i64 1) (v1 := .int .i64 0) (v2 := .int .i64 0) (v3 := .int .i64 0) (v4 := .int .i64 0) (v5 := .int .i64 0) (v6 := .slice none 0 0) (v7 := .int .i64 0) (v8 := .int .i64 n1) K.out
    rw [← hy] at KF
    obtain ⟨z0, z1, z2, z3, z4, z5, z6, z7, z8⟩ := cells9 KF
    have BF := Lib.hid (show Below w.heap.size w y1 by subst hy; exact sets9_below HB.out (Nat.le_refl _))
    have HY := Lib.hid hy
    clear KF hy
    go_wp2_with (first | (show wpList _ _ _ ({ dst := _, op := Op.store _ _ _, type := _, pos := _, after := _, guard := _ } :: _) _ _; refine wpList_str9 rfl _ _ _ rfl w.heap.size (.int .i64 1) (.int .i64 0) (.int .i64 0) (.int .i64 0) (.int .i64 0) (.int .i64 0) (.slice none 0 0) (.int .i64 0) (.int .i64 n1) rfl rfl K.out (by kernel_rfl) rfl ?_; rw [← HY.out]))
    refine bodyPost_ret (v := .agg #[.int .i64 1, .int .i64 0, .int .i64 0, .int .i64 0, .int .i64 0, .int .i64 0, .slice none 0 0, .int .i64 0, .int .i64 n1]) (by simp [results, Try.results42, go_sem, z0, z1, z2, z3, z4, z5, z6, z7, z8]) rfl ⟨_, by rw [HX.out] <;> rfl, by rw [HX.out]; exact OwnI.nil _ _, BF.out⟩
  have t0 : ((L.getD 0 tE).toList == [116, 117, 114, 110, 115]) = false := str_ne _ kTurns (by rw [← hkw]; exact k0)
  by_cases k1 : kw L = kSwap
  · have HX := Lib.hid (rdP_Swap k0 k1)
    rw [hkw] at k0 k1
    clear hkw
    generalize L.getD 0 tE = A at *
    have t1 : (A.toList == [115, 119, 97, 112]) = true := str_eq A kSwap k1
    generalize nA L 1 = n1 at *
    generalize nA L 2 = n2 at *
    clear CD B k0 k1
    go_enter Try.func42, Try.ntmps42
    go_wp2_with fail
    rw [← HU.out]
    refine C1.mono ?_
    rintro e w' ⟨rfl, rfl⟩
    go_wp2_with fail
    refine C2.mono ?_
    rintro e w' ⟨rfl, rfl⟩
    obtain ⟨y1, hy⟩ : ∃ Y_, Y_ = sets9 U w.heap.size (.int .i64 2) (.int .i64 0) (.int .i64 0) (.int .i64 0) (.int .i64 0) (.int .i64 0) (.slice none 0 0) (.int .i64 n1) (.int .i64 n2) := ⟨_, rfl⟩
    have KF := sets9_blk (v0 := .int .i64 2) (v1 := .int .i64 0) (v2 := .int .i64 0) (v3 := .int .i64 0) (v4 := .int .i64 0) (v5 := .int .i64 0) (v6 := .slice none 0 0) (v7 := .int .i64 n1) (v8 := .int .i64 n2) K.out
    rw [← hy] at KF
    obtain ⟨z0, z1, z2, z3, z4, z5, z6, z7, z8⟩ := cells9 KF
    have BF := Lib.hid (show Below w.heap.size w y1 by subst hy; exact sets9_below HB.out (Nat.le_refl _))
    have HY := Lib.hid hy
    clear KF hy
    go_wp2_with (first | (show wpList _ _ _ ({ dst := _, op := Op.store _ _ _, type := _, pos := _, after := _, guard := _ } :: _) _ _; refine wpList_str9 rfl _ _ _ rfl w.heap.size (.int .i64 2) (.int .i64 0) (.int .i64 0) (.int .i64 0) (.int .i64 0) (.int .i64 0) (.slice none 0 0) (.int .i64 n1) (.int .i64 n2) rfl rfl K.out (by kernel_rfl) rfl ?_; rw [← HY.out]))
    refine bodyPost_ret (v := .agg #[.int .i64 2, .int .i64 0, .int .i64 0, .int .i64 0, .int .i64 0, .int .i64 0, .slice none 0 0, .int .i64 n1, .int .i64 n2]) (by simp [results, Try.results42, go_sem, z0, z1, z2, z3, z4, z5, z6, z7, z8]) rfl ⟨_, by rw [HX.out] <;> rfl, by rw [HX.out]; exact OwnI.nil _ _, BF.out⟩
  have t1 : ((L.getD 0 tE).toList == [115, 119, 97, 112]) = false := str_ne _ kSwap (by rw [← hkw]; exact k1)
  by_cases k2 : kw L = kGate
  · have HX := Lib.hid (rdP_Gate k0 k1 k2)
    rw [hkw] at k0 k1 k2
    clear hkw
    generalize L.getD 0 tE = A at *
    have t2 : (A.toList == [103, 97, 116, 101]) = true := str_eq A kGate k2
    generalize nA L 1 = n1 at *
    generalize nA L 2 = n2 at *
    clear CD B k0 k1 k2
    go_enter Try.func42, Try.ntmps42
    go_wp2_with fail
    rw [← HU.out]
    refine C1.mono ?_
    rintro e w' ⟨rfl, rfl⟩
    go_wp2_with fail
    refine C2.mono ?_
    rintro e w' ⟨rfl, rfl⟩
    obtain ⟨y1, hy⟩ : ∃ Y_, Y_ = sets9 U w.heap.size (.int .i64 3) (.int .i64 0) (.int .i64 0) (.int .i64 0) (.int .i64 0) (.int .i64 0) (.slice none 0 0) (.int .i64 n1) (.int .i64 n2) := ⟨_, rfl⟩
    have KF := sets9_blk (v0 := .int .i64 3) (v1 := .int .i64 0) (v2 := .int .i64 0) (v3 := .int .i64 0) (v4 := .int .i64 0) (v5 := .int .i64 0) (v6 := .slice none 0 0) (v7 := .int .i64 n1) (v8 := .int .i64 n2) K.out
    rw [← hy] at KF
    obtain ⟨z0, z1, z2, z3, z4, z5, z6, z7, z8⟩ := cells9 KF
    have BF := Lib.hid (show Below w.heap.size w y1 by subst hy; exact sets9_below HB.out (Nat.le_refl _))
    have HY := Lib.hid hy
    clear KF hy
    go_wp2_with (first | (show wpList _ _ _ ({ dst := _, op := Op.store _ _ _, type := _, pos := _, after := _, guard := _ } :: _) _ _; refine wpList_str9 rfl _ _ _ rfl w.heap.size (.int .i64 3) (.int .i64 0) (.int .i64 0) (.int .i64 0) (.int .i64 0) (.int .i64 0) (.slice none 0 0) (.int .i64 n1) (.int .i64 n2) rfl rfl K.out (by kernel_rfl) rfl ?_; rw [← HY.out]))
    refine bodyPost_ret (v := .agg #[.int .i64 3, .int .i64 0, .int .i64 0, .int .i64 0, .int .i64 0, .int .i64 0, .slice none 0 0, .int .i64 n1, .int .i64 n2]) (by simp [results, Try.results42, go_sem, z0, z1, z2, z3, z4, z5, z6, z7, z8]) rfl ⟨_, by rw [HX.out] <;> rfl, by rw [HX.out]; exact OwnI.nil _ _, BF.out⟩
  have t2 : ((L.getD 0 tE).toList == [103, 97, 116, 101]) = false := str_ne _ kGate (by rw [← hkw]; exact k2)
  by_cases k3 : kw L = kDig
  · have HX := Lib.hid (rdP_Dig k0 k1 k2 k3)
    rw [hkw] at k0 k1 k2 k3
    clear hkw
    generalize L.getD 0 tE = A at *
    have t3 : (A.toList == [100, 105, 103]) = true := str_eq A kDig k3
    generalize nA L 1 = n1 at *
    generalize nA L 2 = n2 at *
    clear CD B k0 k1 k2 k3
    go_enter Try.func42, Try.ntmps42
    go_wp2_with fail
    rw [← HU.out]
    refine C1.mono ?_
    rintro e w' ⟨rfl, rfl⟩
    go_wp2_with fail
    refine C2.mono ?_
    rintro e w' ⟨rfl, rfl⟩
    obtain ⟨y1, hy⟩ : ∃ Y_, Y_ = sets9 U w.heap.size (.int .i64 4) (.int .i64 0) (.int .i64 0) (.int .i64 0) (.int .i64 0) (.int .i64 0) (.slice none 0 0) (.int .i64 n1) (.int .i64 n2) := ⟨_, rfl⟩
    have KF := sets9_blk (v0 := .int .i64 4) (v1 := .int .i64 0) (v2 := .int .i64 0) (v3 := .int .i64 0) (v4 := .int .i64 0) (v5 := .int .i64 0) (v6 := .slice none 0 0) (v7 := .int .i64 n1) (v8 := .int .i64 n2) K.out
    rw [← hy] at KF
    obtain ⟨z0, z1, z2, z3, z4, z5, z6, z7, z8⟩ := cells9 KF
    have BF := Lib.hid (show Below w.heap.size w y1 by subst hy; exact sets9_below HB.out (Nat.le_refl _))
    have HY := Lib.hid hy
    clear KF hy
    go_wp2_with (first | (show wpList _ _ _ ({ dst := _, op := Op.store _ _ _, type := _, pos := _, after := _, guard := _ } :: _) _ _; refine wpList_str9 rfl _ _ _ rfl w.heap.size (.int .i64 4) (.int .i64 0) (.int .i64 0) (.int .i64 0) (.int .i64 0) (.int .i64 0) (.slice none 0 0) (.int .i64 n1) (.int .i64 n2) rfl rfl K.out (by kernel_rfl) rfl ?_; rw [← HY.out]))
    refine bodyPost_ret (v := .agg #[.int .i64 4, .int .i64 0, .int .i64 0, .int .i64 0, .int .i64 0, .int .i64 0, .slice none 0 0, .int .i64 n1, .int .i64 n2]) (by simp [results, Try.results42, go_sem, z0, z1, z2, z3, z4, z5, z6, z7, z8]) rfl ⟨_, by rw [HX.out] <;> rfl, by rw [HX.out]; exact OwnI.nil _ _, BF.out⟩
  have t3 : ((L.getD 0 tE).toList == [100, 105, 103]) = false := str_ne _ kDig (by rw [← hkw]; exact k3)
  by_cases k4 : kw L = kHour
  · have HX := Lib.hid (rdP_Hour k0 k1 k2 k3 k4)
    rw [hkw] at k0 k1 k2 k3 k4
    clear hkw
    generalize L.getD 0 tE = A at *
    have t4 : (A.toList == [104, 111, 117, 114]) = true := str_eq A kHour k4
    generalize nA L 1 = n1 at *
    generalize nA L 2 = n2 at *
    clear CD B k0 k1 k2 k3 k4
    go_enter Try.func42, Try.ntmps42
    go_wp2_with fail
    rw [← HU.out]
    refine C1.mono ?_
    rintro e w' ⟨rfl, rfl⟩
    go_wp2_with fail
    refine C2.mono ?_
    rintro e w' ⟨rfl, rfl⟩
    obtain ⟨y1, hy⟩ : ∃ Y_, Y_ = sets9 U w.heap.size (.int .i64 5) (.int .i64 0) (.int .i64 0) (.int .i64 0) (.int .i64 0) (.int .i64 0) (.slice none 0 0) (.int .i64 0) (.int .i64 n1) := ⟨_, rfl⟩
    have KF := sets9_blk (v0 := .int .i64 5) (v1 := .int .i64 0) (v2 := .int .i64 0) (v3 := .int .i64 0) (v4 := .int .i64 0) (v5 := .int .i64 0) (v6 := .slice none 0 0) (v7 := .int .i64 0) (v8 := .int .i64 n1) K.out
    rw [← hy] at KF
    obtain ⟨z0, z1, z2, z3, z4, z5, z6, z7, z8⟩ := cells9 KF
    have BF := Lib.hid (show Below w.heap.size w y1 by subst hy; exact sets9_below HB.out (Nat.le_refl _))
    have HY := Lib.hid hy
    clear KF hy
    go_wp2_with (first | (show wpList _ _ _ ({ dst := _, op := Op.store _ _ _, type := _, pos := _, after := _, guard := _ } :: _) _ _; refine wpList_str9 rfl _ _ _ rfl w.heap.size (.int .i64 5) (.int .i64 0) (.int .i64 0) (.int .i64 0) (.int .i64 0) (.int .i64 0) (.slice none 0 0) (.int .i64 0) (.int .i64 n1) rfl rfl K.out (by kernel_rfl) rfl ?_; rw [← HY.out]))
    refine bodyPost_ret (v := .agg #[.int .i64 5, .int .i64 0, .int .i64 0, .int .i64 0, .int .i64 0, .int .i64 0, .slice none 0 0, .int .i64 0, .int .i64 n1]) (by simp [results, Try.results42, go_sem, z0, z1, z2, z3, z4, z5, z6, z7, z8]) rfl ⟨_, by rw [HX.out] <;> rfl, by rw [HX.out]; exact OwnI.nil _ _, BF.out⟩
  have t4 : ((L.getD 0 tE).toList == [104, 111, 117, 114]) = false := str_ne _ kHour (by rw [← hkw]; exact k4)
  have HX := Lib.hid (rdP_no k0 k1 k2 k3 k4)
  have C3 := CD.out U B
  clear k0 k1 k2 k3 k4 hkw CD
  generalize L.getD 0 tE = A at *
  generalize nA L 1 = n1 at *
  generalize nA L 2 = n2 at *
  generalize rdD L = X at *
  obtain ⟨x1, x2, x3, x4, x5, zs⟩ := X
  clear B
  go_enter Try.func42, Try.ntmps42
  go_wp2_with fail
  rw [← HU.out]
  refine C1.mono ?_
  rintro e w' ⟨rfl, rfl⟩
  go_wp2_with fail
  refine C2.mono ?_
  rintro e w' ⟨rfl, rfl⟩
  go_wp2_with fail
  refine C3.mono ?_
  rintro e U2 ⟨v, rfl, O, C⟩
  dsimp only at O
  have K2 := Lib.hid (K.out.next C)
  have B2 := Lib.hid (bel_tr HB.out C)
  obtain ⟨b, cz, rfl, _⟩ := O.ints
  have hne : (Value.slice b zs.length cz).ownBlock ≠ some w.heap.size := fun c => by have := O.grow _ c; omega
  have HO := Lib.hid (own_lower O hs0)
  have HNE := Lib.hid hne
  clear C c1 O hne
  obtain ⟨y1, hy⟩ : ∃ Y_, Y_ = sets9 U2 w.heap.size (.int .i64 0) (.int .i64 x1) (.int .i64 x2) (.int .i64 x3) (.int .i64 x4) (.int .i64 x5) (.slice b zs.length cz) (.int .i64 0) (.int .i64 0) := ⟨_, rfl⟩
  have KF := sets9_blk (v0 := .int .i64 0) (v1 := .int .i64 x1) (v2 := .int .i64 x2) (v3 := .int .i64 x3) (v4 := .int .i64 x4) (v5 := .int .i64 x5) (v6 := .slice b zs.length cz) (v7 := .int .i64 0) (v8 := .int .i64 0) K2.out
  rw [← hy] at KF
  obtain ⟨z0, z1, z2, z3, z4, z5, z6, z7, z8⟩ := cells9 KF
  have BF := Lib.hid (show Below w.heap.size w y1 by subst hy; exact sets9_below B2.out (Nat.le_refl _))
  have HOF := Lib.hid (show OwnI y1 w.heap.size (.slice b zs.length cz) zs by subst hy; exact (((((((((HO.out.far HNE.out _).far HNE.out _).far HNE.out _).far HNE.out _).far HNE.out _).far HNE.out _).far HNE.out _).far HNE.out _).far HNE.out _))
  have HY := Lib.hid hy
  clear KF hy
  go_wp2_with (first | (show wpList _ _ _ ({ dst := _, op := Op.store _ _ _, type := _, pos := _, after := _, guard := _ } :: _) _ _; refine wpList_str9 rfl _ _ _ rfl w.heap.size (.int .i64 0) (.int .i64 x1) (.int .i64 x2) (.int .i64 x3) (.int .i64 x4) (.int .i64 x5) (.slice b zs.length cz) (.int .i64 0) (.int .i64 0) rfl rfl K2.out (by kernel_rfl) rfl ?_; rw [← HY.out]))
  refine bodyPost_ret (v := .agg #[.int .i64 0, .int .i64 x1, .int .i64 x2, .int .i64 x3, .int .i64 x4, .int .i64 x5, .slice b zs.length cz, .int .i64 0, .int .i64 0]) (by simp [results, Try.results42, go_sem, z0, z1, z2, z3, z4, z5, z6, z7, z8]) rfl ⟨_, by rw [HX.out], by rw [HX.out]; exact HOF.out, BF.out⟩
end Go.Proofs.Ythagafkjlecagaa
namespace Go.Proofs.Ythagafkjlecagaa
open Go.RowKit
set_option linter.unusedSimpArgs false
set_option linter.unusedVariables false
/-- what ParseEvent leaves -/
def OutPE (w : World) (o : Option Ev) (e : Ending) (w' : World) : Prop := ∃ (v : Value) (x : Ev), x = o.getD ev0 ∧ e = .returned (.tuple #[.agg #[.int .i64 x.k, .int .i64 x.dd.k, .int .i64 x.dd.o, .int .i64 x.dd.t, .int .i64 x.dd.n, .int .i64 x.dd.d, v, .int .i64 x.at_, .int .i64 x.nu], .bool o.isSome]) ∧ OwnI w' w.heap.size v x.dd.zs ∧ Below w.heap.size w w'
theorem outPE_no {w w' : World} (h : Below w.heap.size w w') : OutPE w none (.returned (.tuple #[.agg #[.int .i64 0, .int .i64 0, .int .i64 0, .int .i64 0, .int .i64 0, .int .i64 0, .slice none 0 0, .int .i64 0, .int .i64 0], .bool false])) w' := ⟨.slice none 0 0, ev0, rfl, rfl, OwnI.nil _ _, h⟩
theorem outPE_yes {w w' : World} {v : Value} {x : Ev} (hO : OwnI w' w.heap.size v x.dd.zs) (h : Below w.heap.size w w') : OutPE w (some x) (.returned (.tuple #[.agg #[.int .i64 x.k, .int .i64 x.dd.k, .int .i64 x.dd.o, .int .i64 x.dd.t, .int .i64 x.dd.n, .int .i64 x.dd.d, v, .int .i64 x.at_, .int .i64 x.nu], .bool true])) w' := ⟨v, x, rfl, rfl, hO, h⟩
set_option maxRecDepth 100000 in
set_option maxHeartbeats 6000000 in
/-- impl.ParseEvent -/
theorem iParE (s : ByteArray) (w : World) (h : s.size ≤ 1048576) :
    Calls Try.prog 16 #[.string s] w (OutPE w (parM s)) := by
  have B := (Below.refl w.heap.size w).alloc (Nat.le_refl _) (.cells #[.int .i64 0, .int .i64 0, .int .i64 0, .int .i64 0, .int .i64 0, .int .i64 0, .slice none 0 0, .int .i64 0, .int .i64 0] 35)
  have K := Blk.new w 35 #[.int .i64 0, .int .i64 0, .int .i64 0, .int .i64 0, .int .i64 0, .int .i64 0, .slice none 0 0, .int .i64 0, .int .i64 0]
  obtain ⟨U, hU⟩ : ∃ U, U = w.alloc (.cells #[.int .i64 0, .int .i64 0, .int .i64 0, .int .i64 0, .int .i64 0, .int .i64 0, .slice none 0 0, .int .i64 0, .int .i64 0] 35) := ⟨_, rfl⟩
  rw [← hU] at B K
  have HU := Lib.hid hU
  have hs0 := B.size
  have ltU := K.lt
  clear hU
  have HW := Lib.hid (iwords s U (by omega))
  go_enter Try.func16, Try.ntmps16
  go_wp2_with fail
  rw [← HU.out]
  refine HW.out.mono ?_
  rintro e u1 ⟨v, L, rfl, O, C, hL, h14, hsz, hcut⟩
  obtain ⟨g, cp, rfl, lg, I⟩ := O.form hL
  have CE := ireadE _ cp L u1 I hL (fun l hl => Nat.le_trans (hsz l hl) (by omega)) (by omega)
  have HP := Lib.hid (par_same (s := s) hcut)
  replace K := K.next C
  replace B := bel_tr B C
  have hu1 : w.heap.size < u1.heap.size := K.lt
  clear C O I hL h14 hsz hcut HW lg
  go_wp2_with fail
  refine CE.mono ?_
  rintro e u2 ⟨v, rfl, O, C⟩
  replace K := K.next C
  replace B := bel_tr B C
  have hb1 := C.size
  clear C CE
  have hP2 : parP L s = if s.size ≠ 0 ∧ fmE (rdP L) = s then some (rdP L) else none := rfl
  generalize rdP L = X at *
  obtain ⟨b, cz, rfl, I⟩ := O.ints
  obtain ⟨T, hT⟩ : ∃ T, fmE X = T := ⟨_, rfl⟩
  have CF := Lib.hid (fun W (hW : Below u2.heap.size u2 W) => iFmtE b cz X W (ints_below I hW))
  rw [hT] at CF hP2
  obtain ⟨k, ⟨dk, o, t, n, d, zs⟩, at_, nu⟩ := X
  dsimp only at O CF
  clear hT I
  have ltu : w.heap.size < u2.heap.size := K.lt
  have hbs := B.size
  have O2 : OwnI (u2.alloc (.cells #[.int .i64 k, .int .i64 dk, .int .i64 o, .int .i64 t, .int .i64 n, .int .i64 d, .slice b zs.length cz, .int .i64 at_, .int .i64 nu] 35)) u1.heap.size (.slice b zs.length cz) zs := O.of_block ((Below.refl _ _).alloc (Nat.le_refl _) _)
  have K2 := Blk.new u2 35 #[.int .i64 k, .int .i64 dk, .int .i64 o, .int .i64 t, .int .i64 n, .int .i64 d, .slice b zs.length cz, .int .i64 at_, .int .i64 nu]
  have D2 : Below u2.heap.size u2 (u2.alloc (.cells #[.int .i64 k, .int .i64 dk, .int .i64 o, .int .i64 t, .int .i64 n, .int .i64 d, .slice b zs.length cz, .int .i64 at_, .int .i64 nu] 35)) := (Below.refl _ _).alloc (Nat.le_refl _) _
  replace K := K.alloc (.cells #[.int .i64 k, .int .i64 dk, .int .i64 o, .int .i64 t, .int .i64 n, .int .i64 d, .slice b zs.length cz, .int .i64 at_, .int .i64 nu] 35)
  replace B := B.alloc B.size (.cells #[.int .i64 k, .int .i64 dk, .int .i64 o, .int .i64 t, .int .i64 n, .int .i64 d, .slice b zs.length cz, .int .i64 at_, .int .i64 nu] 35)
  obtain ⟨U3, hU3⟩ : ∃ U3, U3 = u2.alloc (.cells #[.int .i64 k, .int .i64 dk, .int .i64 o, .int .i64 t, .int .i64 n, .int .i64 d, .slice b zs.length cz, .int .i64 at_, .int .i64 nu] 35) := ⟨_, rfl⟩
  rw [← hU3] at O2 K2 K B D2
  have HU3 := Lib.hid hU3
  have hne1 : (Value.slice b zs.length cz).ownBlock ≠ some w.heap.size := fun c => by have := O2.grow _ c; omega
  clear hU3 O
  have HO := Lib.hid (own_lower O2 (Nat.le_of_lt hu1))
  have HNE := Lib.hid hne1
  clear O2 hne1
  obtain ⟨q0, q1, q2, q3, q4, q5, q6, q7, q8⟩ := cells9 K2
  by_cases h0 : s.size = 0
  · have he : s.toList.isEmpty = true := by rw [ByteArray.toList_eq, List.isEmpty_iff]; exact List.length_eq_zero_iff.1 (by rw [bt_len]; exact h0)
    have HX : Hid (parM s = none) := Lib.hid (by rw [← HP.out, hP2, if_neg (fun c => c.1 h0)])
    have KH := Lib.hid K
    have HB := Lib.hid B
    clear hP2 h0 K B CF
    obtain ⟨y1, hy⟩ : ∃ Y_, Y_ = sets9 U3 w.heap.size (.int .i64 0) (.int .i64 0) (.int .i64 0) (.int .i64 0) (.int .i64 0) (.int .i64 0) (.slice none 0 0) (.int .i64 0) (.int .i64 0) := ⟨_, rfl⟩
    have KF := sets9_blk (v0 := .int .i64 0) (v1 := .int .i64 0) (v2 := .int .i64 0) (v3 := .int .i64 0) (v4 := .int .i64 0) (v5 := .int .i64 0) (v6 := .slice none 0 0) (v7 := .int .i64 0) (v8 := .int .i64 0) KH.out
    rw [← hy] at KF
    obtain ⟨z0, z1, z2, z3, z4, z5, z6, z7, z8⟩ := cells9 KF
    have BF := Lib.hid (show Below w.heap.size w y1 by subst hy; exact sets9_below HB.out (Nat.le_refl _))
    have HY := Lib.hid hy
    clear KF hy
    go_wp2_with (first | (show wpList _ _ _ _ _ (World.alloc _ _); rw [← HU3.out]) | (show wpList _ _ _ ({ dst := _, op := Op.store _ _ _, type := _, pos := _, after := _, guard := _ } :: _) _ _; refine wpList_str9 rfl _ _ _ rfl w.heap.size (.int .i64 0) (.int .i64 0) (.int .i64 0) (.int .i64 0) (.int .i64 0) (.int .i64 0) (.slice none 0 0) (.int .i64 0) (.int .i64 0) rfl rfl KH.out (by kernel_rfl) rfl ?_; rw [← HY.out]))
    refine bodyPost_ret (v := .tuple #[.agg #[.int .i64 0, .int .i64 0, .int .i64 0, .int .i64 0, .int .i64 0, .int .i64 0, .slice none 0 0, .int .i64 0, .int .i64 0], .bool false]) (by simp [results, Try.results16, go_sem, z0, z1, z2, z3, z4, z5, z6, z7, z8]) rfl (by rw [HX.out]; exact outPE_no BF.out)
  · have he : s.toList.isEmpty = false := by rw [ByteArray.toList_eq, List.isEmpty_eq_false_iff]; exact ne_nil (by omega)
    have CT := CF.out U3 D2
    clear CF
    by_cases e : T = s
    · subst e
      have HX : Hid (parM T = some ⟨k, ⟨dk, o, t, n, d, zs⟩, at_, nu⟩) := Lib.hid (by rw [← HP.out, hP2, if_pos ⟨h0, rfl⟩])
      clear hP2 h0
      go_wp2_with (first | (show wpList _ _ _ _ _ (World.alloc _ _); rw [← HU3.out]))
      refine CT.mono ?_
      rintro e u4 ⟨rfl, C⟩
      have KH := Lib.hid (K.next C)
      have HB := Lib.hid (bel_tr B C)
      replace HO := Lib.hid (HO.out.of_block C)
      replace K2 := K2.next C
      clear q0 q1 q2 q3 q4 q5 q6 q7 q8 K B C
      obtain ⟨q0, q1, q2, q3, q4, q5, q6, q7, q8⟩ := cells9 K2
      obtain ⟨y1, hy⟩ : ∃ Y_, Y_ = sets9 u4 w.heap.size (.int .i64 k) (.int .i64 dk) (.int .i64 o) (.int .i64 t) (.int .i64 n) (.int .i64 d) (.slice b zs.length cz) (.int .i64 at_) (.int .i64 nu) := ⟨_, rfl⟩
      have KF := sets9_blk (v0 := .int .i64 k) (v1 := .int .i64 dk) (v2 := .int .i64 o) (v3 := .int .i64 t) (v4 := .int .i64 n) (v5 := .int .i64 d) (v6 := .slice b zs.length cz) (v7 := .int .i64 at_) (v8 := .int .i64 nu) KH.out
      rw [← hy] at KF
      obtain ⟨z0, z1, z2, z3, z4, z5, z6, z7, z8⟩ := cells9 KF
      have BF := Lib.hid (show Below w.heap.size w y1 by subst hy; exact sets9_below HB.out (Nat.le_refl _))
      have HOF := Lib.hid (show OwnI y1 w.heap.size (.slice b zs.length cz) zs by subst hy; exact (((((((((HO.out.far HNE.out _).far HNE.out _).far HNE.out _).far HNE.out _).far HNE.out _).far HNE.out _).far HNE.out _).far HNE.out _).far HNE.out _))
      have HY := Lib.hid hy
      clear KF hy
      go_wp2_with (first | (show wpList _ _ _ ({ dst := _, op := Op.store _ _ _, type := _, pos := _, after := _, guard := _ } :: _) _ _; refine wpList_str9 rfl _ _ _ rfl w.heap.size (.int .i64 k) (.int .i64 dk) (.int .i64 o) (.int .i64 t) (.int .i64 n) (.int .i64 d) (.slice b zs.length cz) (.int .i64 at_) (.int .i64 nu) rfl rfl KH.out (by kernel_rfl) rfl ?_; rw [← HY.out]))
      refine bodyPost_ret (v := .tuple #[.agg #[.int .i64 k, .int .i64 dk, .int .i64 o, .int .i64 t, .int .i64 n, .int .i64 d, .slice b zs.length cz, .int .i64 at_, .int .i64 nu], .bool true]) (by simp [results, Try.results16, go_sem, z0, z1, z2, z3, z4, z5, z6, z7, z8]) rfl (by rw [HX.out]; exact outPE_yes (x := ⟨k, ⟨dk, o, t, n, d, zs⟩, at_, nu⟩) HOF.out BF.out)
    · have HX : Hid (parM s = none) := Lib.hid (by rw [← HP.out, hP2, if_neg (fun c => e c.2)])
      have tt : (T.toList == s.toList) = false := by rw [ByteArray.toList_eq, ByteArray.toList_eq, beq_eq_false_iff_ne]; intro c; exact e (by rw [← txt_of T, c, txt_of])
      have tt2 : (T.toList != s.toList) = true := by rw [bne, tt]; rfl
      clear hP2 h0 e
      go_wp2_with (first | (show wpList _ _ _ _ _ (World.alloc _ _); rw [← HU3.out]))
      refine CT.mono ?_
      rintro e u4 ⟨rfl, C⟩
      have KH := Lib.hid (K.next C)
      have HB := Lib.hid (bel_tr B C)
      clear q0 q1 q2 q3 q4 q5 q6 q7 q8 K B C K2
      obtain ⟨y1, hy⟩ : ∃ Y_, Y_ = sets9 u4 w.heap.size (.int .i64 0) (.int .i64 0) (.int .i64 0) (.int .i64 0) (.int .i64 0) (.int .i64 0) (.slice none 0 0) (.int .i64 0) (.int .i64 0) := ⟨_, rfl⟩
      have KF := sets9_blk (v0 := .int .i64 0) (v1 := .int .i64 0) (v2 := .int .i64 0) (v3 := .int .i64 0) (v4 := .int .i64 0) (v5 := .int .i64 0) (v6 := .slice none 0 0) (v7 := .int .i64 0) (v8 := .int .i64 0) KH.out
      rw [← hy] at KF
      obtain ⟨z0, z1, z2, z3, z4, z5, z6, z7, z8⟩ := cells9 KF
      have BF := Lib.hid (show Below w.heap.size w y1 by subst hy; exact sets9_below HB.out (Nat.le_refl _))
      have HY := Lib.hid hy
      clear KF hy
      go_wp2_with (first | (show wpList _ _ _ ({ dst := _, op := Op.store _ _ _, type := _, pos := _, after := _, guard := _ } :: _) _ _; refine wpList_str9 rfl _ _ _ rfl w.heap.size (.int .i64 0) (.int .i64 0) (.int .i64 0) (.int .i64 0) (.int .i64 0) (.int .i64 0) (.slice none 0 0) (.int .i64 0) (.int .i64 0) rfl rfl KH.out (by kernel_rfl) rfl ?_; rw [← HY.out]))
      refine bodyPost_ret (v := .tuple #[.agg #[.int .i64 0, .int .i64 0, .int .i64 0, .int .i64 0, .int .i64 0, .int .i64 0, .slice none 0 0, .int .i64 0, .int .i64 0], .bool false]) (by simp [results, Try.results16, go_sem, z0, z1, z2, z3, z4, z5, z6, z7, z8]) rfl (by rw [HX.out]; exact outPE_no BF.out)
end Go.Proofs.Ythagafkjlecagaa
