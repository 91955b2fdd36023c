/- Contracts and facts of functions of this program, in build order. Conditions: those stated in each. -/
import Derived.Test.YthagafkjlecagaaGrK
import Derived.Test.YthagafkjlecagaaGrE
import Derived.Test.YthagafkjlecagaaGrJ
import Derived.Test.YthagafkjlecagaaGrC
import Derived.Lib.SmallJoins
import Derived.Maps.AppendAt
namespace Go.Proofs.Ythagafkjlecagaa
open Go.RowKit
set_option linter.unusedSimpArgs false
set_option linter.unusedVariables false

def evC (v : Value) (x : Ev) : List Value := [.int .i64 x.k, .int .i64 x.dd.k, .int .i64 x.dd.o, .int .i64 x.dd.t, .int .i64 x.dd.n, .int .i64 x.dd.d, v, .int .i64 x.at_, .int .i64 x.nu]
def rowC (V : List Value) (es : List Ev) : List Value := (List.zipWith evC V es).flatten
theorem rowC_snoc {V : List Value} {es : List Ev} (h : V.length = es.length) (v : Value) (x : Ev) : rowC (V ++ [v]) (es ++ [x]) = rowC V es ++ evC v x := by
  unfold rowC
  rw [List.zipWith_append h, List.flatten_append]; simp
theorem rowC_get : ∀ (es : List Ev) (V : List Value), V.length = es.length → ∀ j q, j < es.length → q < 9 → (rowC V es)[j * 9 + q]? = (evC (V.getD j undef) (es.getD j ev0))[q]? := by
  intro es
  induction es with
  | nil => intro V _ j q hj _; exact absurd hj (Nat.not_lt_zero _)
  | cons x t ih =>
    intro V hV j q hj hq
    match V, hV with
    | v :: r, hV =>
    have hr : r.length = t.length := by simpa using hV
    have e : rowC (v :: r) (x :: t) = evC v x ++ rowC r t := rfl
    have hl : (evC v x).length = 9 := rfl
    rw [e]
    cases j with
    | zero => rw [Nat.zero_mul, Nat.zero_add, List.getElem?_append_left (by rw [hl]; exact hq)]; rfl
    | succ j =>
      rw [List.getElem?_append_right (by rw [hl]; omega), hl, show (j + 1) * 9 + q - 9 = j * 9 + q from by omega, ih r hr j q (by simpa using hj) hq]
      rfl
theorem own_ne {w : World} {b1 b2 n m s1 s2 : Nat} {e1 e2 : TypeId} {u v : Value} {xs ys : List Value} (h1 : w.ownsRow b1 e1 s1 u n xs) (h2 : w.ownsRow b2 e2 s2 v m ys) (hne : e1 ≠ e2) : u.ownBlock = none ∨ u.ownBlock ≠ v.ownBlock := by
  rcases h1.2 with ⟨e, _⟩ | ⟨g, cap, cur, e, _, hc, _⟩
  · left; rw [e]; rfl
  · right
    rcases h2.2 with ⟨e', _⟩ | ⟨g', cap', cur', e', _, hc', _⟩
    · rw [e, e']; intro c; cases c
    · rw [e, e']; intro c
      injection c with c
      subst c
      rw [hc] at hc'
      injection hc' with hc'
      injection hc' with _ h3
      exact hne h3
structure OwnEs (w : World) (base : Nat) (v : Value) (es : List Ev) (V : List Value) : Prop where
  len : V.length = es.length
  row : w.ownsRow base 35 9 v es.length (rowC V es)
  own : ∀ j, j < es.length → OwnI w base (V.getD j undef) (es.getD j ev0).dd.zs
  sep : ∀ i j, i < j → j < es.length → ∀ p q, (V.getD i undef).ownBlock = some p → (V.getD j undef).ownBlock = some q → p < q
theorem ownEs_new {w W : World} (h : Below w.heap.size w W) : OwnEs (W.alloc (.cells #[] 35)) w.heap.size (.slice (some ⟨W.heap.size, 0, none⟩) 0 0) [] [] :=
  ⟨rfl, ⟨by simp [rowC], .inr ⟨W.heap.size, 0, #[], rfl, h.size, Go.Deep.blk_alloc_new _ _, Nat.le_refl _, by unfold maxLen; omega, rfl, rfl⟩⟩, fun j hj => absurd hj (Nat.not_lt_zero _), fun i j _ hj => absurd hj (Nat.not_lt_zero _)⟩
theorem row_of_below {w w' : World} {base n size : Nat} {e : TypeId} {v : Value} {xs : List Value} (h : w.ownsRow base e size v n xs) (hb : Below w.heap.size w w') : w'.ownsRow base e size v n xs := by
  refine ⟨h.1, ?_⟩
  rcases h.2 with h | ⟨g, cap, cur, a, b, c, d⟩
  · exact .inl h
  · exact .inr ⟨g, cap, cur, a, b, (hb.block g (Array.getElem?_eq_some_iff.1 c).1).trans c, d⟩
theorem OwnEs.next {w w' : World} {base : Nat} {v : Value} {es : List Ev} {V : List Value} (h : OwnEs w base v es V) (hb : Below w.heap.size w w') : OwnEs w' base v es V :=
  ⟨h.len, row_of_below h.row hb, fun j hj => (h.own j hj).of_block hb, h.sep⟩
theorem OwnEs.forms {w : World} {base : Nat} {v : Value} {es : List Ev} {V : List Value} (h : OwnEs w base v es V) : ∃ b k, v = .slice b es.length k := by
  rcases Go.Joins.ownsRow_forms h.row with ⟨e, hn⟩ | ⟨g, c, e⟩
  · exact ⟨none, 0, by rw [hn]; exact e⟩
  · exact ⟨_, c, e⟩
theorem getD_snoc {α : Type} (l : List α) (a d : α) (j : Nat) : (l ++ [a]).getD j d = if j < l.length then l.getD j d else if j = l.length then a else d := by
  rw [List.getD_eq_getElem?_getD, List.getD_eq_getElem?_getD]
  by_cases h : j < l.length
  · rw [if_pos h, List.getElem?_append_left h]
  · rw [if_neg h, List.getElem?_append_right (by omega)]
    by_cases h2 : j = l.length
    · rw [if_pos h2, h2, Nat.sub_self]; rfl
    · rw [if_neg h2, List.getElem?_eq_none (by simp; omega)]; rfl
/-- one more event -/
theorem OwnEs.snoc {W U w2 : World} {base : Nat} {v v2 vz : Value} {es : List Ev} {V : List Value} {x : Ev} (h : OwnEs W base v es V) (hU : Below W.heap.size W U) (hz : OwnI U W.heap.size vz x.dd.zs) (hb : base ≤ W.heap.size) (hr : w2.ownsRow base 35 9 v2 (es.length + 1) (rowC V es ++ evC vz x)) (hg : U.grownBy w2 v.ownBlock) : OwnEs w2 base v2 (es ++ [x]) (V ++ [vz]) := by
  have hU2 := h.next hU
  have hVe := h.len
  refine ⟨by simp [h.len], by rw [rowC_snoc h.len, List.length_append]; exact hr, fun j hj => ?_, fun i j hij hj p q hp hq => ?_⟩
  · rw [getD_snoc, getD_snoc, hVe]
    by_cases hl : j < es.length
    · rw [if_pos hl, if_pos hl]
      exact World.ownsRow.kept (hU2.own j hl) hg (own_ne (hU2.own j hl) hU2.row (by decide))
    · have : j = es.length := by simp at hj; omega
      rw [if_neg hl, if_neg hl, if_pos this, if_pos this]
      exact World.ownsRow.kept (own_lower hz hb) hg (own_ne hz hU2.row (by decide))
  · rw [getD_snoc, hVe] at hp hq
    have hi : i < es.length := by simp at hj; omega
    rw [if_pos hi] at hp
    by_cases hl : j < es.length
    · rw [if_pos hl] at hq; exact h.sep i j hij hl p q hp hq
    · have : j = es.length := by simp at hj; omega
      rw [if_neg hl, if_pos this] at hq
      have a := (World.ownsRow.lt (h.own i hi) p hp).2
      have b := hz.grow q hq
      omega
theorem OwnEs.is {w : World} {base g k : Nat} {es : List Ev} {V : List Value} (h : OwnEs w base (.slice (some ⟨g, 0, none⟩) es.length k) es V) (hn : ∀ j, j < es.length → (es.getD j ev0).dd.zs.length ≤ 1048576) : IsEvs w (some ⟨g, 0, none⟩) es := by
  refine .inr ⟨g, 0, rfl, fun i hi => ?_⟩
  have key : ∀ q, q < 9 → w.cell? ⟨g, 0 + i * 9 + q, none⟩ = (evC (V.getD i undef) (es.getD i ev0))[q]? := fun q hq => by
    rw [Nat.zero_add, World.ownsRow.cellAt h.row (i * 9 + q) (by omega), rowC_get es V h.len i q hi hq]
  obtain ⟨A, cz, hv, hI⟩ := (h.own i hi).ints
  have hle : (es.getD i ev0).dd.zs.length ≤ cz := by
    rcases own_form (h.own i hi) with ⟨b', k', e, hle⟩
    rw [hv] at e
    injection e with _ _ e3; omega
  rw [hv] at key
  exact ⟨A, cz, key 0 (by omega), key 1 (by omega), key 2 (by omega), key 3 (by omega), key 4 (by omega), key 5 (by omega), key 6 (by omega), key 7 (by omega), key 8 (by omega), hI, hn i hi, hle⟩
theorem OwnEs.isb {w : World} {base k : Nat} {b : Option Addr} {es : List Ev} {V : List Value} (h : OwnEs w base (.slice b es.length k) es V) (hn : ∀ j, j < es.length → (es.getD j ev0).dd.zs.length ≤ 1048576) : IsEvs w b es := by
  rcases h.row.2 with ⟨e, h0⟩ | ⟨g, cap, cur, e, _⟩
  · exact .inl (List.eq_nil_of_length_eq_zero h0)
  · injection e with e1 e2 e3
    subst e1
    exact h.is hn
/-- lines that all are events -/
theorem recL_all {P : List ByteArray} {es : List Ev} (h : P.map parM = es.map some) (Q : List ByteArray) : recL (P ++ Q) = es ++ recL Q := by
  induction P generalizing es with
  | nil =>
    cases es with
    | nil => rfl
    | cons e t => cases h
  | cons l r ih =>
    cases es with
    | nil => cases h
    | cons e t =>
      rw [List.map_cons, List.map_cons] at h
      injection h with h1 h2
      rw [List.cons_append, recL_some _ h1, ih h2]; rfl
theorem all_len {P : List ByteArray} {es : List Ev} (h : P.map parM = es.map some) : P.length = es.length := by
  have := congrArg List.length h
  simpa using this
theorem all_snoc {P : List ByteArray} {es : List Ev} {l : ByteArray} {x : Ev} (h : P.map parM = es.map some) (hl : parM l = some x) : (P ++ [l]).map parM = (es ++ [x]).map some := by
  rw [List.map_append, List.map_append, h]; simp [hl]
theorem lnA_pre {s : ByteArray} {p : Nat} {P : List ByteArray} (h : (cutTo 10 s p).1 = P) (hp : p ≤ s.size) : ∃ Q, lnA s = P ++ Q := by
  obtain ⟨Q, hQ⟩ := cut_pre_all (c := 10) (s := s) hp
  exact ⟨Q, by rw [← h]; exact hQ⟩
theorem rec_full {s : ByteArray} {p : Nat} {P : List ByteArray} {es : List Ev} (h : (cutTo 10 s p).1 = P) (hp : p ≤ s.size) (ha : P.map parM = es.map some) (h60 : es.length = 60) : recB s = es := by
  obtain ⟨Q, hQ⟩ := lnA_pre h hp
  unfold recB
  rw [hQ, recL_all ha, ← h60, List.take_left]
theorem rec_stop {s : ByteArray} {p : Nat} {P : List ByteArray} {l : ByteArray} {es : List Ev} (h : (cutTo 10 s p).1 = P ++ [l]) (hp : p ≤ s.size) (ha : P.map parM = es.map some) (hl : parM l = none) (h60 : es.length ≤ 60) : recB s = es := by
  obtain ⟨Q, hQ⟩ := lnA_pre h hp
  unfold recB
  rw [hQ, List.append_assoc, recL_all ha, List.singleton_append, recL_none Q hl, List.append_nil, List.take_of_length_le h60]
theorem rec_end {s : ByteArray} {es : List Ev} (ha : (lnA s).map parM = es.map some) (h60 : es.length ≤ 60) : recB s = es := by
  unfold recB
  have := recL_all ha []
  rw [List.append_nil] at this
  rw [this]
  show (es ++ recL []).take 60 = es
  rw [show recL [] = [] from rfl, List.append_nil, List.take_of_length_le h60]
theorem rec_quiet {s : ByteArray} {p : Nat} {P : List ByteArray} (h : cutTo 10 s p = (P, p)) (hp : p ≤ s.size) (h2 : ∀ j, p ≤ j → j < s.size → bt s j ≠ 10) : lnA s = P := by
  have := cut_quiet (c := 10) (s := s) (s.size - p) p (fun j a b => h2 j a (by omega))
  rw [show p + (s.size - p) = s.size by omega, h] at this
  unfold lnA; rw [this]
theorem par_heirs {l : ByteArray} {x : Ev} (h : parM l = some x) : x.dd.zs.length ≤ 12 := by
  obtain ⟨_, _, h3, h4⟩ := par_is h
  obtain ⟨hk, s1, s2⟩ := ev_kinds x h3
  by_cases c : x.k = 0
  · have w1 : evW x = deedW x.dd := by unfold evW; rw [if_pos ⟨s1, s2⟩, if_pos c]
    rw [w1] at h3
    by_cases q : ownB x.dd.o = true ∧ x.dd.zs.length ≤ 12
    · exact q.2
    · unfold deedW at h3; rw [if_neg q] at h3; exact absurd rfl h3
  · rw [← h4]
    unfold canE
    rcases hk with e | e | e | e | e | e <;> rw [e]
    · exact absurd e c
    all_goals (simp [dd0])
end Go.Proofs.Ythagafkjlecagaa
namespace Go.Proofs.Ythagafkjlecagaa
open Go.RowKit
set_option linter.unusedSimpArgs false
set_option linter.unusedVariables false

theorem evC_one (b2 : Option Addr) (c2 : Nat) (x : Ev) : ∀ u ∈ [Value.int .i64 x.k, Value.int .i64 x.dd.k, Value.int .i64 x.dd.o, Value.int .i64 x.dd.t, Value.int .i64 x.dd.n, Value.int .i64 x.dd.d, Value.slice b2 x.dd.zs.length c2, Value.int .i64 x.at_, Value.int .i64 x.nu], u.oneCell' = true := by
  intro u hu
  simp only [List.mem_cons, List.not_mem_nil, or_false] at hu
  rcases hu with rfl | rfl | rfl | rfl | rfl | rfl | rfl | rfl | rfl <;> rfl
/-- what RecoverBook leaves -/
def OutRB (w : World) (es : List Ev) (e : Ending) (w' : World) : Prop := ∃ v V, e = .returned v ∧ OwnEs w' w.heap.size v es V ∧ (∀ j, j < es.length → (es.getD j ev0).dd.zs.length ≤ 12) ∧ Below w.heap.size w w'
set_option maxRecDepth 100000 in
set_option maxHeartbeats 6000000 in
/-- impl.RecoverBook -/
theorem iRecB (s : ByteArray) (w : World) (h : s.size ≤ 1048576) :
    Calls Try.prog 28 #[.string s] w (OutRB w (recB s)) := by
  obtain ⟨i0, hi0, hz0, hzz, hz2⟩ := info_parts infoEv
  have K0 := ownEs_new (Below.refl w.heap.size w)
  have B0 : Below w.heap.size w (w.alloc (.cells #[] 35)) := by go_grown
  have HS : Hid (s.extract 0 s.size = s) := by show _ = _; simp
  go_enter Try.func28, Try.ntmps28
  go_wp2_with fail
  go_loopw [3, 4] (fun v r wr => ∃ (p : Nat) (P : List ByteArray) (es : List Ev) (V : List Value), Hid (p ≤ s.size ∧ cutTo 10 s p = (P, p) ∧ P.map parM = es.map some ∧ es.length ≤ 60 ∧ ∀ j, j < es.length → (es.getD j ev0).dd.zs.length ≤ 12) ∧ r = .string (s.extract p s.size) ∧ OwnEs wr w.heap.size v es V ∧ Below w.heap.size w wr) (fun _ r _ => sizeS r)
  case atStart => exact ⟨0, [], [], [], ⟨Nat.zero_le _, rfl, rfl, Nat.zero_le _, fun j hj => absurd hj (Nat.not_lt_zero _)⟩, by rw [HS.out], K0, B0⟩
  case round =>
    clear K0 B0
    obtain ⟨p, P, es, V, HP, rfl, hO, hB⟩ := hrel
    have hsz := hB.size
    obtain ⟨hp, hc, ha, h60, h12⟩ := HP.out
    have hR := rest_size s p
    have zR : (s.extract p s.size).size ≤ s.size := ext_size _ _ _
    obtain ⟨b, cap, rfl⟩ := hO.forms
    have HO := Lib.hid hO
    have H12 := Lib.hid h12
    have HL60 := Lib.hid h60
    clear hO h12
    by_cases hlt : es.length < 60
    · have q0 : decide ((es.length : Int) < 60) = true := decide_eq_true (by omega)
      rcases rest_ix 10 s p with ⟨e, he, hb, hbn, hx⟩ | ⟨hbn, hx⟩
      · have hH := cut_hit hc hb hbn
        have E1 := ext_ext1 s (p := p) (e := e) (by omega)
        have E2 := ext_ext2 s p e
        generalize s.extract p s.size = R at *
        have HX := Lib.hid hx
        have z2 : R.size ≤ 4294967296 := by omega
        have q1 : (0 : Int) ≤ (e : Int) := by omega
        have q2 : (e : Int) ≤ (R.size : Int) := by omega
        have q3 : (0 : Int) ≤ (e : Int) + 1 := by omega
        have q4 : (e : Int) + 1 ≤ (R.size : Int) := by omega
        have q5 : ¬ (e : Int) < 0 := by omega
        have t1 : IntKind.i64.wrap ((e : Int) + 1) = (e : Int) + 1 := by rw [IntKind.wrap_i64]; omega
        have t2 : ((e : Int) + 1).toNat = e + 1 := by omega
        rw [← hR] at E2
        rw [← E1] at hH
        have zA : (R.extract 0 e).size ≤ 1048576 := Nat.le_trans (ext_size _ _ _) (Nat.le_trans zR h)
        generalize hA_ : R.extract 0 e = A at *
        generalize hD : R.extract (e + 1) R.size = R2 at *
        have zD : R2.size < R.size := by rw [E2, rest_size]; omega
        have HD := Lib.hid E2
        have HZ := Lib.hid zD
        have hpe : p + e + 1 ≤ s.size := by omega
        have hstop := fun hn => rec_stop (s := s) (p := p + e + 1) (P := P) (l := A) (es := es) (by rw [hH]) hpe ha hn h60
        have hnext := fun x (hs : parM A = some x) => (⟨hpe, hH, all_snoc ha hs, by simp; omega, fun j hj => by
          rw [getD_snoc]
          by_cases hl : j < es.length
          · rw [if_pos hl]; exact H12.out j hl
          · have : j = es.length := by simp at hj; omega
            rw [if_neg hl, if_pos this]; exact par_heirs hs⟩ : p + e + 1 ≤ s.size ∧ cutTo 10 s (p + e + 1) = (P ++ [A], p + e + 1) ∧ (P ++ [A]).map parM = (es ++ [x]).map some ∧ (es ++ [x]).length ≤ 60 ∧ ∀ j, j < (es ++ [x]).length → ((es ++ [x]).getD j ev0).dd.zs.length ≤ 12)
        have CP := Lib.hid (iParE A wr zA)
        clear hx hH E1 E2 hb hbn hc hR HP zD ha
        cases hs : parM A with
        | none =>
          have HN := Lib.hid (hstop hs)
          rw [hs] at CP
          clear hstop hnext hs
          go_wp2_with fail
          refine (iidx R 10 _ z2).mono ?_
          rintro e3 w' ⟨rfl, rfl⟩
          rw [HX.out]
          go_wp2_with fail
          refine CP.out.mono ?_
          rintro e3 u1 ⟨v, x, hx, rfl, O, C⟩
          obtain ⟨b2, c2, rfl, _⟩ := O.ints
          have HO1 := Lib.hid (HO.out.next C)
          have hB1 := bel_tr hB C
          have HO2 := Lib.hid (HO1.out.next ((Below.refl u1.heap.size u1).alloc (Nat.le_refl _) (.cells #[.int .i64 x.k, .int .i64 x.dd.k, .int .i64 x.dd.o, .int .i64 x.dd.t, .int .i64 x.dd.n, .int .i64 x.dd.d, .slice b2 x.dd.zs.length c2, .int .i64 x.at_, .int .i64 x.nu] 35)))
          have HB2 := Lib.hid (hB1.alloc hB1.size (.cells #[.int .i64 x.k, .int .i64 x.dd.k, .int .i64 x.dd.o, .int .i64 x.dd.t, .int .i64 x.dd.n, .int .i64 x.dd.d, .slice b2 x.dd.zs.length c2, .int .i64 x.at_, .int .i64 x.nu] 35))
          clear C O hx hB hB1
          go_wp2_with fail
          go_ret
          exact ⟨_, V, rfl, by rw [HN.out]; exact HO2.out, by rw [HN.out]; exact H12.out, HB2.out⟩
        | some x =>
          have HN := Lib.hid (hnext x hs)
          rw [hs] at CP
          clear hstop hnext hs
          go_wp2_with fail
          refine (iidx R 10 _ z2).mono ?_
          rintro e3 w' ⟨rfl, rfl⟩
          rw [HX.out]
          go_wp2_with fail
          refine CP.out.mono ?_
          rintro e3 u1 ⟨v, x1, hx, rfl, O, C⟩
          obtain rfl : x1 = x := hx
          obtain ⟨b2, c2, rfl, _⟩ := O.ints
          have hB1 := bel_tr hB C
          have hs1 := C.size
          obtain ⟨u2, hu2⟩ : ∃ y, y = u1.alloc (.cells #[.int .i64 x1.k, .int .i64 x1.dd.k, .int .i64 x1.dd.o, .int .i64 x1.dd.t, .int .i64 x1.dd.n, .int .i64 x1.dd.d, .slice b2 x1.dd.zs.length c2, .int .i64 x1.at_, .int .i64 x1.nu] 35) := ⟨_, rfl⟩
          have C2 : Below wr.heap.size wr u2 := by subst hu2; exact C.alloc hs1 _
          have hB2 : Below w.heap.size w u2 := by subst hu2; exact hB1.alloc hB1.size _
          have K2 : Blk u2 u1.heap.size 35 #[.int .i64 x1.k, .int .i64 x1.dd.k, .int .i64 x1.dd.o, .int .i64 x1.dd.t, .int .i64 x1.dd.n, .int .i64 x1.dd.d, .slice b2 x1.dd.zs.length c2, .int .i64 x1.at_, .int .i64 x1.nu] := by subst hu2; exact Blk.new u1 35 _
          have O2 : OwnI u2 wr.heap.size (.slice b2 x1.dd.zs.length c2) x1.dd.zs := by subst hu2; exact O.of_block ((Below.refl _ _).alloc (Nat.le_refl _) _)
          have HU2 := Lib.hid hu2
          have D3 : Below u2.heap.size u2 (u2.alloc (.cells #[.int .i64 x1.k, .int .i64 x1.dd.k, .int .i64 x1.dd.o, .int .i64 x1.dd.t, .int .i64 x1.dd.n, .int .i64 x1.dd.d, .slice b2 x1.dd.zs.length c2, .int .i64 x1.at_, .int .i64 x1.nu] 35)) := (Below.refl _ _).alloc (Nat.le_refl _) _
          have HC3 := Lib.hid (bel_tr C2 D3)
          have HO3 := Lib.hid (O2.of_block D3)
          have HR3 := Lib.hid ((HO.out.next (bel_tr C2 D3)).row)
          have HB3 := Lib.hid (bel_tr hB2 D3)
          have NC := Lib.hid (new_cells u2 [.int .i64 x1.k, .int .i64 x1.dd.k, .int .i64 x1.dd.o, .int .i64 x1.dd.t, .int .i64 x1.dd.n, .int .i64 x1.dd.d, .slice b2 x1.dd.zs.length c2, .int .i64 x1.at_, .int .i64 x1.nu] 35)
          have hs2 := hB2.size
          clear C O hB hB1 hu2 C2 O2 D3 hB2
          obtain ⟨q0, q1, q2, q3, q4, q5, q6, q7, q8⟩ := cells9 K2
          go_wp2_with (first | (show wpList _ _ _ ({ dst := some _, op := _, type := _, pos := _, after := _, guard := _ } :: _) _ (World.alloc _ _); rw [← HU2.out]) | (at_builtin; refine wpList_append_own _ rfl _ _ _ rfl w.heap.size 35 i0 _ 9 88 Try.underlying50 hi0 hz0 hzz hz2 rfl (by decide) _ es.length (rowC V es) rfl HR3.out ⟨u2.heap.size, 0, none⟩ 1 1 [.int .i64 x1.k, .int .i64 x1.dd.k, .int .i64 x1.dd.o, .int .i64 x1.dd.t, .int .i64 x1.dd.n, .int .i64 x1.dd.d, .slice b2 x1.dd.zs.length c2, .int .i64 x1.at_, .int .i64 x1.nu] rfl rfl NC.out (evC_one b2 c2 x1) (by unfold maxLen; omega) (by omega) (by simp; omega) ?_; intro v2 w2 hO2 hg2 hat2))
          have HF : Hid (OwnEs w2 w.heap.size v2 (es ++ [x1]) (V ++ [.slice b2 x1.dd.zs.length c2]) ∧ Below w.heap.size w w2) := ⟨HO.out.snoc HC3.out HO3.out hsz hO2 hg2, HB3.out.grown hg2 HB3.out.size (fun q hq => (World.ownsRow.lt HR3.out q hq).1)⟩
          clear hO2 hg2 hat2 HC3 HO3 HR3 HB3 NC q0 q1 q2 q3 q4 q5 q6 q7 q8 K2
          go_roundw
          case rel => exact ⟨p + e + 1, P ++ [A], es ++ [x1], _, HN, by rw [HD.out], HF.out.1, HF.out.2⟩
          case measure => simp only [sizeS]; exact HZ.out
      · have HN : Hid (recB s = es) := Lib.hid (rec_end (by rw [rec_quiet hc hp hbn]; exact ha) h60)
        generalize s.extract p s.size = R at *
        have HX := Lib.hid hx
        have z2 : R.size ≤ 4294967296 := by omega
        clear hx hbn hc ha HP
        go_wp2_with fail
        refine (iidx R 10 _ z2).mono ?_
        rintro e3 w' ⟨rfl, rfl⟩
        rw [HX.out]
        go_wp2_with fail
        go_ret
        exact ⟨_, V, rfl, by rw [HN.out]; exact HO.out, by rw [HN.out]; exact H12.out, hB⟩
    · have q0 : decide ((es.length : Int) < 60) = false := decide_eq_false (by omega)
      have HN : Hid (recB s = es) := Lib.hid (rec_full (by rw [hc]) hp ha (by omega))
      clear hc ha HP
      go_wp2_with fail
      go_ret
      exact ⟨_, V, rfl, by rw [HN.out]; exact HO.out, by rw [HN.out]; exact H12.out, hB⟩
end Go.Proofs.Ythagafkjlecagaa
namespace Go.Proofs.Ythagafkjlecagaa
open Go.RowKit
set_option linter.unusedSimpArgs false
set_option linter.unusedVariables false

theorem ints_grown {w w' : World} {A : Option Addr} {zs : List Int} {row : Option Nat} (h : IsInts w A zs) (hg : w.grownBy w' row) (hlt : ∀ g o s, A = some ⟨g, o, s⟩ → g < w.heap.size ∧ row ≠ some g) : IsInts w' A zs := by
  rcases h with h | ⟨g, o, rfl, hc⟩
  · exact .inl h
  · obtain ⟨h1, h2⟩ := hlt g o none rfl
    refine .inr ⟨g, o, rfl, fun i hi => ?_⟩
    exact hg.cell (hc i hi) (fun c => h2 c.symm)
/-- heirs that lie somewhere above base, not in block ex -/
def Hrs (w : World) (base : Nat) (ex : Option Nat) (u : Value) (zs : List Int) : Prop := ∃ (A : Option Addr) (cz : Nat), u = .slice A zs.length cz ∧ IsInts w A zs ∧ zs.length ≤ cz ∧ (zs ≠ [] → ∀ g o s, A = some ⟨g, o, s⟩ → base ≤ g ∧ g < w.heap.size ∧ ex ≠ some g)
structure OwnEz (w : World) (base : Nat) (v : Value) (es : List Ev) (V : List Value) : Prop where
  len : V.length = es.length
  row : w.ownsRow base 35 9 v es.length (rowC V es)
  own : ∀ j, j < es.length → Hrs w base v.ownBlock (V.getD j undef) (es.getD j ev0).dd.zs
theorem ownEz_new {w W : World} (h : Below w.heap.size w W) : OwnEz (W.alloc (.cells #[] 35)) w.heap.size (.slice (some ⟨W.heap.size, 0, none⟩) 0 0) [] [] :=
  ⟨rfl, (ownEs_new h).row, fun j hj => absurd hj (Nat.not_lt_zero _)⟩
theorem Hrs.next {w w' : World} {base : Nat} {ex : Option Nat} {u : Value} {zs : List Int} (h : Hrs w base ex u zs) (hb : Below w.heap.size w w') : Hrs w' base ex u zs := by
  obtain ⟨A, cz, hu, hI, hl, ha⟩ := h
  exact ⟨A, cz, hu, ints_below hI hb, hl, fun hz g o s e => ⟨(ha hz g o s e).1, Nat.lt_of_lt_of_le (ha hz g o s e).2.1 hb.size, (ha hz g o s e).2.2⟩⟩
theorem OwnEz.next {w w' : World} {base : Nat} {v : Value} {es : List Ev} {V : List Value} (h : OwnEz w base v es V) (hb : Below w.heap.size w w') : OwnEz w' base v es V :=
  ⟨h.len, row_of_below h.row hb, fun j hj => (h.own j hj).next hb⟩
theorem OwnEz.forms {w : World} {base : Nat} {v : Value} {es : List Ev} {V : List Value} (h : OwnEz w base v es V) : ∃ b k, v = .slice b es.length k := by
  rcases Go.Joins.ownsRow_forms h.row with ⟨e, hn⟩ | ⟨g, c, e⟩
  · exact ⟨none, 0, by rw [hn]; exact e⟩
  · exact ⟨_, c, e⟩
/-- one more event -/
theorem OwnEz.snoc {W U w2 : World} {base : Nat} {v v2 vz : Value} {es : List Ev} {V : List Value} {x : Ev} (h : OwnEz W base v es V) (hU : Below W.heap.size W U) (hz : Hrs U W.heap.size none vz x.dd.zs) (hb : base ≤ W.heap.size) (hr : w2.ownsRow base 35 9 v2 (es.length + 1) (rowC V es ++ evC vz x)) (hg : U.grownBy w2 v.ownBlock) (hat : v2.ownBlock = v.ownBlock ∨ v2.ownBlock = some U.heap.size) : OwnEz w2 base v2 (es ++ [x]) (V ++ [vz]) := by
  have hU2 := h.next hU
  have hVe := h.len
  have hgz := hg.size
  have old : ∀ u zs, Hrs U base v.ownBlock u zs → Hrs w2 base v2.ownBlock u zs := fun u zs hh => by
    obtain ⟨A, cz, hu, hI, hl, ha⟩ := hh
    by_cases hz : zs = []
    · exact ⟨A, cz, hu, .inl hz, hl, fun c => absurd hz c⟩
    refine ⟨A, cz, hu, ints_grown hI hg (fun g o s e => ⟨(ha hz g o s e).2.1, (ha hz g o s e).2.2⟩), hl, fun _ g o s e => ⟨(ha hz g o s e).1, Nat.lt_of_lt_of_le (ha hz g o s e).2.1 hgz, ?_⟩⟩
    rcases hat with q | q
    · rw [q]; exact (ha hz g o s e).2.2
    · rw [q]; intro c; injection c with c; have := (ha hz g o s e).2.1; omega
  refine ⟨by simp [h.len], by rw [rowC_snoc h.len, List.length_append]; exact hr, fun j hj => ?_⟩
  rw [getD_snoc, getD_snoc, hVe]
  by_cases hl : j < es.length
  · rw [if_pos hl, if_pos hl]
    exact old _ _ (hU2.own j hl)
  · have : j = es.length := by simp at hj; omega
    rw [if_neg hl, if_neg hl, if_pos this, if_pos this]
    refine old _ _ ?_
    obtain ⟨A, cz, hu, hI, hl, ha⟩ := hz
    refine ⟨A, cz, hu, hI, hl, fun hz g o s e => ⟨Nat.le_trans hb (ha hz g o s e).1, (ha hz g o s e).2.1, fun c => ?_⟩⟩
    have a := (World.ownsRow.lt h.row g c).2
    have b := (ha hz g o s e).1
    omega
theorem OwnEz.isb {w : World} {base k : Nat} {b : Option Addr} {es : List Ev} {V : List Value} (h : OwnEz w base (.slice b es.length k) es V) (hn : ∀ j, j < es.length → (es.getD j ev0).dd.zs.length ≤ 1048576) : IsEvs w b es := by
  rcases h.row.2 with ⟨e, h0⟩ | ⟨g, cap, cur, e, _⟩
  · exact .inl (List.eq_nil_of_length_eq_zero h0)
  · injection e with e1 e2 e3
    subst e1
    refine .inr ⟨g, 0, rfl, fun i hi => ?_⟩
    have key : ∀ q, q < 9 → w.cell? ⟨g, 0 + i * 9 + q, none⟩ = (evC (V.getD i undef) (es.getD i ev0))[q]? := fun q hq => by
      rw [Nat.zero_add, World.ownsRow.cellAt h.row (i * 9 + q) (by omega), rowC_get es V h.len i q hi hq]
    obtain ⟨A, cz, hv, hI, hle, _⟩ := h.own i hi
    rw [hv] at key
    exact ⟨A, cz, key 0 (by omega), key 1 (by omega), key 2 (by omega), key 3 (by omega), key 4 (by omega), key 5 (by omega), key 6 (by omega), key 7 (by omega), key 8 (by omega), hI, hn i hi, hle⟩
/-- what recoverBook leaves -/
def OutRS (w : World) (es : List Ev) (e : Ending) (w' : World) : Prop := ∃ b k, e = .returned (.slice b es.length k) ∧ IsEvs w' b es ∧ (∀ j, j < es.length → (es.getD j ev0).dd.zs.length ≤ 12) ∧ es.length ≤ 60 ∧ Below w.heap.size w w'
theorem lnA_take (s : ByteArray) : lnA s = (cutS 10 s).take ((cutS 10 s).length - 1) := by
  have e : cutS 10 s = lnA s ++ [s.extract (cutTo 10 s s.size).2 s.size] := rfl
  rw [e]; simp
theorem rec_stop2 {s : ByteArray} {k : Nat} {es : List Ev} (hk : k + 1 < (cutS 10 s).length) (ha : ((cutS 10 s).take k).map parM = es.map some) (hl : parM ((cutS 10 s).getD k tE) = none) (h60 : es.length ≤ 60) : recB s = es := by
  unfold recB
  have h1 : ((cutS 10 s).take ((cutS 10 s).length - 1)).take (k + 1) = (cutS 10 s).take k ++ [(cutS 10 s).getD k tE] := by
    rw [List.take_take, show min (k + 1) ((cutS 10 s).length - 1) = k + 1 by omega, List.take_add_one, List.getD_eq_getElem?_getD, List.getElem?_eq_getElem (by omega)]; rfl
  have e : lnA s = (cutS 10 s).take k ++ (cutS 10 s).getD k tE :: (((cutS 10 s).take ((cutS 10 s).length - 1)).drop (k + 1)) := by
    rw [lnA_take]
    have h2 := List.take_append_drop (k + 1) ((cutS 10 s).take ((cutS 10 s).length - 1))
    rw [h1, List.append_assoc] at h2
    exact h2.symm
  rw [e, recL_all ha, recL_none _ hl, List.append_nil, List.take_of_length_le h60]
theorem rec_full2 {s : ByteArray} {k : Nat} {es : List Ev} (hk : k + 1 < (cutS 10 s).length) (ha : ((cutS 10 s).take k).map parM = es.map some) (h60 : es.length = 60) : recB s = es := by
  unfold recB
  have e : lnA s = (cutS 10 s).take k ++ (((cutS 10 s).take ((cutS 10 s).length - 1)).drop k) := by
    rw [lnA_take]
    conv => lhs; rw [← List.take_append_drop k ((cutS 10 s).take ((cutS 10 s).length - 1)), List.take_take, show min k ((cutS 10 s).length - 1) = k by omega]
  rw [e, recL_all ha, ← h60, List.take_left]
theorem rec_end2 {s : ByteArray} {k : Nat} {es : List Ev} (hk : k + 1 = (cutS 10 s).length) (ha : ((cutS 10 s).take k).map parM = es.map some) (h60 : es.length ≤ 60) : recB s = es :=
  rec_end (by rw [lnA_take, ← hk]; exact ha) h60
theorem take_all {L : List ByteArray} {k : Nat} {es : List Ev} {x : Ev} (hk : k < L.length) (ha : (L.take k).map parM = es.map some) (hl : parM (L.getD k tE) = some x) : (L.take (k + 1)).map parM = (es ++ [x]).map some := by
  have := all_snoc ha hl
  rw [List.take_add_one, List.getElem?_eq_getElem hk]
  rw [List.getD_eq_getElem?_getD, List.getElem?_eq_getElem hk] at this
  exact this
theorem own_le_str {w : World} {b1 b2 : Nat} {v : Value} {L : List ByteArray} (h : StrO w b1 v L) (hb : b2 ≤ b1) : StrO w b2 v L := by
  refine ⟨h.1, ?_⟩
  rcases h.2 with h | ⟨g, cap, cur, a, b, c, d⟩
  · exact .inl h
  · exact .inr ⟨g, cap, cur, a, Nat.le_trans hb b, c, d⟩
set_option maxRecDepth 100000 in
set_option maxHeartbeats 6000000 in
/-- spec.recoverBook -/
theorem srecB (s : ByteArray) (w : World) (h : s.size ≤ 1048576) :
    Calls Try.prog 53 #[.string s] w (OutRS w (recB s)) := by
  obtain ⟨i0, hi0, hz0, hzz, hz2⟩ := info_parts infoEv
  have KZ := ownEz_new (Below.refl w.heap.size w)
  have BZ : Below w.heap.size w (w.alloc (.cells #[] 35)) := by go_grown
  have hlz := cut_size (c := 10) (s := s)
  have hl1 := cut_len 10 s
  have hL := cut_ne 10 s
  have hst := fun k es => rec_stop2 (s := s) (k := k) (es := es)
  have hfu := fun k es => rec_full2 (s := s) (k := k) (es := es)
  have hen := fun k es => rec_end2 (s := s) (k := k) (es := es)
  have HW := Lib.hid (ssplit s 10 (w.alloc (.cells #[] 35)) (by omega))
  obtain ⟨L, hLL⟩ : ∃ L, cutS 10 s = L := ⟨_, rfl⟩
  rw [hLL] at hlz hl1 hL hst hfu hen
  have HLL := Lib.hid hLL
  have HST := Lib.hid hst
  have HFU := Lib.hid hfu
  have HEN := Lib.hid hen
  have HLZ := Lib.hid hlz
  clear hLL hst hfu hen hlz
  go_enter Try.func53, Try.ntmps53
  go_wp2_with fail
  refine HW.out.mono ?_
  rintro e u1 ⟨v, rfl, O, C⟩
  rw [HLL.out] at O
  obtain ⟨gL, cpL, rfl, lg, I⟩ := StrO.form O hL
  have K0 := KZ.next C
  have B0 := bel_tr BZ C
  have hLp := List.length_pos_iff.2 hL
  have W0 : StrO u1 w.heap.size (.slice (some ⟨gL, 0, none⟩) L.length cpL) L := own_le_str O (by simp)
  clear KZ BZ C O I HW lg
  go_wp2_with fail
  go_loopw [3, 5] (fun v i wr => ∃ (k : Nat) (es : List Ev) (V : List Value), k + 1 ≤ L.length ∧ i = .int .i64 (k : Int) ∧ Hid ((L.take k).map parM = es.map some ∧ es.length ≤ 60 ∧ ∀ j, j < es.length → (es.getD j ev0).dd.zs.length ≤ 12) ∧ OwnEz wr w.heap.size v es V ∧ StrO wr w.heap.size (.slice (some ⟨gL, 0, none⟩) L.length cpL) L ∧ Below w.heap.size w wr) (fun _ i _ => L.length - (intOf i).toNat)
  case atStart => exact ⟨0, [], [], hLp, rfl, ⟨rfl, Nat.zero_le _, fun j hj => absurd hj (Nat.not_lt_zero _)⟩, K0, W0, B0⟩
  case round =>
    clear K0 B0 W0
    obtain ⟨k, es, V, hk, rfl, HP, hO, hD, hB⟩ := hrel
    have hsz := hB.size
    obtain ⟨ha, h60, h12⟩ := HP.out
    obtain ⟨b, cap, rfl⟩ := hO.forms
    have HO := Lib.hid hO
    have H12 := Lib.hid h12
    have hn12 : ∀ j, j < es.length → (es.getD j ev0).dd.zs.length ≤ 1048576 := fun j hj => by have := H12.out j hj; omega
    have HIS := Lib.hid (hO.isb hn12)
    clear hO h12 hn12
    have t1 : IntKind.i64.wrap ((k : Int) + 1) = (k : Int) + 1 := by rw [IntKind.wrap_i64]; omega
    by_cases hlt : k + 1 < L.length
    · obtain ⟨gq, cq, eq_, _, IL⟩ := StrO.form hD hL
      injection eq_ with e1 e2_ e3_
      subst e3_
      clear e2_
      injection e1 with e1; injection e1 with e1 _; subst e1
      rcases IL with e | ⟨g', o', e, hc⟩
      · exact absurd e hL
      injection e with e; injection e with e1 e2; subst e1 e2
      have c0 := hc k (by omega)
      rw [Nat.zero_add] at c0
      have HWD := Lib.hid hD
      have zA : (L.getD k tE).size ≤ 1048576 := Nat.le_trans (HLZ.out _ (getD_memS (by omega))) h
      have CP := Lib.hid (spar (L.getD k tE) wr zA)
      have hstop := fun hn => HST.out k es hlt ha hn h60
      have hfull := HFU.out k es hlt ha
      have hnext := fun x (hs : parM (L.getD k tE) = some x) (hne : es.length ≠ 60) => (⟨take_all (by omega) ha hs, by simp; omega, fun j hj => by
          rw [getD_snoc]
          by_cases hl : j < es.length
          · rw [if_pos hl]; exact H12.out j hl
          · have : j = es.length := by simp at hj; omega
            rw [if_neg hl, if_pos this]; exact par_heirs hs⟩ : (L.take (k + 1)).map parM = (es ++ [x]).map some ∧ (es ++ [x]).length ≤ 60 ∧ ∀ j, j < (es ++ [x]).length → ((es ++ [x]).getD j ev0).dd.zs.length ≤ 12)
      have q1 : (k : Int) + 1 < (L.length : Int) := by omega
      have q2 : (0 : Int) ≤ (k : Int) := by omega
      have q3 : (k : Int) < (L.length : Int) := by omega
      clear hc ha HP
      generalize L.getD k tE = A_ at *
      cases hs : parM A_ with
      | none =>
        have HN := Lib.hid (hstop hs)
        rw [hs] at CP
        clear hstop hnext hs hfull
        go_wp2_with fail
        refine CP.out.mono ?_
        rintro e3 u2 ⟨A, cz, x, hx, rfl, I, _, _, _, C⟩
        have B1 := bel_tr hB C
        have HI2 := Lib.hid (evs_below (evs_below HIS.out C) ((Below.refl u2.heap.size u2).alloc (Nat.le_refl _) (.cells #[.int .i64 x.k, .int .i64 x.dd.k, .int .i64 x.dd.o, .int .i64 x.dd.t, .int .i64 x.dd.n, .int .i64 x.dd.d, .slice A x.dd.zs.length cz, .int .i64 x.at_, .int .i64 x.nu] 35)))
        have HB2 := Lib.hid (B1.alloc B1.size (.cells #[.int .i64 x.k, .int .i64 x.dd.k, .int .i64 x.dd.o, .int .i64 x.dd.t, .int .i64 x.dd.n, .int .i64 x.dd.d, .slice A x.dd.zs.length cz, .int .i64 x.at_, .int .i64 x.nu] 35))
        clear C hx I hB B1 hD
        go_wp2_with fail
        go_ret
        exact ⟨b, cap, by rw [HN.out]; rfl, by rw [HN.out]; exact HI2.out, by rw [HN.out]; exact H12.out, by rw [HN.out]; exact h60, HB2.out⟩
      | some x0 =>
        rw [hs] at CP
        by_cases h6 : es.length = 60
        · have HN := Lib.hid (hfull h6)
          have q6 : (es.length : Int) = 60 := by omega
          have q7 : ((es.length : Int) == 60) = true := by simp [q6]
          clear hstop hnext hs hfull
          go_wp2_with fail
          refine CP.out.mono ?_
          rintro e3 u2 ⟨A, cz, x, hx, rfl, I, _, _, _, C⟩
          have B1 := bel_tr hB C
          have HI2 := Lib.hid (evs_below (evs_below HIS.out C) ((Below.refl u2.heap.size u2).alloc (Nat.le_refl _) (.cells #[.int .i64 x.k, .int .i64 x.dd.k, .int .i64 x.dd.o, .int .i64 x.dd.t, .int .i64 x.dd.n, .int .i64 x.dd.d, .slice A x.dd.zs.length cz, .int .i64 x.at_, .int .i64 x.nu] 35)))
          have HB2 := Lib.hid (B1.alloc B1.size (.cells #[.int .i64 x.k, .int .i64 x.dd.k, .int .i64 x.dd.o, .int .i64 x.dd.t, .int .i64 x.dd.n, .int .i64 x.dd.d, .slice A x.dd.zs.length cz, .int .i64 x.at_, .int .i64 x.nu] 35))
          clear C hx I hB B1 hD
          go_wp2_with fail
          go_ret
          exact ⟨b, cap, by rw [HN.out, h6]; rfl, by rw [HN.out]; exact HI2.out, by rw [HN.out]; exact H12.out, by rw [HN.out]; exact h60, HB2.out⟩
        · have HN := Lib.hid (hnext x0 hs h6)
          have q6 : ¬ (es.length : Int) = 60 := by omega
          clear hstop hnext hs hfull h6
          go_wp2_with fail
          refine CP.out.mono ?_
          rintro e3 u2 ⟨A, cz, x, hx, rfl, I, hA, hcz, _, C⟩
          obtain rfl : x = x0 := hx
          have B1 := bel_tr hB C
          have hs1 := C.size
          obtain ⟨u3, hu3⟩ : ∃ y, y = u2.alloc (.cells #[.int .i64 x.k, .int .i64 x.dd.k, .int .i64 x.dd.o, .int .i64 x.dd.t, .int .i64 x.dd.n, .int .i64 x.dd.d, .slice A x.dd.zs.length cz, .int .i64 x.at_, .int .i64 x.nu] 35) := ⟨_, rfl⟩
          have C3 : Below wr.heap.size wr u3 := by subst hu3; exact C.alloc hs1 _
          have hB3 : Below w.heap.size w u3 := by subst hu3; exact B1.alloc B1.size _
          have K3 : Blk u3 u2.heap.size 35 #[.int .i64 x.k, .int .i64 x.dd.k, .int .i64 x.dd.o, .int .i64 x.dd.t, .int .i64 x.dd.n, .int .i64 x.dd.d, .slice A x.dd.zs.length cz, .int .i64 x.at_, .int .i64 x.nu] := by subst hu3; exact Blk.new u2 35 _
          have I3 : IsInts u3 A x.dd.zs := by subst hu3; exact ints_below I ((Below.refl _ _).alloc (Nat.le_refl _) _)
          have HU3 := Lib.hid hu3
          have D4 : Below u3.heap.size u3 (u3.alloc (.cells #[.int .i64 x.k, .int .i64 x.dd.k, .int .i64 x.dd.o, .int .i64 x.dd.t, .int .i64 x.dd.n, .int .i64 x.dd.d, .slice A x.dd.zs.length cz, .int .i64 x.at_, .int .i64 x.nu] 35)) := (Below.refl _ _).alloc (Nat.le_refl _) _
          have HC4 := Lib.hid (bel_tr C3 D4)
          have I4 := ints_below I3 D4
          have HH4 : Hid (Hrs (u3.alloc (.cells #[.int .i64 x.k, .int .i64 x.dd.k, .int .i64 x.dd.o, .int .i64 x.dd.t, .int .i64 x.dd.n, .int .i64 x.dd.d, .slice A x.dd.zs.length cz, .int .i64 x.at_, .int .i64 x.nu] 35)) wr.heap.size none (.slice A x.dd.zs.length cz) x.dd.zs) := ⟨A, cz, rfl, I4, hcz, fun hne g o s e => ⟨hA g o s e, by
            rcases I4 with I' | ⟨g', o', e', hc'⟩
            · exact absurd I' hne
            · rw [e] at e'; injection e' with e'; injection e' with e1 _; subst e1
              exact World.block_lt_of_cell? _ _ (hc' 0 (List.length_pos_iff.2 hne)), fun c => (by cases c)⟩⟩
          have HR4 := Lib.hid ((HO.out.next (bel_tr C3 D4)).row)
          have HB4 := Lib.hid (bel_tr hB3 D4)
          have HD4 := Lib.hid (show StrO _ _ _ _ from row_of_below HWD.out (bel_tr C3 D4))
          have NC := Lib.hid (new_cells u3 [.int .i64 x.k, .int .i64 x.dd.k, .int .i64 x.dd.o, .int .i64 x.dd.t, .int .i64 x.dd.n, .int .i64 x.dd.d, .slice A x.dd.zs.length cz, .int .i64 x.at_, .int .i64 x.nu] 35)
          have hs3 := hB3.size
          clear C I hB B1 hu3 C3 I3 D4 hB3 hD I4 hA hs1
          obtain ⟨q0, q1, q2, q3, q4, q5, q6, q7, q8⟩ := cells9 K3
          go_wp2_with (first | (show wpList _ _ _ ({ dst := some _, op := _, type := _, pos := _, after := _, guard := _ } :: _) _ (World.alloc _ _); rw [← HU3.out]) | (at_builtin; refine wpList_append_own_at _ rfl (.tmp 34) (.tmp 36) _ rfl w.heap.size 35 i0 _ 9 88 Try.underlying50 hi0 hz0 hzz hz2 rfl (by decide) _ es.length (rowC V es) rfl HR4.out ⟨u3.heap.size, 0, none⟩ 1 1 [.int .i64 x.k, .int .i64 x.dd.k, .int .i64 x.dd.o, .int .i64 x.dd.t, .int .i64 x.dd.n, .int .i64 x.dd.d, .slice A x.dd.zs.length cz, .int .i64 x.at_, .int .i64 x.nu] rfl rfl NC.out (evC_one A cz x) (by unfold maxLen; omega) (by omega) (by simp; omega) ?_; intro v2 w2 hO2 hg2 hnil2 hat2))
          have HF : Hid (OwnEz w2 w.heap.size v2 (es ++ [x]) (V ++ [.slice A x.dd.zs.length cz]) ∧ StrO w2 w.heap.size (.slice (some ⟨gL, 0, none⟩) L.length cpL) L ∧ Below w.heap.size w w2) := ⟨HO.out.snoc HC4.out HH4.out hsz hO2 hg2 hat2, World.ownsRow.kept HD4.out hg2 (own_ne HD4.out HR4.out (by decide)), HB4.out.grown hg2 HB4.out.size (fun q hq => (World.ownsRow.lt HR4.out q hq).1)⟩
          clear hO2 hg2 hat2 hnil2 HC4 HH4 HR4 HB4 HD4 NC q0 q1 q2 q3 q4 q5 q6 q7 q8 K3
          go_roundw
          case rel => exact ⟨k + 1, es ++ [x], _, by omega, by go_num, HN, HF.out.1, HF.out.2.1, HF.out.2.2⟩
          case measure => simp [intOf]; omega
    · have hke : k + 1 = L.length := by omega
      have HN := Lib.hid (HEN.out k es hke ha h60)
      have q1 : ¬ (k : Int) + 1 < (L.length : Int) := by omega
      clear ha HP hke
      go_wp2_with fail
      go_ret
      exact ⟨b, cap, by rw [HN.out] <;> rfl, by rw [HN.out]; exact HIS.out, by rw [HN.out]; exact H12.out, by rw [HN.out]; exact h60, hB⟩
end Go.Proofs.Ythagafkjlecagaa
namespace Go.Proofs.Ythagafkjlecagaa
open Go.RowKit
set_option linter.unusedSimpArgs false
set_option linter.unusedVariables false

/-- spec.RecoverBook -/
theorem sRecB (s : ByteArray) (w : World) (h : s.size ≤ 1048576) :
    Calls Try.prog 27 #[.string s] w (OutRS w (recB s)) := by
  have CC := srecB s w h
  go_enter Try.func27, Try.ntmps27
  go_wp2_with fail
  refine CC.mono ?_
  rintro e u ⟨b, k, rfl, h1, h2, h3, h4⟩
  go_wp2_with fail
  go_ret
  exact ⟨b, k, rfl, h1, h2, h3, h4⟩
end Go.Proofs.Ythagafkjlecagaa
namespace Go.Proofs.Ythagafkjlecagaa
open Go.RowKit
set_option linter.unusedSimpArgs false
set_option linter.unusedVariables false

def marksK (s : Int) (n : Nat) : List Int := (List.range n).map fun (i : Nat) => s + (i : Int)
theorem marksK_len (s : Int) (n : Nat) : (marksK s n).length = n := by unfold marksK; simp
theorem marksK_get (s : Int) (n : Nat) {k : Nat} (h : k < n) : (marksK s n).getD k 0 = s + (k : Int) := by
  unfold marksK
  rw [List.getD_eq_getElem?_getD, List.getElem?_map, List.getElem?_range h]; rfl
def markK (s : Int) (zs : List Int) (j : Nat) : List Int := marksK s j ++ zs.drop j
theorem markK_len {s : Int} {zs : List Int} {j : Nat} (h : j ≤ zs.length) : (markK s zs j).length = zs.length := by unfold markK; rw [List.length_append, marksK_len, List.length_drop]; omega
theorem markK_zero {s : Int} (zs : List Int) : markK s zs 0 = zs := by unfold markK; rfl
theorem markK_end {s : Int} (zs : List Int) : markK s zs zs.length = marksK s zs.length := by unfold markK; simp
theorem markK_succ {s : Int} {zs : List Int} {j : Nat} (h : j < zs.length) : (markK s zs j).set j (s + (j : Int)) = markK s zs (j + 1) := by
  unfold markK
  rw [List.set_append_right _ _ (by rw [marksK_len]; exact Nat.le_refl _), marksK_len, Nat.sub_self, List.drop_eq_getElem_cons h, List.set_cons_zero]
  unfold marksK
  rw [List.range_succ, List.map_append]; simp
set_option maxHeartbeats 2000000 in
theorem mkIO (s : Int) (s0 : 0 ≤ s) (s1 : s ≤ 1000000000000) (b : Option Addr) (c base : Nat) (zs : List Int) (w : World) (h : OwnI w base (.slice b zs.length c) zs) (hn : zs.length ≤ 1048576) :
    Calls Try.prog 55 #[.slice b zs.length c, .int .i64 s] w fun e w' => e = .returned (.int .i64 (s + (zs.length : Int))) ∧ OwnI w' base (.slice b zs.length c) (marksK s zs.length) ∧ w.grownBy w' (Value.slice b zs.length c).ownBlock := by
  rcases h.2 with ⟨e, h0⟩ | ⟨g, cap, cur, e, hg, hb, hc, _⟩
  · injection e with e1 e2 e3
    subst e1 e3
    rw [h0]
    clear h
    go_enter Try.func55, Try.ntmps55
    go_wp2
    go_rounds 1
    go_ret
    exact ⟨ret_int (by simp), OwnI.nil _ _, g_of (Below.refl _ _) _⟩
  · injection e with e1 e2 e3
    subst e1 e3
    have H := Lib.hid h
    clear h hb
    go_enter Try.func55, Try.ntmps55
    go_wp2
    go_loopw [1, 5] (fun k i wr => ∃ j : Nat, j ≤ zs.length ∧ i = .int .i64 j ∧ k = .int .i64 (s + (j : Int)) ∧ Hid (wr.ownsRow base 3 1 (.slice (some ⟨g, 0, none⟩) zs.length c) zs.length ((markK s zs j).map (Value.int .i64)) ∧ w.grownBy wr (some g))) (fun _ i _ => zs.length - (intOf i).toNat)
    case atStart => exact ⟨0, Nat.zero_le _, rfl, (by simp), by rw [markK_zero]; exact H.out, g_of (Below.refl _ _) _⟩
    case round =>
      obtain ⟨j, hj, rfl, rfl, HO⟩ := hrel
      by_cases hlt : j < zs.length
      · have hl := markK_len (s := s) hj
        have hd := World.ownsRow.cellAt HO.out.1 j (by omega)
        rw [List.getElem?_map, List.getElem?_eq_getElem (by omega)] at hd
        have hf := World.ownsRow.frozenAt HO.out.1 j
        have hs := World.ownsRow.stored HO.out.1 j (.int .i64 (s + (j : Int)))
        rw [vals_set, markK_succ hlt] at hs
        have HS : Hid ((wr.setCell ⟨g, j, none⟩ (.int .i64 (s + (j : Int)))).ownsRow base 3 1 (.slice (some ⟨g, 0, none⟩) zs.length c) zs.length ((markK s zs (j + 1)).map (Value.int .i64)) ∧ w.grownBy (wr.setCell ⟨g, j, none⟩ (.int .i64 (s + (j : Int)))) (some g)) := ⟨hs.1, g_set2 HO.out.2⟩
        simp only [Option.map_some] at hd
        generalize (markK s zs j)[j] = z at hd
        clear hs hl HO
        go_wp2
        go_roundw
        case rel => exact ⟨j + 1, by omega, by go_num, by go_num, HS.out⟩
        case measure => simp [intOf]; omega
      · obtain rfl : j = zs.length := by omega
        have HE : Hid (OwnI wr base (.slice (some ⟨g, 0, none⟩) zs.length c) (marksK s zs.length)) := by
          have := HO.out.1
          rw [markK_end] at this
          show _
          unfold OwnI
          rw [marksK_len]; exact this
        go_wp2
        go_ret
        exact ⟨ret_int rfl, HE.out, HO.out.2⟩
set_option maxHeartbeats 1000000 in
theorem hkIO (s : Int) (s0 : 0 ≤ s) (s1 : s ≤ 1000000000000) (b : Option Addr) (c n base : Nat) (w : World) (h : OwnI w base (.slice b n c) (marksK s n)) (hn : n ≤ 1048576) :
    Calls Try.prog 56 #[.slice b n c, .int .i64 s] w fun e w' => e = .returned (.int .i64 (s + (n : Int))) ∧ w = w' := by
  rcases h.at_ with h0 | ⟨g, o, rfl, hc⟩
  · have h1 := h.len_
    rw [h0] at h1
    obtain rfl : n = 0 := by simpa using h1
    clear h1 h0 h
    go_enter Try.func56, Try.ntmps56
    go_wp2
    go_rounds 1
    go_ret
    exact ⟨ret_int (by simp), rfl⟩
  · have HC := Lib.hid hc
    clear hc h
    go_enter Try.func56, Try.ntmps56
    go_wp2
    go_loop [1, 5] (fun k i => ∃ j : Nat, j ≤ n ∧ i = .int .i64 j ∧ k = .int .i64 (s + (j : Int))) (fun _ i => n - (intOf i).toNat)
    case atStart => exact ⟨0, Nat.zero_le _, rfl, (by simp)⟩
    case round =>
      obtain ⟨j, hj, rfl, rfl⟩ := hrel
      by_cases hlt : j < n
      · have hd := HC.out j (by rw [marksK_len]; exact hlt)
        rw [marksK_get s n hlt] at hd
        go_wp2
        go_round
        case rel => exact ⟨j + 1, by omega, by go_num, by go_num⟩
        case measure => simp [intOf]; omega
      · go_wp2
        go_ret
        exact ⟨ret_int (by omega), rfl⟩
theorem rowC_set : ∀ (es : List Ev) (V : List Value), V.length = es.length → ∀ (k q : Nat) (u : Value) (x : Ev), k < es.length → q < 9 → evC (V.getD k undef) x = (evC (V.getD k undef) (es.getD k ev0)).set q u → (rowC V es).set (k * 9 + q) u = rowC V (es.set k x) := by
  intro es
  induction es with
  | nil => intro V _ k _ _ _ hk _ _; exact absurd hk (Nat.not_lt_zero _)
  | cons y t ih =>
    intro V hV k q u x hk hq he
    match V, hV with
    | v :: r, hV =>
    have hr : r.length = t.length := by simpa using hV
    have e : rowC (v :: r) (y :: t) = evC v y ++ rowC r t := rfl
    rw [e]
    cases k with
    | zero =>
      rw [Nat.zero_mul, Nat.zero_add, List.set_append_left _ _ (by show q < 9; exact hq)]
      have e2 : evC v x = (evC v y).set q u := he
      rw [← e2]; rfl
    | succ k =>
      rw [List.set_append_right _ _ (by show 9 ≤ _; omega), show (k + 1) * 9 + q - (evC v y).length = k * 9 + q from by show (k + 1) * 9 + q - 9 = _; omega, ih r hr k q u x (by simpa using hk) hq he]
      rfl
theorem rowC_same : ∀ (es : List Ev) (V : List Value), V.length = es.length → ∀ (k : Nat) (x : Ev), k < es.length → evC (V.getD k undef) x = evC (V.getD k undef) (es.getD k ev0) → rowC V (es.set k x) = rowC V es := by
  intro es V hV k x hk he
  have h := rowC_set es V hV k 0 (.int .i64 x.k) x hk (by omega) (by
    rw [he]
    have := congrArg (fun l => l[0]?) he
    have e2 : (Value.int .i64 x.k) = .int .i64 (es.getD k ev0).k := by simpa [evC] using this
    rw [e2]; rfl)
  rw [← h]
  refine List.ext_getElem? fun i => ?_
  rw [List.getElem?_set]
  split
  · rename_i hi
    subst hi
    have := rowC_get es V hV k 0 hk (by omega)
    rw [← he] at this
    have hs : (rowC V es)[k * 9 + 0]? = some (.int .i64 x.k) := this
    rw [if_pos (List.getElem?_eq_some_iff.1 hs).1, hs]
  · rfl
theorem getD_set {α : Type} (l : List α) (k j : Nat) (a d : α) (hk : k < l.length) : (l.set k a).getD j d = if j = k then a else l.getD j d := by
  rw [List.getD_eq_getElem?_getD, List.getD_eq_getElem?_getD, List.getElem?_set]
  by_cases h : k = j
  · subst h; rw [if_pos rfl, if_pos hk, if_pos rfl]; rfl
  · rw [if_neg h, if_neg (fun c => h c.symm)]
/-- a number is stored into the row -/
theorem OwnEs.store {w : World} {base g n c : Nat} {ES : List Ev} {V : List Value} (h : OwnEs w base (.slice (some ⟨g, 0, none⟩) n c) ES V) {k q : Nat} (hk : k < ES.length) (hq : q < 9) (u : Value) (x : Ev) (he : evC (V.getD k undef) x = (evC (V.getD k undef) (ES.getD k ev0)).set q u) (hx : x.dd.zs = (ES.getD k ev0).dd.zs) : OwnEs (w.setCell ⟨g, k * 9 + q, none⟩ u) base (.slice (some ⟨g, 0, none⟩) n c) (ES.set k x) V := by
  have hn : n = ES.length := by
    obtain ⟨b, k', e⟩ := h.forms
    injection e
  subst hn
  refine ⟨by rw [List.length_set]; exact h.len, ?_, fun j hj => ?_, fun i j hij hj => h.sep i j hij (by rw [List.length_set] at hj; exact hj)⟩
  · rw [List.length_set, ← rowC_set ES V h.len k q u x hk hq he]
    exact (World.ownsRow.stored h.row (k * 9 + q) u).1
  · rw [List.length_set] at hj
    have hf : (V.getD j undef).ownBlock ≠ some g := by
      rcases own_ne (h.own j hj) h.row (by decide) with e | e
      · rw [e]; intro c; cases c
      · exact e
    have e : ((ES.set k x).getD j ev0).dd.zs = (ES.getD j ev0).dd.zs := by
      rw [getD_set _ _ _ _ _ hk]
      by_cases hjk : j = k
      · subst hjk; rw [if_pos rfl]; exact hx
      · rw [if_neg hjk]
    rw [e]
    exact (h.own j hj).far hf u
/-- heirs are marked -/
theorem OwnEs.heirs {w w' : World} {base : Nat} {v : Value} {ES : List Ev} {V : List Value} (h : OwnEs w base v ES V) {k : Nat} (hk : k < ES.length) (x : Ev) (he : evC (V.getD k undef) x = evC (V.getD k undef) (ES.getD k ev0)) (hO : OwnI w' base (V.getD k undef) x.dd.zs) (hg : w.grownBy w' (V.getD k undef).ownBlock) : OwnEs w' base v (ES.set k x) V := by
  refine ⟨by rw [List.length_set]; exact h.len, ?_, fun j hj => ?_, fun i j hij hj => h.sep i j hij (by rw [List.length_set] at hj; exact hj)⟩
  · rw [List.length_set, rowC_same ES V h.len k x hk he]
    exact World.ownsRow.kept h.row hg (own_ne h.row (h.own k hk) (by decide))
  · rw [List.length_set] at hj
    rw [getD_set _ _ _ _ _ hk]
    by_cases hjk : j = k
    · subst hjk; rw [if_pos rfl]; exact hO
    · rw [if_neg hjk]
      refine World.ownsRow.kept (h.own j hj) hg ?_
      by_cases h1 : (V.getD j undef).ownBlock = none
      · exact .inl h1
      · right
        intro c
        obtain ⟨p, hp⟩ := Option.ne_none_iff_exists'.1 h1
        have hp2 := hp
        rw [c] at hp2
        rcases Nat.lt_or_gt_of_ne hjk with q | q
        · exact Nat.lt_irrefl _ (h.sep j k q hk p p hp hp2)
        · exact Nat.lt_irrefl _ (h.sep k j q hj p p hp2 hp)
/-- the counter behind an event, its marks -/
def nxK (s : Int) (x : Ev) : Int := s + 1 + 1 + 1 + 1 + 1 + 1 + (x.dd.zs.length : Int) + 1 + 1
def mkX (s : Int) (x : Ev) : Ev := ⟨s, ⟨s + 1, s + 1 + 1, s + 1 + 1 + 1, s + 1 + 1 + 1 + 1, s + 1 + 1 + 1 + 1 + 1, marksK (s + 1 + 1 + 1 + 1 + 1 + 1) x.dd.zs.length⟩, s + 1 + 1 + 1 + 1 + 1 + 1 + (x.dd.zs.length : Int), s + 1 + 1 + 1 + 1 + 1 + 1 + (x.dd.zs.length : Int) + 1⟩
def sK (es : List Ev) : Nat → Int
  | 0 => 1
  | k + 1 => nxK (sK es k) (es.getD k ev0)
def mixE (es : List Ev) (k : Nat) : List Ev := (List.range es.length).map fun j => if j < k then mkX (sK es j) (es.getD j ev0) else es.getD j ev0
theorem mixE_len (es : List Ev) (k : Nat) : (mixE es k).length = es.length := by unfold mixE; simp
theorem mixE_get (es : List Ev) (k : Nat) {j : Nat} (h : j < es.length) : (mixE es k).getD j ev0 = if j < k then mkX (sK es j) (es.getD j ev0) else es.getD j ev0 := by
  unfold mixE
  rw [List.getD_eq_getElem?_getD, List.getElem?_map, List.getElem?_range h]; rfl
theorem mixE_zero (es : List Ev) : mixE es 0 = es := by
  refine List.ext_getElem? fun i => ?_
  by_cases h : i < es.length
  · unfold mixE
    rw [List.getElem?_map, List.getElem?_range h, List.getElem?_eq_getElem h]
    simp [List.getD_eq_getElem?_getD, List.getElem?_eq_getElem h]
  · rw [List.getElem?_eq_none (by rw [mixE_len]; omega), List.getElem?_eq_none (by omega)]
theorem mixE_succ (es : List Ev) {k : Nat} (h : k < es.length) : (mixE es k).set k (mkX (sK es k) (es.getD k ev0)) = mixE es (k + 1) := by
  refine List.ext_getElem? fun i => ?_
  by_cases hi : i < es.length
  · rw [List.getElem?_set]
    unfold mixE
    by_cases e : k = i
    · subst e
      rw [if_pos rfl, if_pos (by simp; exact h), List.getElem?_map, List.getElem?_range h]
      simp
    · rw [if_neg e, List.getElem?_map, List.getElem?_map, List.getElem?_range hi]
      by_cases q : i < k
      · simp [q, show i < k + 1 by omega]
      · simp [q, show ¬ i < k + 1 by omega]
  · rw [List.getElem?_eq_none (by rw [List.length_set, mixE_len]; omega), List.getElem?_eq_none (by rw [mixE_len]; omega)]
theorem sK_bd (es : List Ev) (h : ∀ j, j < es.length → (es.getD j ev0).dd.zs.length ≤ 12) : ∀ k, k ≤ es.length → 1 ≤ sK es k ∧ sK es k ≤ 1 + 20 * (k : Int) := by
  intro k
  induction k with
  | zero => intro _; exact ⟨by simp [sK], by simp [sK]⟩
  | succ k ih =>
    intro hk
    have i := ih (by omega)
    have b := h k (by omega)
    show 1 ≤ nxK (sK es k) (es.getD k ev0) ∧ nxK (sK es k) (es.getD k ev0) ≤ _
    unfold nxK
    omega
/-- six numbers are stored -/
theorem OwnEs.six {w : World} {base g n c : Nat} {ES : List Ev} {V : List Value} (h : OwnEs w base (.slice (some ⟨g, 0, none⟩) n c) ES V) {k : Nat} (hk : k < ES.length) (s : Int) (x : Ev) (hx : ES.getD k ev0 = x) : OwnEs (World.setCell (World.setCell (World.setCell (World.setCell (World.setCell (World.setCell (w) ⟨g, k * 9, none⟩ (.int .i64 (s))) ⟨g, k * 9 + 1, none⟩ (.int .i64 (s + 1))) ⟨g, k * 9 + 2, none⟩ (.int .i64 (s + 1 + 1))) ⟨g, k * 9 + 3, none⟩ (.int .i64 (s + 1 + 1 + 1))) ⟨g, k * 9 + 4, none⟩ (.int .i64 (s + 1 + 1 + 1 + 1))) ⟨g, k * 9 + 5, none⟩ (.int .i64 (s + 1 + 1 + 1 + 1 + 1))) base (.slice (some ⟨g, 0, none⟩) n c) (ES.set k ⟨s, ⟨s + 1, s + 1 + 1, s + 1 + 1 + 1, s + 1 + 1 + 1 + 1, s + 1 + 1 + 1 + 1 + 1, x.dd.zs⟩, x.at_, x.nu⟩) V := by
  have a0 := h.store hk (q := 0) (by omega) (.int .i64 (s)) ⟨s, ⟨x.dd.k, x.dd.o, x.dd.t, x.dd.n, x.dd.d, x.dd.zs⟩, x.at_, x.nu⟩ (by rw [hx]; rfl) (by rw [hx])
  have a1 := a0.store (k := k) (q := 1) (by rw [List.length_set]; exact hk) (by omega) (.int .i64 (s + 1)) ⟨s, ⟨s + 1, x.dd.o, x.dd.t, x.dd.n, x.dd.d, x.dd.zs⟩, x.at_, x.nu⟩ (by rw [getD_set _ _ _ _ _ hk, if_pos rfl]; rfl) (by rw [getD_set _ _ _ _ _ hk, if_pos rfl])
  rw [List.set_set] at a1
  have a2 := a1.store (k := k) (q := 2) (by rw [List.length_set]; exact hk) (by omega) (.int .i64 (s + 1 + 1)) ⟨s, ⟨s + 1, s + 1 + 1, x.dd.t, x.dd.n, x.dd.d, x.dd.zs⟩, x.at_, x.nu⟩ (by rw [getD_set _ _ _ _ _ hk, if_pos rfl]; rfl) (by rw [getD_set _ _ _ _ _ hk, if_pos rfl])
  rw [List.set_set] at a2
  have a3 := a2.store (k := k) (q := 3) (by rw [List.length_set]; exact hk) (by omega) (.int .i64 (s + 1 + 1 + 1)) ⟨s, ⟨s + 1, s + 1 + 1, s + 1 + 1 + 1, x.dd.n, x.dd.d, x.dd.zs⟩, x.at_, x.nu⟩ (by rw [getD_set _ _ _ _ _ hk, if_pos rfl]; rfl) (by rw [getD_set _ _ _ _ _ hk, if_pos rfl])
  rw [List.set_set] at a3
  have a4 := a3.store (k := k) (q := 4) (by rw [List.length_set]; exact hk) (by omega) (.int .i64 (s + 1 + 1 + 1 + 1)) ⟨s, ⟨s + 1, s + 1 + 1, s + 1 + 1 + 1, s + 1 + 1 + 1 + 1, x.dd.d, x.dd.zs⟩, x.at_, x.nu⟩ (by rw [getD_set _ _ _ _ _ hk, if_pos rfl]; rfl) (by rw [getD_set _ _ _ _ _ hk, if_pos rfl])
  rw [List.set_set] at a4
  have a5 := a4.store (k := k) (q := 5) (by rw [List.length_set]; exact hk) (by omega) (.int .i64 (s + 1 + 1 + 1 + 1 + 1)) ⟨s, ⟨s + 1, s + 1 + 1, s + 1 + 1 + 1, s + 1 + 1 + 1 + 1, s + 1 + 1 + 1 + 1 + 1, x.dd.zs⟩, x.at_, x.nu⟩ (by rw [getD_set _ _ _ _ _ hk, if_pos rfl]; rfl) (by rw [getD_set _ _ _ _ _ hk, if_pos rfl])
  rw [List.set_set] at a5
  exact a5
theorem OwnEs.two {w : World} {base g n c : Nat} {ES : List Ev} {V : List Value} (h : OwnEs w base (.slice (some ⟨g, 0, none⟩) n c) ES V) {k : Nat} (hk : k < ES.length) (a b : Int) (x : Ev) (hx : ES.getD k ev0 = x) : OwnEs (World.setCell (World.setCell w ⟨g, k * 9 + 7, none⟩ (.int .i64 a)) ⟨g, k * 9 + 8, none⟩ (.int .i64 b)) base (.slice (some ⟨g, 0, none⟩) n c) (ES.set k ⟨x.k, x.dd, a, b⟩) V := by
  have a0 := h.store hk (q := 7) (by omega) (.int .i64 a) ⟨x.k, x.dd, a, x.nu⟩ (by rw [hx]; rfl) (by rw [hx])
  have a1 := a0.store (k := k) (q := 8) (by rw [List.length_set]; exact hk) (by omega) (.int .i64 b) ⟨x.k, x.dd, a, b⟩ (by rw [getD_set _ _ _ _ _ hk, if_pos rfl]; rfl) (by rw [getD_set _ _ _ _ _ hk, if_pos rfl])
  rw [List.set_set] at a1
  exact a1
theorem below_row {w0 w : World} {base g : Nat} {p : Addr} {u : Value} (hb : w0.heap.size ≤ base) (hg : base ≤ p.block) (h : Below w0.heap.size w0 w) : Below w0.heap.size w0 (w.setCell p u) := h.setCell (Nat.le_trans hb hg) u
/-- what the marks leave -/
def MarkedEs (base : Nat) (v : Value) (es : List Ev) (V : List Value) (w : World) (e : Ending) (w' : World) : Prop := e = .returned (.int .i64 (sK es es.length)) ∧ OwnEs w' base v (mixE es es.length) V ∧ ∀ W0 : World, W0.heap.size ≤ base → Below W0.heap.size W0 w → Below W0.heap.size W0 w'
set_option maxRecDepth 100000 in
set_option maxHeartbeats 6000000 in
/-- laws.markEventS from 1 on -/
theorem lmarkEs (b : Option Addr) (c base : Nat) (es : List Ev) (V : List Value) (w : World) (h : OwnEs w base (.slice b es.length c) es V) (hn : es.length ≤ 60) (hz : ∀ j, j < es.length → (es.getD j ev0).dd.zs.length ≤ 12) :
    Calls Try.prog 29 #[.slice b es.length c, .int .i64 1] w (MarkedEs base (.slice b es.length c) es V w) := by
  have HZ := Lib.hid hz
  have HSB := Lib.hid (sK_bd es hz)
  have H0 := Lib.hid h
  have hlen := h.len
  clear h hz
  go_enter Try.func29, Try.ntmps29
  go_wp2_with fail
  go_loopw [1, 5] (fun q i wr => ∃ k : Nat, k ≤ es.length ∧ i = .int .i64 (k : Int) ∧ q = .int .i64 (sK es k) ∧ Hid (OwnEs wr base (.slice b es.length c) (mixE es k) V ∧ ∀ W0 : World, W0.heap.size ≤ base → Below W0.heap.size W0 w → Below W0.heap.size W0 wr)) (fun _ i _ => es.length - (intOf i).toNat)
  case atStart => exact ⟨0, Nat.zero_le _, rfl, rfl, ⟨by rw [mixE_zero]; exact H0.out, fun _ _ a => a⟩⟩
  case round =>
    obtain ⟨k, hk, rfl, rfl, HI⟩ := hrel
    by_cases hlt : k < es.length
    · have hO := HI.out.1
      have hml : k < (mixE es k).length := by rw [mixE_len]; exact hlt
      obtain ⟨g, rfl, hbg⟩ : ∃ g, b = some ⟨g, 0, none⟩ ∧ base ≤ g := by
        rcases hO.row.2 with ⟨e, h0⟩ | ⟨g, cap, cur, e, hg, _⟩
        · rw [h0] at hml; exact absurd hml (Nat.not_lt_zero _)
        · injection e with e1 e2 e3; exact ⟨g, e1, hg⟩
      have hx : (mixE es k).getD k ev0 = es.getD k ev0 := by rw [mixE_get _ _ hlt, if_neg (Nat.lt_irrefl _)]
      have hown := hO.own k hml
      rw [hx] at hown
      have cell : ∀ q, q < 9 → wr.cell? ⟨g, k * 9 + q, none⟩ = (evC (V.getD k undef) (es.getD k ev0))[q]? := fun q hq => by
        have hrow := hO.row
        rw [mixE_len] at hrow
        rw [World.ownsRow.cellAt hrow (k * 9 + q) (by omega), rowC_get _ V hO.len k q hml hq, hx]
      have hs := (HSB.out k hk).1
      have hs2 := (HSB.out k hk).2
      have hzk := HZ.out k hlt
      obtain ⟨A, cz, hv, _⟩ := hown.ints
      have hO6 := hO.six hml (sK es k) (es.getD k ev0) hx
      have HMX := Lib.hid (mixE_succ es hlt)
      have HSN : Hid (sK es (k + 1) = nxK (sK es k) (es.getD k ev0)) := Lib.hid rfl
      rw [hv] at cell
      have c0 := cell 0 (by omega)
      have c1 := cell 1 (by omega)
      have c2 := cell 2 (by omega)
      have c3 := cell 3 (by omega)
      have c4 := cell 4 (by omega)
      have c5 := cell 5 (by omega)
      have c6 := cell 6 (by omega)
      have c7 := cell 7 (by omega)
      have c8 := cell 8 (by omega)
      rw [Nat.add_zero] at c0
      unfold evC at c0 c1 c2 c3 c4 c5 c6 c7 c8
      simp only [List.getElem?_cons_zero, List.getElem?_cons_succ] at c0 c1 c2 c3 c4 c5 c6 c7 c8
      have fz := World.ownsRow.frozenAt (show wr.ownsRow base 35 9 (.slice (some ⟨g, 0, none⟩) es.length c) es.length (rowC V (mixE es k)) by have := hO.row; rw [mixE_len] at this; exact this)
      have hVk := hv
      generalize es.getD k ev0 = x at *
      generalize sK es k = s at *
      have k0 : (0 : Int) ≤ (k : Int) := by omega
      have k1 : (k : Int) < (es.length : Int) := by omega
      have f0 := fz (k * 9)
      have f1 := fz (k * 9 + 1)
      have f2 := fz (k * 9 + 2)
      have f3 := fz (k * 9 + 3)
      have f4 := fz (k * 9 + 4)
      have f5 := fz (k * 9 + 5)
      have f6 := fz (k * 9 + 6)
      have f7 := fz (k * 9 + 7)
      have f8 := fz (k * 9 + 8)
      have HS6 := Lib.hid (fun (W0 : World) (h0 : W0.heap.size ≤ base) (hB : Below W0.heap.size W0 w) => (show Below W0.heap.size W0 (World.setCell (World.setCell (World.setCell (World.setCell (World.setCell (World.setCell (wr) ⟨g, k * 9, none⟩ (.int .i64 (s))) ⟨g, k * 9 + 1, none⟩ (.int .i64 (s + 1))) ⟨g, k * 9 + 2, none⟩ (.int .i64 (s + 1 + 1))) ⟨g, k * 9 + 3, none⟩ (.int .i64 (s + 1 + 1 + 1))) ⟨g, k * 9 + 4, none⟩ (.int .i64 (s + 1 + 1 + 1 + 1))) ⟨g, k * 9 + 5, none⟩ (.int .i64 (s + 1 + 1 + 1 + 1 + 1))) from ((((((HI.out.2 W0 h0 hB).setCell (p := ⟨g, _, none⟩) (Nat.le_trans h0 hbg) _).setCell (p := ⟨g, _, none⟩) (Nat.le_trans h0 hbg) _).setCell (p := ⟨g, _, none⟩) (Nat.le_trans h0 hbg) _).setCell (p := ⟨g, _, none⟩) (Nat.le_trans h0 hbg) _).setCell (p := ⟨g, _, none⟩) (Nat.le_trans h0 hbg) _).setCell (p := ⟨g, _, none⟩) (Nat.le_trans h0 hbg) _))
      have HO6 := Lib.hid hO6
      have HVK := Lib.hid hVk
      clear hO hO6 hown cell fz hx hv hVk HI
      go_wp2_with fail
      generalize World.setCell (World.setCell (World.setCell (World.setCell (World.setCell (World.setCell (wr) ⟨g, k * 9, none⟩ (.int .i64 (s))) ⟨g, k * 9 + 1, none⟩ (.int .i64 (s + 1))) ⟨g, k * 9 + 2, none⟩ (.int .i64 (s + 1 + 1))) ⟨g, k * 9 + 3, none⟩ (.int .i64 (s + 1 + 1 + 1))) ⟨g, k * 9 + 4, none⟩ (.int .i64 (s + 1 + 1 + 1 + 1))) ⟨g, k * 9 + 5, none⟩ (.int .i64 (s + 1 + 1 + 1 + 1 + 1)) = u1 at HO6 HS6 ⊢
      have ho1 := HO6.out.own k (by rw [List.length_set]; exact hml)
      rw [getD_set _ _ _ _ _ hml, if_pos rfl, HVK.out] at ho1
      refine (mkIO (s + 1 + 1 + 1 + 1 + 1 + 1) (by omega) (by omega) A cz base x.dd.zs u1 ho1 (by omega)).mono ?_
      rintro e u2 ⟨rfl, M, G⟩
      have HO7 := HO6.out.heirs (k := k) (by rw [List.length_set]; exact hml) ⟨s, ⟨s + 1, s + 1 + 1, s + 1 + 1 + 1, s + 1 + 1 + 1 + 1, s + 1 + 1 + 1 + 1 + 1, marksK (s + 1 + 1 + 1 + 1 + 1 + 1) x.dd.zs.length⟩, x.at_, x.nu⟩ (by rw [getD_set _ _ _ _ _ hml, if_pos rfl]; rfl) (by rw [HVK.out]; exact M) (by rw [HVK.out]; exact G)
      rw [List.set_set] at HO7
      have hrow2 := HO7.row
      rw [List.length_set, mixE_len] at hrow2
      have cell2 : ∀ q, q < 9 → u2.cell? ⟨g, k * 9 + q, none⟩ = (evC (V.getD k undef) (⟨s, ⟨s + 1, s + 1 + 1, s + 1 + 1 + 1, s + 1 + 1 + 1 + 1, s + 1 + 1 + 1 + 1 + 1, marksK (s + 1 + 1 + 1 + 1 + 1 + 1) x.dd.zs.length⟩, x.at_, x.nu⟩))[q]? := fun q hq => by
        rw [World.ownsRow.cellAt hrow2 (k * 9 + q) (by omega), rowC_get _ V HO7.len k q (by rw [List.length_set]; exact hml) hq, getD_set _ _ _ _ _ hml, if_pos rfl]
      have c7 := cell2 7 (by omega)
      have c8 := cell2 8 (by omega)
      unfold evC at c7 c8
      simp only [List.getElem?_cons_zero, List.getElem?_cons_succ] at c7 c8
      have f7 := World.ownsRow.frozenAt hrow2 (k * 9 + 7)
      have f8 := World.ownsRow.frozenAt hrow2 (k * 9 + 8)
      have hO9 := HO7.two (k := k) (by rw [List.length_set]; exact hml) (s + 1 + 1 + 1 + 1 + 1 + 1 + (x.dd.zs.length : Int)) (s + 1 + 1 + 1 + 1 + 1 + 1 + (x.dd.zs.length : Int) + 1) _ (by rw [getD_set _ _ _ _ _ hml, if_pos rfl])
      rw [List.set_set] at hO9
      have HO9 := Lib.hid hO9
      have HS9 := Lib.hid (fun (W0 : World) (h0 : W0.heap.size ≤ base) (hB : Below W0.heap.size W0 w) => (show Below W0.heap.size W0 (World.setCell (World.setCell u2 ⟨g, k * 9 + 7, none⟩ (.int .i64 (s + 1 + 1 + 1 + 1 + 1 + 1 + (x.dd.zs.length : Int)))) ⟨g, k * 9 + 8, none⟩ (.int .i64 (s + 1 + 1 + 1 + 1 + 1 + 1 + (x.dd.zs.length : Int) + 1))) from ((below_gv (HS6.out W0 h0 hB) G (fun q hq => Nat.le_trans h0 (ho1.grow q hq))).setCell (p := ⟨g, _, none⟩) (Nat.le_trans h0 hbg) _).setCell (p := ⟨g, _, none⟩) (Nat.le_trans h0 hbg) _))
      clear HO6 HS6 ho1 M G HO7 hrow2 cell2 hO9 c0 c1 c2 c3 c4 c5 c6 f0 f1 f2 f3 f4 f5 f6
      go_wp2_with fail
      go_roundw
      case rel => exact ⟨k + 1, by omega, by go_num, by rw [HSN.out]; rfl, by rw [← HMX.out]; exact HO9.out, HS9.out⟩
      case measure => simp [intOf]; omega
    · obtain rfl : k = es.length := by omega
      go_wp2_with fail
      go_ret
      exact ⟨rfl, HI.out.1, HI.out.2⟩
set_option maxRecDepth 100000 in
set_option maxHeartbeats 6000000 in
/-- laws.heldEventS from 1 on -/
theorem lheldEs (b : Option Addr) (c base : Nat) (es : List Ev) (V : List Value) (w : World) (h : OwnEs w base (.slice b es.length c) (mixE es es.length) V) (hn : es.length ≤ 60) (hz : ∀ j, j < es.length → (es.getD j ev0).dd.zs.length ≤ 12) :
    Calls Try.prog 30 #[.slice b es.length c, .int .i64 1] w fun e w' => e = .returned (.int .i64 (sK es es.length)) ∧ w = w' := by
  have HZ := Lib.hid hz
  have HSB := Lib.hid (sK_bd es hz)
  have H0 := Lib.hid h
  clear h hz
  go_enter Try.func30, Try.ntmps30
  go_wp2_with fail
  go_loop [1, 5] (fun q i => ∃ k : Nat, k ≤ es.length ∧ i = .int .i64 (k : Int) ∧ q = .int .i64 (sK es k)) (fun _ i => es.length - (intOf i).toNat)
  case atStart => exact ⟨0, Nat.zero_le _, rfl, rfl⟩
  case round =>
    obtain ⟨k, hk, rfl, rfl⟩ := hrel
    by_cases hlt : k < es.length
    · have hO := H0.out
      have hml : k < (mixE es es.length).length := by rw [mixE_len]; exact hlt
      obtain ⟨g, rfl, hbg⟩ : ∃ g, b = some ⟨g, 0, none⟩ ∧ base ≤ g := by
        rcases hO.row.2 with ⟨e, h0⟩ | ⟨g, cap, cur, e, hg, _⟩
        · rw [h0] at hml; exact absurd hml (Nat.not_lt_zero _)
        · injection e with e1 e2 e3; exact ⟨g, e1, hg⟩
      have hx : (mixE es es.length).getD k ev0 = mkX (sK es k) (es.getD k ev0) := by rw [mixE_get _ _ hlt, if_pos hlt]
      have hown := hO.own k hml
      rw [hx] at hown
      have cell : ∀ q, q < 9 → w.cell? ⟨g, k * 9 + q, none⟩ = (evC (V.getD k undef) (mkX (sK es k) (es.getD k ev0)))[q]? := fun q hq => by
        have hrow := hO.row
        rw [mixE_len] at hrow
        rw [World.ownsRow.cellAt hrow (k * 9 + q) (by omega), rowC_get _ V hO.len k q hml hq, hx]
      have hs := (HSB.out k hk).1
      have hs2 := (HSB.out k hk).2
      have hzk := HZ.out k hlt
      obtain ⟨A, cz, hv, _⟩ := hown.ints
      have HSN : Hid (sK es (k + 1) = nxK (sK es k) (es.getD k ev0)) := Lib.hid rfl
      rw [hv] at cell hown
      have c0 := cell 0 (by omega)
      have c1 := cell 1 (by omega)
      have c2 := cell 2 (by omega)
      have c3 := cell 3 (by omega)
      have c4 := cell 4 (by omega)
      have c5 := cell 5 (by omega)
      have c6 := cell 6 (by omega)
      have c7 := cell 7 (by omega)
      have c8 := cell 8 (by omega)
      rw [Nat.add_zero] at c0
      generalize es.getD k ev0 = x at *
      generalize sK es k = s at *
      have hm6 : (mkX s x).dd.zs = marksK (s + 1 + 1 + 1 + 1 + 1 + 1) x.dd.zs.length := rfl
      rw [hm6] at hown c0 c1 c2 c3 c4 c5 c6 c7 c8
      rw [marksK_len] at hown c0 c1 c2 c3 c4 c5 c6 c7 c8
      unfold evC mkX at c0 c1 c2 c3 c4 c5 c6 c7 c8
      simp only [List.getElem?_cons_zero, List.getElem?_cons_succ] at c0 c1 c2 c3 c4 c5 c6 c7 c8
      have k0 : (0 : Int) ≤ (k : Int) := by omega
      have k1 : (k : Int) < (es.length : Int) := by omega
      have CH := Lib.hid (hkIO (s + 1 + 1 + 1 + 1 + 1 + 1) (by omega) (by omega) A cz x.dd.zs.length base w hown (by omega))
      have nn : ¬ s + 1 + 1 + 1 + 1 + 1 + 1 + (x.dd.zs.length : Int) < 0 := by omega
      have nd : decide (s + 1 + 1 + 1 + 1 + 1 + 1 + (x.dd.zs.length : Int) < 0) = false := decide_eq_false nn
      clear hO hown cell hx hv hm6
      go_wp2_with fail
      refine CH.out.mono ?_
      rintro e w' ⟨rfl, rfl⟩
      go_wp2_with fail
      go_round
      case rel => exact ⟨k + 1, by omega, by go_num, by rw [HSN.out]; rfl⟩
      case measure => simp [intOf]; omega
    · obtain rfl : k = es.length := by omega
      go_wp2_with fail
      go_ret
      exact ⟨rfl, rfl⟩
end Go.Proofs.Ythagafkjlecagaa
