/- What the laws on rotations want (pure). No condition but those stated. -/
import Derived.Test.YthkeopkehjkpeaaTurnQ
import Derived.Test.YthkeopkehjkpeaaMerge
import Derived.Test.YthkeopkehjkpeaaRota
namespace Go.Proofs.Ythkeopkehjkpeaa
open Go.RowKit
theorem wf_small {n : Int} (h : -1000000 ≤ n ∧ n ≤ 1000000) : (Lit.int .i64 n).wf = true := by
  have e1 : IntKind.i64.min = -9223372036854775808 := by decide +kernel
  have e2 : IntKind.i64.max = 9223372036854775807 := by decide +kernel
  show (decide (IntKind.i64.min ≤ n) && decide (n ≤ IntKind.i64.max)) = true
  rw [e1, e2, decide_eq_true (by omega : (-9223372036854775808 : Int) ≤ n), decide_eq_true (by omega : n ≤ 9223372036854775807)]; rfl
theorem keepOne {W wq v : World} {u : Value} {q : Addr} (hb : Below W.heap.size W wq) (h : W.cell? q = some u ∧ Below v.heap.size v W) : wq.cell? q = some u ∧ Below v.heap.size v wq :=
  ⟨(hb.cell (World.block_lt_of_cell? W _ h.1)).trans h.1, bel_tr h.2 hb⟩
theorem start_yes {ts : List Tn} {i : Int} (h : ¬ startV ts i = -1) : ∃ k : Nat, i = (k : Int) ∧ k < ts.length ∧ vtB ts = true ∧ startV ts (k : Int) = sumT (ts.take k) := by
  have e : (vtB ts && (decide (0 ≤ i) && decide (i < (ts.length : Int)))) = true := by
    cases c : (vtB ts && (decide (0 ≤ i) && decide (i < (ts.length : Int)))) with
    | true => rfl
    | false => exact absurd (by unfold startV; rw [c]; rfl) h
  have e2 := e
  simp only [Bool.and_eq_true, decide_eq_true_eq] at e2
  obtain ⟨k, rfl⟩ : ∃ k : Nat, i = (k : Int) := ⟨i.toNat, by omega⟩
  refine ⟨k, rfl, by omega, e2.1, ?_⟩
  unfold startV; rw [e, Int.toNat_natCast]; rfl
theorem start_at {ts : List Tn} (h : vtB ts = true) (k : Nat) : startV ts (k : Int) = if k < ts.length then sumT (ts.take k) else -1 := by
  unfold startV
  rw [h, decide_eq_true (by omega : (0 : Int) ≤ (k : Int))]
  by_cases c : k < ts.length
  · rw [if_pos c, decide_eq_true (by omega : (k : Int) < (ts.length : Int)), Int.toNat_natCast]; rfl
  · rw [if_neg c, decide_eq_false (by omega : ¬ (k : Int) < (ts.length : Int))]; rfl
/-- counts -/
theorem cnt_split (p : Int → Bool) (a : Int) (m : Nat) : ∀ n, cntF p a (m + n) = cntF p a m + cntF p (a + (m : Int)) n := by
  intro n
  induction n with
  | zero => show cntF p a m = cntF p a m + 0; omega
  | succ n ih =>
    rw [← Nat.add_assoc, cnt_succ, cnt_succ, ih, show a + ((m + n : Nat) : Int) = a + (m : Int) + (n : Int) from by omega]; omega
theorem cnt_congr {p q : Int → Bool} {a : Int} {b : Int} : ∀ m : Nat, (∀ k : Nat, k < m → p (a + (k : Int)) = q (b + (k : Int))) → cntF p a m = cntF q b m := by
  intro m
  induction m with
  | zero => intro _; rfl
  | succ m ih => intro h; rw [cnt_succ, cnt_succ, ih (fun k hk => h k (by omega)), h m (by omega)]
theorem cnt_all {p : Int → Bool} {a : Int} : ∀ m : Nat, (∀ k : Nat, k < m → p (a + (k : Int)) = true) → cntF p a m = (m : Int) := by
  intro m
  induction m with
  | zero => intro _; rfl
  | succ m ih => intro h; rw [cnt_succ, ih (fun k hk => h k (by omega)), h m (by omega), if_pos rfl]; omega
theorem cnt_none {p : Int → Bool} {a : Int} : ∀ m : Nat, (∀ k : Nat, k < m → p (a + (k : Int)) = false) → cntF p a m = 0 := by
  intro m
  induction m with
  | zero => intro _; rfl
  | succ m ih => intro h; rw [cnt_succ, ih (fun k hk => h k (by omega)), h m (by omega)]; rfl
theorem cnt_le {p q : Int → Bool} {a : Int} (h : ∀ t, p t = true → q t = true) : ∀ m : Nat, cntF p a m ≤ cntF q a m := by
  intro m
  induction m with
  | zero => exact Int.le_refl _
  | succ m ih =>
    rw [cnt_succ, cnt_succ]
    by_cases c : p (a + (m : Int)) = true
    · rw [if_pos c, if_pos (h _ c)]; omega
    · rw [if_neg c]; split <;> omega
/-- over a period it does not matter where it begins -/
theorem cnt_slide {p : Int → Bool} {P : Nat} (h : ∀ t, p (t + (P : Int)) = p t) (a : Int) : cntF p (a + 1) P = cntF p a P := by
  have e1 := cnt_split p a 1 P
  have e2 := cnt_split p a P 1
  rw [show 1 + P = P + 1 from by omega, e2] at e1
  have e3 : cntF p (a + (P : Int)) 1 = cntF p a 1 := by
    show 0 + (if p (a + (P : Int) + ((0 : Nat) : Int)) then 1 else 0) = 0 + (if p (a + ((0 : Nat) : Int)) then 1 else 0)
    rw [show a + (P : Int) + ((0 : Nat) : Int) = a + ((0 : Nat) : Int) + (P : Int) from by omega, h]
  rw [e3] at e1
  rw [show a + ((1 : Nat) : Int) = a + 1 from rfl] at e1
  omega
theorem cnt_period {p : Int → Bool} {P : Nat} (h : ∀ t, p (t + (P : Int)) = p t) : ∀ a : Nat, cntF p (a : Int) P = cntF p 0 P := by
  intro a
  induction a with
  | zero => rfl
  | succ a ih => rw [← ih, ← cnt_slide h (a : Int)]; rfl
/-- the hours of an owner's turns -/
def ownS : List Tn → Int → Int
  | [], _ => 0
  | h :: r, o => (if h.1 = o then h.2 else 0) + ownS r o
theorem ownS_snoc (a : List Tn) (x : Tn) (o : Int) : ownS (a ++ [x]) o = ownS a o + (if x.1 = o then x.2 else 0) := by
  induction a with
  | nil => show _ + (0 : Int) = 0 + _; omega
  | cons h r ih => show _ + ownS (r ++ [x]) o = _ + ownS r o + _; rw [ih]; omega
theorem ownS_succ {ts : List Tn} {k : Nat} (h : k < ts.length) (o : Int) : ownS (ts.take (k + 1)) o = ownS (ts.take k) o + (if (ts.getD k tn0).1 = o then (ts.getD k tn0).2 else 0) := by
  rw [take_snocD ts h tn0, ownS_snoc]
theorem whoT_cons (h : Tn) (r : List Tn) (t : Int) : whoT (h :: r) t = if t < h.2 then h.1 else whoT r (t - h.2) := by
  unfold whoT
  show ((h :: r).getD (if t < h.2 then 0 else idxT r (t - h.2) + 1) tn0).1 = _
  split <;> rfl
theorem own_first (o : Int) : ∀ ts : List Tn, (∀ x ∈ ts, 0 ≤ x.2) → cntF (fun n => whoT ts n == o) 0 (sumT ts).toNat = ownS ts o ∧ 0 ≤ sumT ts := by
  intro ts
  induction ts with
  | nil => intro _; exact ⟨rfl, Int.le_refl _⟩
  | cons h r ih =>
    intro hp
    have h0 := hp h (by simp)
    obtain ⟨i1, i2⟩ := ih (fun x hx => hp x (by simp [hx]))
    obtain ⟨m, hm⟩ : ∃ m : Nat, h.2 = (m : Int) := ⟨h.2.toNat, by omega⟩
    have es : (sumT (h :: r)).toNat = m + (sumT r).toNat := by show (h.2 + sumT r).toNat = _; omega
    refine ⟨?_, by show 0 ≤ h.2 + sumT r; omega⟩
    rw [es, cnt_split]
    have a : cntF (fun n => whoT (h :: r) n == o) 0 m = if h.1 = o then h.2 else 0 := by
      have hw : ∀ k : Nat, k < m → whoT (h :: r) (0 + (k : Int)) = h.1 := fun k hk => by rw [whoT_cons, if_pos (by omega)]
      by_cases c : h.1 = o
      · rw [if_pos c, cnt_all m (fun k hk => by show (whoT (h :: r) (0 + (k : Int)) == o) = true; rw [hw k hk, c]; simp)]; omega
      · rw [if_neg c, cnt_none m (fun k hk => by show (whoT (h :: r) (0 + (k : Int)) == o) = false; rw [hw k hk]; simpa using c)]
    have b : cntF (fun n => whoT (h :: r) n == o) (0 + (m : Int)) (sumT r).toNat = cntF (fun n => whoT r n == o) 0 (sumT r).toNat := cnt_congr _ (fun k _ => by
      show (whoT (h :: r) (0 + (m : Int) + (k : Int)) == o) = (whoT r (0 + (k : Int)) == o)
      rw [whoT_cons, if_neg (by omega), show 0 + (m : Int) + (k : Int) - h.2 = 0 + (k : Int) from by omega])
    rw [a, b, i1]; rfl
theorem vt_mem {ts : List Tn} (h : vtB ts = true) : ∀ x ∈ ts, 1 ≤ x.1 ∧ x.1 ≤ 999 ∧ 1 ≤ x.2 ∧ x.2 ≤ 336 := fun x hx => by
  obtain ⟨i, hi, rfl⟩ := List.getElem_of_mem hx
  have := (okT_iff ts i).1 ((vt_is h).2.2.1 i hi)
  rwa [getD_lt _ hi] at this
theorem whoM_add {ts : List Tn} (c : Int) (t : Int) : whoM ts (t + sumT ts * c) = whoM ts t := by
  unfold whoM; rw [Int.add_mul_emod_self_left]
theorem whoM_small {ts : List Tn} {t : Int} (h0 : 0 ≤ t) (h1 : t < sumT ts) : whoM ts t = whoT ts t := by
  unfold whoM; rw [Int.emod_eq_of_lt h0 h1]
/-- the hours of an owner over any period -/
theorem own_period {ts : List Tn} (h : vtB ts = true) (o : Int) (a : Nat) : cntF (fun n => whoM ts n == o) (a : Int) (sumT ts).toNat = ownS ts o := by
  obtain ⟨_, _, _, s0, _⟩ := vt_is h
  have hs : ((sumT ts).toNat : Int) = sumT ts := by omega
  rw [cnt_period (P := (sumT ts).toNat) (fun t => by
    show (whoM ts (t + ((sumT ts).toNat : Int)) == o) = (whoM ts t == o)
    have := whoM_add (ts := ts) 1 t
    rw [Int.mul_one] at this
    rw [hs, this])]
  rw [← (own_first o ts (fun x hx => by have := vt_mem h x hx; omega)).1]
  exact cnt_congr _ (fun k hk => by
    show (whoM ts (0 + (k : Int)) == o) = (whoT ts (0 + (k : Int)) == o)
    rw [whoM_small (by omega) (by omega)])
theorem isNi_day (t : Int) : isNi (t + ((24 : Nat) : Int)) = isNi t := by
  unfold isNi
  rw [show t + ((24 : Nat) : Int) = t + 24 * 1 from by omega, Int.add_mul_emod_self_left]
theorem isNi_days (t c : Int) : isNi (t + c * 24) = isNi t := by
  unfold isNi
  rw [Int.add_mul_emod_self_right]
theorem night_day (a : Nat) : cntF isNi (a : Int) 24 = 10 := by
  rw [cnt_period (P := 24) isNi_day]; decide
theorem night_two (a : Nat) : cntF isNi (a : Int) 48 = 20 := by
  have this : cntF isNi (a : Int) 48 = cntF isNi (a : Int) 24 + cntF isNi ((a : Int) + ((24 : Nat) : Int)) 24 := cnt_split isNi (a : Int) 24 24
  have b := night_day (a + 24)
  rw [night_day] at this
  rw [show ((a + 24 : Nat) : Int) = (a : Int) + ((24 : Nat) : Int) from by omega] at b
  omega
/-- the first time that is such -/
theorem nxt_is {p : Int → Bool} : ∀ (m : Nat) (t : Int), 0 ≤ t → ¬ nxtF p m t = -1 → t ≤ nxtF p m t ∧ nxtF p m t < t + (m : Int) ∧ p (nxtF p m t) = true ∧ ∀ n, t ≤ n → n < nxtF p m t → p n = false := by
  intro m
  induction m with
  | zero => intro t _ h; exact absurd rfl h
  | succ m ih =>
    intro t h0 h
    rw [nxt_succ] at h ⊢
    by_cases c : p t = true
    · rw [if_pos c] at h ⊢
      exact ⟨Int.le_refl _, by omega, c, fun n a b => by omega⟩
    · rw [if_neg c] at h ⊢
      obtain ⟨a, b, d, e⟩ := ih (t + 1) (by omega) h
      refine ⟨by omega, by omega, d, fun n n1 n2 => ?_⟩
      by_cases en : n = t
      · rw [en]; simpa using c
      · exact e n (by omega) n2
theorem next_yes {ts : List Tn} {o t : Int} (h : ¬ nextV ts o t = -1) : vtB ts = true ∧ 0 ≤ t ∧ t ≤ nextV ts o t ∧ nextV ts o t ≤ 5000 ∧ nextV ts o t < t + sumT ts ∧ whoM ts (nextV ts o t) = o ∧ ∀ n, t ≤ n → n < nextV ts o t → whoM ts n ≠ o := by
  have e : (vtB ts && (decide (0 ≤ t) && decide (t ≤ 5000))) = true := by
    cases c : (vtB ts && (decide (0 ≤ t) && decide (t ≤ 5000))) with
    | true => rfl
    | false => exact absurd (by unfold nextV; rw [c]; rfl) h
  have e2 := e
  simp only [Bool.and_eq_true, decide_eq_true_eq] at e2
  obtain ⟨_, _, _, s0, _⟩ := vt_is e2.1
  have hv : nextV ts o t = nxtF (fun n => whoM ts n == o) (fuelT ts t) t := by unfold nextV; rw [e]; rfl
  rw [hv] at h ⊢
  obtain ⟨a, b, c, d⟩ := nxt_is _ _ e2.2.1 h
  have hf : ((fuelT ts t : Nat) : Int) ≤ sumT ts ∧ ((fuelT ts t : Nat) : Int) ≤ 5001 - t := by unfold fuelT; omega
  exact ⟨e2.1, e2.2.1, a, by omega, by omega, by simpa using c, fun n n1 n2 => by simpa using d n n1 n2⟩
theorem who_val {ts : List Tn} (h : vtB ts = true) {t : Int} (h0 : 0 ≤ t) (h1 : t ≤ 5000) : whoV ts t = whoM ts t := by
  unfold whoV; rw [h, decide_eq_true h0, decide_eq_true h1]; rfl
theorem hours_val {ts : List Tn} (h : vtB ts = true) {o a b : Int} (h0 : 0 ≤ a) (h1 : a ≤ b) (h2 : b ≤ 5000) : hoursV ts o a b = cntF (fun n => whoM ts n == o) a (b - a).toNat := by
  unfold hoursV timesB; rw [h, decide_eq_true h0, decide_eq_true h1, decide_eq_true h2]; rfl
theorem nights_val {ts : List Tn} (h : vtB ts = true) {o a b : Int} (h0 : 0 ≤ a) (h1 : a ≤ b) (h2 : b ≤ 5000) : nightsV ts o a b = cntF (fun n => (whoM ts n == o) && isNi n) a (b - a).toNat := by
  unfold nightsV timesB; rw [h, decide_eq_true h0, decide_eq_true h1, decide_eq_true h2]; rfl
theorem per_val {ts : List Tn} (h : vtB ts = true) : perV ts = sumT ts := by unfold perV; rw [h]; rfl
theorem hours_yes {ts : List Tn} {o a b : Int} (h : ¬ hoursV ts o a b = -1) : vtB ts = true ∧ 0 ≤ a ∧ a ≤ b ∧ b ≤ 5000 := by
  have e : (vtB ts && timesB a b) = true := by
    cases c : (vtB ts && timesB a b) with
    | true => rfl
    | false => exact absurd (by unfold hoursV; rw [c]; rfl) h
  unfold timesB at e
  simp only [Bool.and_eq_true, decide_eq_true_eq] at e
  exact ⟨e.1, e.2.1.1, e.2.1.2, e.2.2⟩
theorem nights_yes {ts : List Tn} {o a b : Int} (h : ¬ nightsV ts o a b = -1) : vtB ts = true ∧ 0 ≤ a ∧ a ≤ b ∧ b ≤ 5000 := by
  have e : (vtB ts && timesB a b) = true := by
    cases c : (vtB ts && timesB a b) with
    | true => rfl
    | false => exact absurd (by unfold nightsV; rw [c]; rfl) h
  unfold timesB at e
  simp only [Bool.and_eq_true, decide_eq_true_eq] at e
  exact ⟨e.1, e.2.1.1, e.2.1.2, e.2.2⟩
theorem hours_two {ts : List Tn} (h : vtB ts = true) {o a m b : Int} (h0 : 0 ≤ a) (h1 : a ≤ m) (h2 : m ≤ b) (h3 : b ≤ 5000) : hoursV ts o a m + hoursV ts o m b = hoursV ts o a b := by
  rw [hours_val h h0 h1 (by omega), hours_val h (by omega) h2 h3, hours_val h h0 (by omega) h3, show (b - a).toNat = (m - a).toNat + (b - m).toNat from by omega, cnt_split]
  rw [show a + ((m - a).toNat : Int) = m from by omega]
theorem hours_per {ts : List Tn} (h : vtB ts = true) {o a : Int} (h0 : 0 ≤ a) (h3 : a + sumT ts ≤ 5000) : hoursV ts o a (a + sumT ts) = ownS ts o := by
  obtain ⟨_, _, _, s0, _⟩ := vt_is h
  rw [hours_val h h0 (by omega) h3, show (a + sumT ts - a).toNat = (sumT ts).toNat from by omega]
  obtain ⟨n, rfl⟩ := Int.eq_ofNat_of_zero_le h0
  exact own_period h o n
theorem nights_le {ts : List Tn} {o a b : Int} (h : ¬ nightsV ts o a b = -1) : nightsV ts o a b ≤ hoursV ts o a b := by
  obtain ⟨hv, h0, h1, h2⟩ := nights_yes h
  rw [nights_val hv h0 h1 h2, hours_val hv h0 h1 h2]
  exact cnt_le (fun t ht => by simp only [Bool.and_eq_true] at ht; exact ht.1) _
theorem who_alone (t : Int) : whoM [(5, 7)] t = 5 := by
  unfold whoM whoT
  have r1 := Int.emod_lt_of_pos t (show (0 : Int) < 7 by omega)
  have e : sumT [((5 : Int), (7 : Int))] = 7 := rfl
  rw [e]
  show (([((5 : Int), (7 : Int))] : List Tn).getD (if t % 7 < 7 then 0 else _) tn0).1 = 5
  rw [if_pos r1]; rfl
theorem nights_alone {a b : Int} (h0 : 0 ≤ a) (h1 : b - a = 48) (h2 : b ≤ 5000) : nightsV [(5, 7)] 5 a b = 20 := by
  have hv : vtB [((5 : Int), (7 : Int))] = true := by decide
  rw [nights_val hv h0 (by omega) h2, h1]
  obtain ⟨n, rfl⟩ := Int.eq_ofNat_of_zero_le h0
  rw [← night_two n]
  exact cnt_congr _ (fun k _ => by
    show ((whoM [(5, 7)] _ == 5) && isNi _) = isNi _
    rw [who_alone]; rfl)
/-- the even time -/
theorem even_is {ts : List Tn} (h : ¬ evenV ts = -1) : vtB ts = true ∧ ∃ c d : Int, evenV ts = sumT ts * c ∧ evenV ts = d * 24 ∧ 1 ≤ evenV ts ∧ evenV ts ≤ 8064 := by
  have hv : vtB ts = true := by
    cases c : vtB ts with
    | true => rfl
    | false => exact absurd (by unfold evenV; rw [c]; rfl) h
  obtain ⟨_, _, _, s0, s1⟩ := vt_is hv
  refine ⟨hv, ?_⟩
  have e : evenV ts = sumT ts / (Int.gcd (sumT ts) 24 : Int) * 24 := by unfold evenV; rw [hv]; rfl
  obtain ⟨g, hg⟩ : ∃ g : Int, (Int.gcd (sumT ts) 24 : Int) = g := ⟨_, rfl⟩
  have d1 : g ∣ sumT ts := hg ▸ Int.gcd_dvd_left ..
  have d2 : g ∣ 24 := hg ▸ Int.gcd_dvd_right ..
  have g1 : 1 ≤ g := by have := Int.gcd_pos_of_ne_zero_left (a := sumT ts) 24 (by omega); omega
  obtain ⟨c, hc⟩ := d2
  obtain ⟨q, hq⟩ := d1
  have hdiv : sumT ts / g = q := by rw [hq, Int.mul_ediv_cancel_left _ (by omega)]
  rw [hg, hdiv] at e
  refine ⟨c, q, ?_, e, ?_, ?_⟩
  · rw [e, hc, hq, Int.mul_comm g q, Int.mul_assoc]
  · rw [e]
    have : 1 ≤ q := by
      rcases Int.lt_or_le q 1 with hl | hl
      · have : g * q ≤ 0 := Int.mul_nonpos_of_nonneg_of_nonpos (by omega) (by omega)
        omega
      · exact hl
    omega
  · rw [e]
    have : q ≤ sumT ts := by rw [← hdiv]; exact Int.ediv_le_self _ (by omega)
    omega
theorem even_again {ts : List Tn} (h : ¬ evenV ts = -1) (o : Int) (hle : evenV ts + 60 ≤ 5000) : hoursV ts o (evenV ts) (evenV ts + 60) = hoursV ts o 0 60 ∧ nightsV ts o (evenV ts) (evenV ts + 60) = nightsV ts o 0 60 := by
  obtain ⟨hv, c, d, e1, e2, l1, l2⟩ := even_is h
  have w : ∀ k : Nat, whoM ts (evenV ts + (k : Int)) = whoM ts (0 + (k : Int)) := fun k => by
    rw [show evenV ts + (k : Int) = 0 + (k : Int) + sumT ts * c from by omega, whoM_add]
  have n : ∀ k : Nat, isNi (evenV ts + (k : Int)) = isNi (0 + (k : Int)) := fun k => by
    rw [show evenV ts + (k : Int) = 0 + (k : Int) + d * 24 from by omega, isNi_days]
  constructor
  · rw [hours_val hv (by omega) (by omega) hle, hours_val hv (by omega) (by omega) (by omega), show (evenV ts + 60 - evenV ts).toNat = (60 - 0 : Int).toNat from by omega]
    exact cnt_congr _ (fun k _ => by show (whoM ts _ == o) = (whoM ts _ == o); rw [w k])
  · rw [nights_val hv (by omega) (by omega) hle, nights_val hv (by omega) (by omega) (by omega), show (evenV ts + 60 - evenV ts).toNat = (60 - 0 : Int).toNat from by omega]
    exact cnt_congr _ (fun k _ => by show ((whoM ts _ == o) && isNi _) = ((whoM ts _ == o) && isNi _); rw [w k, n k])
theorem cnt_sumF (p : Int → Bool) : ∀ m : Nat, cntF p 0 m = sumF (fun k => if p (k : Int) then 1 else 0) m := by
  intro m
  induction m with
  | zero => rfl
  | succ m ih => rw [cnt_succ, sumF_succ, ih, show (0 : Int) + (m : Int) = (m : Int) from by omega]
/-- over the even time nights are shared as hours are -/
theorem even_fair {ts : List Tn} (h : ¬ evenV ts = -1) (he : evenV ts = 24 * sumT ts) (hle : evenV ts ≤ 5000) (o : Int) : nightsV ts o 0 (evenV ts) = 10 * hoursV ts o 0 (sumT ts) := by
  obtain ⟨hv, _⟩ := even_is h
  obtain ⟨_, _, _, s0, s1⟩ := vt_is hv
  obtain ⟨P, hP⟩ : ∃ P : Nat, sumT ts = (P : Int) := ⟨(sumT ts).toNat, by omega⟩
  have hg : Nat.gcd P 24 = 1 := by
    have e : evenV ts = sumT ts / (Int.gcd (sumT ts) 24 : Int) * 24 := by unfold evenV; rw [hv]; rfl
    rw [he, hP] at e
    have hgi : Int.gcd (P : Int) 24 = Nat.gcd P 24 := rfl
    rw [hgi] at e
    obtain ⟨q, hq⟩ := Nat.gcd_dvd_left P 24
    have g1 : 0 < Nat.gcd P 24 := Nat.gcd_pos_of_pos_right _ (by omega)
    have hd : (P : Int) / (Nat.gcd P 24 : Int) = (q : Int) := by
      have : ((P / Nat.gcd P 24 : Nat) : Int) = (q : Int) := by
        congr 1
        exact Nat.div_eq_of_eq_mul_right g1 hq
      rw [← this]; rfl
    rw [hd] at e
    have hqP : q = P := by omega
    rw [hqP] at hq
    have : Nat.gcd P 24 * P = 1 * P := by omega
    exact Nat.eq_of_mul_eq_mul_right (by omega) this
  rw [nights_val hv (by omega) (by omega) hle, hours_val hv (by omega) (by omega) (by omega)]
  rw [show (evenV ts - 0).toNat = P * 24 from by omega, show (sumT ts - 0).toNat = P from by omega, cnt_sumF, cnt_sumF]
  have f := nights_fair (fun r => if whoT ts (r : Int) == o then 1 else 0) (fun r => if isNi (r : Int) then 1 else 0) hg
  have a : sumF (fun k => if ((whoM ts (k : Int) == o) && isNi (k : Int)) = true then (1 : Int) else 0) (P * 24) = sumF (fun t => (if whoT ts ((t % P : Nat) : Int) == o then (1 : Int) else 0) * (if isNi ((t % 24 : Nat) : Int) then 1 else 0)) (P * 24) := sumF_congr _ (fun k _ => by
    have e1 : whoM ts (k : Int) = whoT ts ((k % P : Nat) : Int) := by unfold whoM; rw [hP]; rfl
    have e2 : isNi ((k % 24 : Nat) : Int) = isNi (k : Int) := by
      have := isNi_days ((k % 24 : Nat) : Int) ((k / 24 : Nat) : Int)
      rw [← this]
      congr 1
      omega
    show (if ((whoM ts (k : Int) == o) && isNi (k : Int)) = true then (1 : Int) else 0) = _
    rw [e1, e2]
    cases whoT ts ((k % P : Nat) : Int) == o <;> cases isNi (k : Int) <;> rfl)
  have b : sumF (fun k => if (whoM ts (k : Int) == o) = true then (1 : Int) else 0) P = sumF (fun r => if whoT ts (r : Int) == o then (1 : Int) else 0) P := sumF_congr _ (fun k hk => by
    show (if (whoM ts (k : Int) == o) = true then (1 : Int) else 0) = _
    rw [whoM_small (by omega) (by omega)])
  have c : sumF (fun r => if isNi (r : Int) then (1 : Int) else 0) 24 = 10 := by decide
  rw [a, b]
  rw [c] at f
  rw [f]; omega
end Go.Proofs.Ythkeopkehjkpeaa
