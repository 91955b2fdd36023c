/- Trades, circle by circle, as both packages make them (pure). No condition but those stated. -/
import Derived.Test.YtdlbjmhjaljlfabWishP
import Derived.Test.YtdlbjmhjaljlfabTtc
import Derived.Test.YtdlbjmhjaljlfabExt
namespace Go.Proofs.Ytdlbjmhjaljlfab
set_option linter.unusedVariables false
def it {α : Type} (f : α → α) : Nat → α → α
  | 0, x => x
  | k + 1, x => f (it f k x)
theorem it_add {α : Type} (f : α → α) (b : Nat) (x : α) : ∀ a, it f (a + b) x = it f a (it f b x) := by
  intro a
  induction a with
  | zero => rw [Nat.zero_add]; rfl
  | succ a ih => rw [Nat.succ_add]; show f (it f (a + b) x) = f _; rw [ih]
theorem it_fix {α : Type} (f : α → α) {x : α} (h : f x = x) : ∀ k, it f k x = x := by
  intro k
  induction k with
  | zero => rfl
  | succ k ih => show f (it f k x) = x; rw [ih, h]
theorem it_mem {f : Nat → Nat} {S : Nat → Prop} (hS : ∀ x, S x → S (f x)) {x : Nat} (hx : S x) : ∀ k, S (it f k x) := by
  intro k
  induction k with
  | zero => exact hx
  | succ k ih => exact hS _ ih
/-- a walk of n steps among n comes to a circle -/
theorem it_circle {n : Nat} {f : Nat → Nat} {S : Nat → Prop} (hS : ∀ x, S x → x < n ∧ S (f x)) {x : Nat} (hx : S x) : ∃ p, 1 ≤ p ∧ p ≤ n ∧ it f p (it f n x) = it f n x := by
  have hm := it_mem (fun y hy => (hS y hy).2) hx
  have key : ∃ i j, i < j ∧ j ≤ n ∧ it f i x = it f j x := by
    apply Classical.byContradiction
    intro hc
    have hne : ∀ i j, i < j → j ≤ n → it f i x ≠ it f j x := fun i j a b c => hc ⟨i, j, a, b, c⟩
    have := (in_all n ((List.range (n + 1)).map fun k => ((it f k x : Nat) : Int)) (by
      rw [List.nodup_iff_pairwise_ne, List.pairwise_iff_getElem]
      intro i j hi hj hij e
      simp only [List.length_map, List.length_range] at hi hj
      simp only [List.getElem_map, List.getElem_range] at e
      exact hne i j hij (by omega) (by omega)) (fun z hz => by
      obtain ⟨k, _, rfl⟩ := List.mem_map.1 hz
      have := (hS _ (hm k)).1
      omega)).1
    simp at this
    omega
  obtain ⟨i, j, hij, hj, e⟩ := key
  refine ⟨j - i, by omega, by omega, ?_⟩
  rw [← it_add, show j - i + n = (n - i) + j from by omega, it_add, ← e, ← it_add]
  congr 1; omega
/-- the least step behind k at which the walk is back -/
def perS (f : Nat → Nat) (a : Nat) : Nat → Nat → Nat
  | k, 0 => k
  | k, m + 1 => if it f k a = a then k else perS f a (k + 1) m
theorem perS_is {f : Nat → Nat} {a : Nat} : ∀ (m k p : Nat), k ≤ p → p ≤ k + m → it f p a = a → (∀ j, k ≤ j → j < perS f a k m → it f j a ≠ a) ∧ k ≤ perS f a k m ∧ perS f a k m ≤ p ∧ it f (perS f a k m) a = a := by
  intro m
  induction m with
  | zero =>
    intro k p h1 h2 h
    obtain rfl : k = p := by omega
    exact ⟨fun j y1 y2 => by have e0 : perS f a k 0 = k := rfl; omega, Nat.le_refl _, Nat.le_refl _, h⟩
  | succ m ih =>
    intro k p h1 h2 h
    by_cases c : it f k a = a
    · have e : perS f a k (m + 1) = k := by show (if _ then _ else _) = k; rw [if_pos c]
      rw [e]
      exact ⟨fun j a b => by omega, Nat.le_refl _, h1, c⟩
    · have e : perS f a k (m + 1) = perS f a (k + 1) m := by show (if _ then _ else _) = _; rw [if_neg c]
      rw [e]
      have hk : k ≠ p := fun q => c (q ▸ h)
      obtain ⟨x1, x2, x3, x4⟩ := ih (k + 1) p (by omega) (by omega) h
      refine ⟨fun j y1 y2 => ?_, by omega, x3, x4⟩
      by_cases d : j = k
      · subst d; exact c
      · exact x1 j (by omega) y2
structure Cir (n : Nat) (f : Nat → Nat) (a p : Nat) : Prop where
  one : 1 ≤ p
  le : p ≤ n
  back : it f p a = a
  ne : ∀ i j, i < j → j < p → it f i a ≠ it f j a
theorem cir_is {n : Nat} {f : Nat → Nat} {S : Nat → Prop} (hS : ∀ x, S x → x < n ∧ S (f x)) {x : Nat} (hx : S x) : Cir n f (it f n x) (perS f (it f n x) 1 n) := by
  obtain ⟨p, p1, p2, p3⟩ := it_circle hS hx
  obtain ⟨x1, x2, x3, x4⟩ := perS_is (f := f) (a := it f n x) n 1 p p1 (by omega) p3
  generalize it f n x = a at *
  generalize perS f a 1 n = q at *
  refine ⟨x2, by omega, x4, fun i j hij hj e => ?_⟩
  refine x1 (q - j + i) (by omega) (by omega) ?_
  rw [it_add, e, ← it_add, show q - j + j = q from by omega, x4]
theorem cir_inj {n : Nat} {f : Nat → Nat} {a p : Nat} (C : Cir n f a p) {i j : Nat} (hi : i < p) (hj : j < p) (e : f (it f i a) = f (it f j a)) : i = j := by
  have e' : it f (i + 1) a = it f (j + 1) a := e
  have h0 : it f p a = it f 0 a := C.back
  have one := C.one
  rcases Nat.lt_trichotomy i j with h | h | h
  · by_cases c : j + 1 = p
    · rw [c, h0] at e'
      exact absurd e'.symm (C.ne 0 (i + 1) (by omega) (by omega))
    · exact absurd e' (C.ne (i + 1) (j + 1) (by omega) (by omega))
  · exact h
  · by_cases c : i + 1 = p
    · rw [c, h0] at e'
      exact absurd e' (C.ne 0 (j + 1) (by omega) (by omega))
    · exact absurd e'.symm (C.ne (j + 1) (i + 1) (by omega) (by omega))
/-- the turns after the first m of a circle got theirs -/
def setsF (f : Nat → Nat) (a : Nat) (got : List Int) : Nat → List Int
  | 0 => got
  | m + 1 => (setsF f a got m).set (it f m a) ((it f (m + 1) a : Nat) : Int)
theorem sets_len (f : Nat → Nat) (a : Nat) (got : List Int) : ∀ m, (setsF f a got m).length = got.length := by
  intro m
  induction m with
  | zero => rfl
  | succ m ih => show (List.set _ _ _).length = _; rw [List.length_set, ih]
theorem sets_miss {f : Nat → Nat} {a : Nat} {got : List Int} {y : Nat} : ∀ m, (∀ j, j < m → it f j a < got.length) → (∀ j, j < m → it f j a ≠ y) → (setsF f a got m).getD y 0 = got.getD y 0 := by
  intro m
  induction m with
  | zero => intro _ _; rfl
  | succ m ih =>
    intro hl h
    show (List.set _ _ _).getD y 0 = _
    rw [getD_setZ y _ (by rw [sets_len]; exact hl m (by omega)), if_neg (fun e => h m (by omega) e.symm), ih (fun j hj => hl j (by omega)) (fun j hj => h j (by omega))]
theorem sets_hit {f : Nat → Nat} {a : Nat} {got : List Int} {y : Nat} : ∀ m, (∀ j, j < m → it f j a < got.length) → (∃ j, j < m ∧ it f j a = y) → (setsF f a got m).getD y 0 = (f y : Int) := by
  intro m
  induction m with
  | zero => rintro _ ⟨j, h, _⟩; omega
  | succ m ih =>
    rintro hl ⟨j, hj, e⟩
    show (List.set _ _ _).getD y 0 = _
    rw [getD_setZ y _ (by rw [sets_len]; exact hl m (by omega))]
    by_cases c : y = it f m a
    · rw [if_pos c, c]; rfl
    · rw [if_neg c]
      refine ih (fun j hj => hl j (by omega)) ⟨j, ?_, e⟩
      by_cases d : j = m
      · subst d; exact absurd e.symm c
      · omega
theorem nth_mem {r : List Int} {k : Nat} (h : k < r.length) : r.getD k 0 ∈ r := by
  rw [List.getD_eq_getElem?_getD, List.getElem?_eq_getElem h]; exact List.getElem_mem h
/-- the best turn that nobody got -/
def favL (got : List Int) (d : Int) : List Int → Int
  | [] => d
  | z :: t => if got.getD z.toNat 0 = -1 then z else favL got d t
theorem favL_at {got : List Int} {d : Int} : ∀ (r : List Int) (k : Nat), k < r.length → (∀ j, j < k → got.getD (r.getD j 0).toNat 0 ≠ -1) → got.getD (r.getD k 0).toNat 0 = -1 → favL got d r = r.getD k 0 := by
  intro r
  induction r with
  | nil => intro k h; simp at h
  | cons z t ih =>
    intro k hk hno h
    show (if got.getD z.toNat 0 = -1 then z else favL got d t) = _
    cases k with
    | zero =>
      have h : got.getD z.toNat 0 = -1 := h
      rw [if_pos h]; rfl
    | succ k =>
      have h0 : got.getD z.toNat 0 ≠ -1 := hno 0 (by omega)
      rw [if_neg h0]
      exact ih k (by simpa using hk) (fun j hj => hno (j + 1) (by omega)) h
theorem fav_some {got : List Int} : ∀ (r : List Int), (∃ z ∈ r, got.getD z.toNat 0 = -1) → ∃ k, k < r.length ∧ (∀ j, j < k → got.getD (r.getD j 0).toNat 0 ≠ -1) ∧ got.getD (r.getD k 0).toNat 0 = -1 := by
  intro r
  induction r with
  | nil => rintro ⟨z, h, _⟩; cases h
  | cons x t ih =>
    rintro ⟨z, h, e⟩
    by_cases c : got.getD x.toNat 0 = -1
    · exact ⟨0, by simp, fun j hj => by omega, c⟩
    · rcases List.mem_cons.1 h with rfl | h
      · exact absurd e c
      · obtain ⟨k, k1, k2, k3⟩ := ih ⟨z, h, e⟩
        refine ⟨k + 1, by simpa using k1, fun j hj => ?_, k3⟩
        cases j with
        | zero => exact c
        | succ j => exact k2 j (by omega)
def nx (rs : List (List Int)) (got : List Int) (i : Nat) : Nat := (favL got (i : Int) (rs.getD i [])).toNat
theorem wish_at {rs : List (List Int)} (hw : wishB rs = true) {i : Nat} (hi : i < rs.length) : rs.length ≤ 8 ∧ ordB rs.length (rs.getD i []) = true := by
  unfold wishB at hw
  rw [Bool.and_eq_true, decide_eq_true_eq, List.all_eq_true] at hw
  exact ⟨hw.1, hw.2 _ (by rw [List.getD_eq_getElem?_getD, List.getElem?_eq_getElem hi]; exact List.getElem_mem hi)⟩
theorem wish_mem {rs : List (List Int)} (hw : wishB rs = true) {i j : Nat} (hi : i < rs.length) (hj : j < rs.length) : (j : Int) ∈ rs.getD i [] := by
  obtain ⟨a, b, c⟩ := (ordB_iff _ _).1 (wish_at hw hi).2
  exact (in_all rs.length (rs.getD i []) b c).2 a j hj
/-- the next one of a trader who is left -/
theorem nx_is {rs : List (List Int)} (hw : wishB rs = true) {got : List Int} {i : Nat} (hi : i < rs.length) (hl : got.getD i 0 = -1) :
    nx rs got i < rs.length ∧ got.getD (nx rs got i) 0 = -1 ∧ ∃ k, k < (rs.getD i []).length ∧ (rs.getD i []).getD k 0 = (nx rs got i : Int) ∧ (∀ j, j < k → got.getD ((rs.getD i []).getD j 0).toNat 0 ≠ -1) ∧ ∀ d, favL got d (rs.getD i []) = (nx rs got i : Int) := by
  obtain ⟨_, b, c⟩ := (ordB_iff _ _).1 (wish_at hw hi).2
  obtain ⟨k, k1, k2, k3⟩ := fav_some (got := got) (rs.getD i []) ⟨(i : Int), wish_mem hw hi hi, by simpa using hl⟩
  have h1 := favL_at (d := (i : Int)) (rs.getD i []) k k1 k2 k3
  have hm : (rs.getD i []).getD k 0 ∈ rs.getD i [] := nth_mem k1
  have hb := c _ hm
  have e : ((nx rs got i : Nat) : Int) = (rs.getD i []).getD k 0 := by unfold nx; rw [h1]; omega
  have e2 : nx rs got i = ((rs.getD i []).getD k 0).toNat := by unfold nx; rw [h1]
  refine ⟨by omega, by rw [e2]; exact k3, k, k1, e.symm, k2, fun d => ?_⟩
  rw [favL_at (d := d) (rs.getD i []) k k1 k2 k3, e]
/-- the trader in a circle to which x leads -/
def headC (rs : List (List Int)) (got : List Int) (x : Nat) : Nat := it (nx rs got) rs.length x
def perC (rs : List (List Int)) (got : List Int) (x : Nat) : Nat := perS (nx rs got) (headC rs got x) 1 rs.length
def stepC (rs : List (List Int)) (got : List Int) (x : Nat) : List Int := setsF (nx rs got) (headC rs got x) got (perC rs got x)
def Lf (rs : List (List Int)) (got : List Int) (x : Nat) : Prop := x < rs.length ∧ got.getD x 0 = -1
theorem lf_step {rs : List (List Int)} (hw : wishB rs = true) {got : List Int} {x : Nat} (h : Lf rs got x) : x < rs.length ∧ Lf rs got (nx rs got x) := ⟨h.1, (nx_is hw h.1 h.2).1, (nx_is hw h.1 h.2).2.1⟩
theorem lf_it {rs : List (List Int)} (hw : wishB rs = true) {got : List Int} {x : Nat} (h : Lf rs got x) (k : Nat) : Lf rs got (it (nx rs got) k x) := it_mem (f := nx rs got) (S := Lf rs got) (fun y hy => (lf_step hw hy).2) h k
theorem lf_head {rs : List (List Int)} (hw : wishB rs = true) {got : List Int} {x : Nat} (h : Lf rs got x) (k : Nat) : Lf rs got (it (nx rs got) k (headC rs got x)) := lf_it hw (lf_it hw h _) k
theorem cir_of {rs : List (List Int)} (hw : wishB rs = true) {got : List Int} {x : Nat} (h : Lf rs got x) : Cir rs.length (nx rs got) (headC rs got x) (perC rs got x) := cir_is (S := Lf rs got) (fun y hy => lf_step hw hy) h
/-- how many are left -/
def cntL : List Int → Nat
  | [] => 0
  | z :: t => (if z = -1 then 1 else 0) + cntL t
theorem cnt_set : ∀ (l : List Int) (i : Nat) (z : Int), l.getD i 0 = -1 → i < l.length → z ≠ -1 → cntL (l.set i z) + 1 = cntL l := by
  intro l
  induction l with
  | nil => intro i z _ h; simp at h
  | cons x t ih =>
    intro i z h hi hz
    cases i with
    | zero =>
      have hx : x = -1 := h
      show (if z = -1 then 1 else 0) + cntL t + 1 = (if x = -1 then 1 else 0) + cntL t
      rw [if_neg hz, if_pos hx]; omega
    | succ i =>
      have := ih i z h (by simpa using hi) hz
      show (if x = -1 then 1 else 0) + cntL (t.set i z) + 1 = (if x = -1 then 1 else 0) + cntL t
      omega
theorem cnt_zero : ∀ (l : List Int), cntL l = 0 ↔ ∀ i, i < l.length → l.getD i 0 ≠ -1 := by
  intro l
  induction l with
  | nil => exact ⟨fun _ i h => by simp at h, fun _ => rfl⟩
  | cons x t ih =>
    constructor
    · intro h i hi
      have h : (if x = -1 then 1 else 0) + cntL t = 0 := h
      by_cases c : x = -1
      · rw [if_pos c] at h; omega
      · rw [if_neg c] at h
        cases i with
        | zero => exact c
        | succ i => exact ih.1 (by omega) i (by simpa using hi)
    · intro h
      have h0 : x ≠ -1 := h 0 (by simp)
      have : cntL t = 0 := ih.2 (fun i hi => h (i + 1) (by simpa using hi))
      show (if x = -1 then 1 else 0) + cntL t = 0
      rw [if_neg h0, this]
theorem cnt_le : ∀ (l : List Int), cntL l ≤ l.length := by
  intro l
  induction l with
  | nil => exact Nat.le_refl _
  | cons x t ih => show (if x = -1 then 1 else 0) + cntL t ≤ t.length + 1; split <;> omega
/-- within a circle -/
theorem sets_cnt {rs : List (List Int)} (hw : wishB rs = true) {got : List Int} (hg : got.length = rs.length) {x : Nat} (h : Lf rs got x) : ∀ m, m ≤ perC rs got x → cntL (setsF (nx rs got) (headC rs got x) got m) + m = cntL got ∧ (m < perC rs got x → (setsF (nx rs got) (headC rs got x) got m).getD (it (nx rs got) m (headC rs got x)) 0 = -1) := by
  have C := cir_of hw h
  have hL := fun k => lf_head hw h k
  intro m
  have at_ : ∀ m, m < perC rs got x → (setsF (nx rs got) (headC rs got x) got m).getD (it (nx rs got) m (headC rs got x)) 0 = -1 := fun m hm => by
    rw [sets_miss m (fun j hj => by rw [hg]; exact (hL j).1) (fun j hj => C.ne j m hj hm)]
    exact (hL m).2
  induction m with
  | zero => intro _; exact ⟨rfl, at_ 0⟩
  | succ m ih =>
    intro hm
    obtain ⟨i1, i2⟩ := ih (by omega)
    refine ⟨?_, at_ (m + 1)⟩
    have := cnt_set (setsF (nx rs got) (headC rs got x) got m) (it (nx rs got) m (headC rs got x)) ((it (nx rs got) (m + 1) (headC rs got x) : Nat) : Int) (i2 (by omega)) (by rw [sets_len, hg]; exact (hL m).1) (by omega)
    show cntL (List.set _ _ _) + (m + 1) = _
    omega
theorem sets_stop {rs : List (List Int)} (hw : wishB rs = true) {got : List Int} (hg : got.length = rs.length) {x : Nat} (h : Lf rs got x) : it (nx rs got) (perC rs got x) (headC rs got x) = headC rs got x ∧ (stepC rs got x).getD (headC rs got x) 0 ≠ -1 := by
  have C := cir_of hw h
  refine ⟨C.back, ?_⟩
  have one := C.one
  have e := sets_hit (f := nx rs got) (a := headC rs got x) (got := got) (y := headC rs got x) (perC rs got x) (fun j hj => by rw [hg]; exact (lf_head hw h j).1) ⟨0, by omega, rfl⟩
  unfold stepC
  rw [e]
  omega
structure StepC (rs : List (List Int)) (got : List Int) (x : Nat) (after : List Int) : Prop where
  len : after.length = got.length
  cnt : cntL after < cntL got
  keep : ∀ y, y < rs.length → got.getD y 0 ≠ -1 → after.getD y 0 = got.getD y 0
  new : ∀ y, y < rs.length → got.getD y 0 = -1 → after.getD y 0 ≠ -1 → after.getD y 0 = (nx rs got y : Int) ∧ after.getD (nx rs got y) 0 ≠ -1
  inj : ∀ y z, y < rs.length → z < rs.length → got.getD y 0 = -1 → got.getD z 0 = -1 → after.getD y 0 ≠ -1 → after.getD z 0 ≠ -1 → after.getD y 0 = after.getD z 0 → y = z
theorem stepC_is {rs : List (List Int)} (hw : wishB rs = true) {got : List Int} (hg : got.length = rs.length) {x : Nat} (h : Lf rs got x) : StepC rs got x (stepC rs got x) := by
  have C := cir_of hw h
  have hL := fun k => lf_head hw h k
  have hlt : ∀ j, j < perC rs got x → it (nx rs got) j (headC rs got x) < got.length := fun j _ => by rw [hg]; exact (hL j).1
  have one := C.one
  have mem : ∀ y, y < rs.length → got.getD y 0 = -1 → (stepC rs got x).getD y 0 ≠ -1 → ∃ j, j < perC rs got x ∧ it (nx rs got) j (headC rs got x) = y := fun y hy h1 h2 => by
    apply Classical.byContradiction
    intro hc
    refine h2 ?_
    unfold stepC
    rw [sets_miss _ hlt (fun j hj e => hc ⟨j, hj, e⟩)]; exact h1
  have hit : ∀ j, j < perC rs got x → (stepC rs got x).getD (it (nx rs got) j (headC rs got x)) 0 = (nx rs got (it (nx rs got) j (headC rs got x)) : Int) := fun j hj => sets_hit _ hlt ⟨j, hj, rfl⟩
  refine ⟨sets_len _ _ _ _, ?_, fun y hy hn => ?_, fun y hy h1 h2 => ?_, fun y z hy hz y1 z1 y2 z2 e => ?_⟩
  · have := (sets_cnt hw hg h (perC rs got x) (Nat.le_refl _)).1
    unfold stepC; omega
  · exact sets_miss _ hlt (fun j _ e => hn (by rw [← e]; exact (hL j).2))
  · obtain ⟨j, hj, rfl⟩ := mem y hy h1 h2
    refine ⟨hit j hj, ?_⟩
    by_cases c : j + 1 = perC rs got x
    · have : nx rs got (it (nx rs got) j (headC rs got x)) = it (nx rs got) 0 (headC rs got x) := by
        show it (nx rs got) (j + 1) (headC rs got x) = _
        rw [c]; exact C.back
      rw [this, hit 0 (by omega)]; omega
    · show (stepC rs got x).getD (it (nx rs got) (j + 1) (headC rs got x)) 0 ≠ -1
      rw [hit (j + 1) (by omega)]; omega
  · obtain ⟨i, hi, rfl⟩ := mem y hy y1 y2
    obtain ⟨j, hj, rfl⟩ := mem z hz z1 z2
    rw [hit i hi, hit j hj] at e
    rw [cir_inj C hi hj (by omega)]
/-- the first one who is left -/
def flF : List Int → Nat
  | [] => 0
  | z :: t => if z = -1 then 0 else flF t + 1
theorem fl_at : ∀ (l : List Int) (k : Nat), k < l.length → (∀ j, j < k → l.getD j 0 ≠ -1) → l.getD k 0 = -1 → flF l = k := by
  intro l
  induction l with
  | nil => intro k h; simp at h
  | cons z t ih =>
    intro k hk hno h
    show (if z = -1 then 0 else flF t + 1) = k
    cases k with
    | zero =>
      have h : z = -1 := h
      rw [if_pos h]
    | succ k =>
      have h0 : z ≠ -1 := hno 0 (by omega)
      rw [if_neg h0, ih k (by simpa using hk) (fun j hj => hno (j + 1) (by omega)) h]
theorem fl_none : ∀ (l : List Int), (∀ j, j < l.length → l.getD j 0 ≠ -1) → flF l = l.length := by
  intro l
  induction l with
  | nil => intro _; rfl
  | cons z t ih =>
    intro h
    show (if z = -1 then 0 else flF t + 1) = t.length + 1
    have h0 : z ≠ -1 := h 0 (by simp)
    rw [if_neg h0, ih (fun j hj => h (j + 1) (by simpa using hj))]
theorem fl_lt : ∀ (l : List Int), flF l < l.length → l.getD (flF l) 0 = -1 := by
  intro l
  induction l with
  | nil => intro h; simp [flF] at h
  | cons z t ih =>
    intro h
    by_cases c : z = -1
    · have e : flF (z :: t) = 0 := by show (if _ then _ else _) = _; rw [if_pos c]
      rw [e]; exact c
    · have e : flF (z :: t) = flF t + 1 := by show (if _ then _ else _) = _; rw [if_neg c]
      rw [e] at h ⊢
      exact ih (by simpa using h)
def stepF (rs : List (List Int)) (got : List Int) : List Int := if flF got < rs.length then stepC rs got (flF got) else got
def gotK (rs : List (List Int)) (m : Nat) : List Int := it (stepF rs) m (List.replicate rs.length (-1))
def tradeV (rs : List (List Int)) : List Int := if wishB rs then gotK rs rs.length else []
theorem got_is {rs : List (List Int)} (hw : wishB rs = true) : ∀ m, (gotK rs m).length = rs.length ∧ (cntL (gotK rs m) = 0 ∨ cntL (gotK rs m) + m ≤ rs.length) ∧ (gotK rs (m + 1) = gotK rs m ∧ cntL (gotK rs m) = 0 ∨ Lf rs (gotK rs m) (flF (gotK rs m)) ∧ gotK rs (m + 1) = stepC rs (gotK rs m) (flF (gotK rs m))) := by
  have next : ∀ m, (gotK rs m).length = rs.length → (gotK rs (m + 1) = gotK rs m ∧ cntL (gotK rs m) = 0 ∨ Lf rs (gotK rs m) (flF (gotK rs m)) ∧ gotK rs (m + 1) = stepC rs (gotK rs m) (flF (gotK rs m))) := fun m hl => by
    have e : gotK rs (m + 1) = if flF (gotK rs m) < rs.length then stepC rs (gotK rs m) (flF (gotK rs m)) else gotK rs m := rfl
    by_cases c : flF (gotK rs m) < rs.length
    · rw [if_pos c] at e
      exact .inr ⟨⟨c, fl_lt _ (by rw [hl]; exact c)⟩, e⟩
    · rw [if_neg c] at e
      refine .inl ⟨e, (cnt_zero _).2 (fun i hi q => ?_)⟩
      -- some one is left: the first one lies before the end
      have : ∀ (l : List Int) (i : Nat), i < l.length → l.getD i 0 = -1 → flF l < l.length := by
        intro l
        induction l with
        | nil => intro i h; simp at h
        | cons z t ih =>
          intro i hi q
          by_cases cz : z = -1
          · show (if z = -1 then 0 else _) < _; rw [if_pos cz]; simp
          · cases i with
            | zero => exact absurd q cz
            | succ i => show (if z = -1 then 0 else flF t + 1) < t.length + 1; rw [if_neg cz]; have := ih i (by simpa using hi) q; omega
      have := this _ i hi q
      rw [hl] at this; exact c this
  intro m
  induction m with
  | zero =>
    have hl : (gotK rs 0).length = rs.length := by show (List.replicate _ _).length = _; simp
    exact ⟨hl, .inr (by have := cnt_le (gotK rs 0); omega), next 0 hl⟩
  | succ m ih =>
    obtain ⟨hl, hc, hn⟩ := ih
    have hl2 : (gotK rs (m + 1)).length = rs.length := by
      rcases hn with ⟨e, _⟩ | ⟨L, e⟩
      · rw [e]; exact hl
      · rw [e, (stepC_is hw hl L).len]; exact hl
    refine ⟨hl2, ?_, next (m + 1) hl2⟩
    rcases hn with ⟨e, z⟩ | ⟨L, e⟩
    · exact .inl (by rw [e]; exact z)
    · have := (stepC_is hw hl L).cnt
      rw [e]
      rcases hc with hc | hc
      · omega
      · exact .inr (by omega)
theorem got_end {rs : List (List Int)} (hw : wishB rs = true) {m : Nat} (h : cntL (gotK rs m) = 0) : gotK rs m = gotK rs rs.length := by
  have fix : ∀ k, cntL (gotK rs k) = 0 → ∀ d, gotK rs (k + d) = gotK rs k := fun k hk d => by
    induction d with
    | zero => rfl
    | succ d ih =>
      rcases (got_is hw (k + d)).2.2 with ⟨e, _⟩ | ⟨L, e⟩
      · rw [← Nat.add_assoc, e, ih]
      · exact absurd (L.2) ((cnt_zero _).1 (by rw [ih]; exact hk) _ (by rw [(got_is hw (k + d)).1]; exact L.1))
  have hz : cntL (gotK rs rs.length) = 0 := by
    rcases (got_is hw rs.length).2.1 with q | q
    · exact q
    · omega
  rcases Nat.le_total m rs.length with c | c
  · have := fix m h (rs.length - m)
    rw [show m + (rs.length - m) = rs.length from by omega] at this; exact this.symm
  · have := fix rs.length hz (m - rs.length)
    rw [show rs.length + (m - rs.length) = m from by omega] at this; exact this
end Go.Proofs.Ytdlbjmhjaljlfab
