/- All orders of claims: what is gained by an order is lost by the reverse order; greater claims get more. No condition but those stated. -/
import Derived.Test.YtigapnbpgbfbhacGrA
namespace Go.Proofs.Ytigapnbpgbfbhac

/-- all orders of m numbers that begin with b, d numbers longer than b -/
def ordersL (m : Nat) : Nat → List Nat → List (List Nat)
  | 0, b => [b]
  | d + 1, b => (List.range m).flatMap (fun i => if i ∈ b then [] else ordersL m d (b ++ [i]))
theorem orders_mem (m : Nat) : ∀ (d : Nat) (b : List Nat), b.Nodup → (∀ x ∈ b, x < m) → ∀ p, p ∈ ordersL m d b ↔ p.Nodup ∧ (∀ x ∈ p, x < m) ∧ ∃ q, p = b ++ q ∧ q.length = d := by
  intro d
  induction d with
  | zero =>
    intro b hb hm p
    show p ∈ [b] ↔ _
    rw [List.mem_singleton]
    constructor
    · intro h; subst h; exact ⟨hb, hm, [], by simp, rfl⟩
    · rintro ⟨_, _, q, h, hq⟩
      rw [h, List.eq_nil_of_length_eq_zero hq, List.append_nil]
  | succ d ih =>
    intro b hb hm p
    show p ∈ (List.range m).flatMap _ ↔ _
    rw [List.mem_flatMap]
    have nd : ∀ i, i ∉ b → (b ++ [i]).Nodup := fun i hi => List.nodup_append.2 ⟨hb, by simp, fun a ha c hc => by simp at hc; subst hc; exact fun e => hi (e ▸ ha)⟩
    have lt : ∀ i, i < m → ∀ x ∈ b ++ [i], x < m := fun i hi x hx => by
      rcases List.mem_append.1 hx with h | h
      · exact hm x h
      · simp at h; omega
    constructor
    · rintro ⟨i, hi, hp⟩
      have him := List.mem_range.1 hi
      by_cases hib : i ∈ b
      · rw [if_pos hib] at hp; simp at hp
      · rw [if_neg hib] at hp
        obtain ⟨a, c, q, e, hq⟩ := (ih (b ++ [i]) (nd i hib) (lt i him) p).1 hp
        exact ⟨a, c, i :: q, by rw [e]; simp, by simp [hq]⟩
    · rintro ⟨a, c, q, e, hq⟩
      cases q with
      | nil => simp at hq
      | cons i q =>
        have hip : i ∈ p := by rw [e]; simp
        have hib : i ∉ b := fun hb2 => by
          rw [e] at a
          exact (List.nodup_append.1 a).2.2 i hb2 i (by simp) rfl
        refine ⟨i, List.mem_range.2 (c i hip), ?_⟩
        rw [if_neg hib]
        exact (ih (b ++ [i]) (nd i hib) (lt i (c i hip)) p).2 ⟨a, c, q, by rw [e]; simp, by simpa using hq⟩
theorem orders_nodup (m : Nat) : ∀ (d : Nat) (b : List Nat), b.Nodup → (∀ x ∈ b, x < m) → (ordersL m d b).Nodup := by
  intro d
  induction d with
  | zero => intro b _ _; exact List.pairwise_singleton _ _
  | succ d ih =>
    intro b hb hm
    have nd : ∀ i, i ∉ b → (b ++ [i]).Nodup := fun i hi => List.nodup_append.2 ⟨hb, by simp, fun a ha c hc => by simp at hc; subst hc; exact fun e => hi (e ▸ ha)⟩
    have lt : ∀ i, i < m → ∀ x ∈ b ++ [i], x < m := fun i hi x hx => by
      rcases List.mem_append.1 hx with h | h
      · exact hm x h
      · simp at h; omega
    show List.Pairwise _ ((List.range m).flatMap _)
    rw [List.pairwise_flatMap]
    refine ⟨fun i hi => ?_, ?_⟩
    · by_cases hib : i ∈ b
      · rw [if_pos hib]; exact List.Pairwise.nil
      · rw [if_neg hib]; exact ih _ (nd i hib) (lt i (List.mem_range.1 hi))
    · have hr := List.nodup_range (n := m)
      refine List.Pairwise.imp_of_mem ?_ hr
      intro i j hi hj hij x hx y hy exy
      subst exy
      by_cases hib : i ∈ b
      · rw [if_pos hib] at hx; simp at hx
      · by_cases hjb : j ∈ b
        · rw [if_pos hjb] at hy; simp at hy
        · rw [if_neg hib] at hx
          rw [if_neg hjb] at hy
          obtain ⟨_, _, q, e, _⟩ := (orders_mem m d _ (nd i hib) (lt i (List.mem_range.1 hi)) x).1 hx
          obtain ⟨_, _, q2, e2, _⟩ := (orders_mem m d _ (nd j hjb) (lt j (List.mem_range.1 hj)) x).1 hy
          rw [e, List.append_assoc, List.append_assoc] at e2
          have := List.append_cancel_left e2
          injection this with h1 _
          exact hij h1
/-- all orders of m numbers -/
def allO (m : Nat) : List (List Nat) := ordersL m m []
theorem all_mem (m : Nat) (p : List Nat) : p ∈ allO m ↔ p.Nodup ∧ (∀ x ∈ p, x < m) ∧ p.length = m := by
  unfold allO
  rw [orders_mem m m [] List.nodup_nil (by simp)]
  constructor
  · rintro ⟨a, b, q, e, h⟩; exact ⟨a, b, by rw [e]; simpa using h⟩
  · rintro ⟨a, b, h⟩; exact ⟨a, b, p, by simp, h⟩
theorem all_nodup (m : Nat) : (allO m).Nodup := orders_nodup m m [] List.nodup_nil (by simp)
/-- a way to turn orders into orders, that is its own way back, meets all of them -/
theorem all_turn {m : Nat} {f : List Nat → List Nat} (hf : ∀ p ∈ allO m, f p ∈ allO m ∧ f (f p) = p) : ((allO m).map f).Perm (allO m) := by
  refine (List.perm_ext_iff_of_nodup ?_ (all_nodup m)).2 (fun p => ?_)
  · have : ((allO m).map f).Pairwise (· ≠ ·) := by
      rw [List.pairwise_map]
      refine List.Pairwise.imp_of_mem ?_ (all_nodup m)
      intro a b ha hb hab e
      exact hab (by rw [← (hf a ha).2, ← (hf b hb).2, e])
    exact this
  · rw [List.mem_map]
    constructor
    · rintro ⟨q, hq, rfl⟩; exact (hf q hq).1
    · intro hp; exact ⟨f p, (hf p hp).1, (hf p hp).2⟩
theorem perm_sumL {A B : List (List Nat)} (h : A.Perm B) (g : List Nat → Int) : (A.map g).sum = (B.map g).sum := by
  induction h with
  | nil => rfl
  | cons x _ ih => simp only [List.map_cons, List.sum_cons, ih]
  | swap x y l => simp only [List.map_cons, List.sum_cons]; omega
  | trans _ _ a b => exact a.trans b
/-- a sum over all orders, turned -/
theorem all_sum {m : Nat} {f : List Nat → List Nat} (hf : ∀ p ∈ allO m, f p ∈ allO m ∧ f (f p) = p) (g : List Nat → Int) : ((allO m).map (fun p => g (f p))).sum = ((allO m).map g).sum := by
  have := perm_sumL (all_turn hf) g
  rw [List.map_map] at this
  exact this
theorem rev_turn {m : Nat} : ∀ p ∈ allO m, p.reverse ∈ allO m ∧ p.reverse.reverse = p := fun p hp => by
  rw [all_mem] at hp ⊢
  refine ⟨⟨?_, fun x hx => hp.2.1 x (by simpa using hx), by rw [List.length_reverse]; exact hp.2.2⟩, List.reverse_reverse p⟩
  exact List.pairwise_reverse.2 (hp.1.imp (fun h e => h e.symm))
/-- InTurn: what the claim k gets by an order -/
def getP (c : Nat → Int) : Int → List Nat → Nat → Int
  | _, [], _ => 0
  | n, i :: t, k => if i = k then min n (c i) else getP c (n - min n (c i)) t k
def sumC (c : Nat → Int) : List Nat → Int
  | [] => 0
  | i :: t => c i + sumC c t
theorem sumC_append (c : Nat → Int) (A B : List Nat) : sumC c (A ++ B) = sumC c A + sumC c B := by
  induction A with
  | nil => show sumC c B = 0 + sumC c B; omega
  | cons x t ih => show c x + sumC c (t ++ B) = c x + sumC c t + sumC c B; rw [ih]; omega
theorem sumC_rev (c : Nat → Int) (A : List Nat) : sumC c A.reverse = sumC c A := by
  induction A with
  | nil => rfl
  | cons x t ih => rw [List.reverse_cons, sumC_append, ih]; show _ + (c x + 0) = c x + _; omega
theorem get_at {c : Nat → Int} (hc : ∀ i, 0 ≤ c i) : ∀ (A B : List Nat) (n : Int) (k : Nat), 0 ≤ n → k ∉ A → getP c n (A ++ k :: B) k = min (max 0 (n - sumC c A)) (c k) := by
  intro A
  induction A with
  | nil => intro B n k h _; show (if k = k then min n (c k) else _) = min (max 0 (n - 0)) (c k); rw [if_pos rfl]; omega
  | cons x t ih =>
    intro B n k h hk
    have hx := hc x
    show (if x = k then _ else getP c (n - min n (c x)) (t ++ k :: B) k) = min (max 0 (n - (c x + sumC c t))) (c k)
    rw [if_neg (fun e => hk (by simp [e])), ih B _ k (by omega) (fun h => hk (by simp [h]))]
    have hs : 0 ≤ sumC c t := by
      clear ih hk
      induction t with
      | nil => exact Int.le_refl _
      | cons y s ih2 => have := hc y; show 0 ≤ c y + sumC c s; omega
    omega
/-- P89, an order: what is gained by it and what the reverse order gives of what lacks is the claim -/
theorem get_rev {c : Nat → Int} (hc : ∀ i, 0 ≤ c i) {p : List Nat} (hp : p.Nodup) {k : Nat} (hk : k ∈ p) {n : Int} (h0 : 0 ≤ n) (h1 : n ≤ sumC c p) : getP c n p k + getP c (sumC c p - n) p.reverse k = c k := by
  obtain ⟨A, B, rfl⟩ := List.append_of_mem hk
  have hd := List.nodup_append.1 hp
  have hB := List.nodup_cons.1 hd.2.1
  have kA : k ∉ A := fun h => hd.2.2 k h k (by simp) rfl
  have kB : k ∉ B.reverse := fun h => hB.1 (by simpa using h)
  have e : (A ++ k :: B).reverse = B.reverse ++ k :: A.reverse := by simp
  have s : sumC c (A ++ k :: B) = sumC c A + (c k + sumC c B) := by rw [sumC_append]; rfl
  rw [e, get_at hc A B n k h0 kA, get_at hc B.reverse A.reverse _ k (by omega) kB, sumC_rev, s]
  have := hc k
  omega
/-- AllTurns: what a claim gets by all orders together -/
def ordS (c : Nat → Int) (m : Nat) (n : Int) (k : Nat) : Int := ((allO m).map (fun p => getP c n p k)).sum
theorem sumC_perm (c : Nat → Int) {A B : List Nat} (h : A.Perm B) : sumC c A = sumC c B := by
  induction h with
  | nil => rfl
  | cons x _ ih => show c x + _ = c x + _; rw [ih]
  | swap x y l => show c y + (c x + sumC c l) = c x + (c y + sumC c l); omega
  | trans _ _ a b => exact a.trans b
theorem all_range {m : Nat} {p : List Nat} (h : p ∈ allO m) : p.Perm (List.range m) := by
  obtain ⟨a, b, l⟩ := (all_mem m p).1 h
  have hr : List.range m ∈ allO m := (all_mem m _).2 ⟨List.nodup_range, fun x hx => List.mem_range.1 hx, List.length_range⟩
  refine (List.perm_ext_iff_of_nodup a List.nodup_range).2 (fun x => ⟨fun hx => List.mem_range.2 (b x hx), fun hx => ?_⟩)
  by_cases hxp : x ∈ p
  · exact hxp
  · exfalso
    have nd : (x :: p).Nodup := List.nodup_cons.2 ⟨hxp, a⟩
    have sub : ∀ y ∈ x :: p, y ∈ List.range m := fun y hy => by
      rcases List.mem_cons.1 hy with rfl | hy
      · exact hx
      · exact List.mem_range.2 (b y hy)
    have := nd.length_le_of_subset sub
    rw [List.length_cons, l, List.length_range] at this
    omega
theorem sum_add (A : List (List Nat)) (f g : List Nat → Int) : (A.map f).sum + (A.map g).sum = (A.map (fun p => f p + g p)).sum := by
  induction A with
  | nil => rfl
  | cons x t ih => simp only [List.map_cons, List.sum_cons]; omega
theorem sum_same (A : List (List Nat)) {f : List Nat → Int} {v : Int} (h : ∀ p ∈ A, f p = v) : (A.map f).sum = v * (A.length : Int) := by
  induction A with
  | nil => simp
  | cons x t ih =>
    rw [List.map_cons, List.sum_cons, ih (fun p hp => h p (by simp [hp])), h x (by simp), List.length_cons, show ((t.length + 1 : Nat) : Int) = (t.length : Int) + 1 by omega, Int.mul_add]
    omega
/-- P89: what all orders give of what lacks is what is lost by all orders -/
theorem all_turned {c : Nat → Int} (hc : ∀ i, 0 ≤ c i) {m k : Nat} (hk : k < m) {n : Int} (h0 : 0 ≤ n) (h1 : n ≤ sumC c (List.range m)) :
    ordS c m (sumC c (List.range m) - n) k + ordS c m n k = c k * ((allO m).length : Int) := by
  unfold ordS
  rw [← all_sum (rev_turn (m := m)) (fun p => getP c (sumC c (List.range m) - n) p k), sum_add]
  refine sum_same _ (fun p hp => ?_)
  have hr := all_range hp
  have e := sumC_perm c hr
  have := get_rev hc ((all_mem m p).1 hp).1 (k := k) (hr.mem_iff.2 (List.mem_range.2 hk)) h0 (by rw [e]; exact h1)
  rw [e] at this
  omega
/-- i and k exchanged -/
def sw (i k x : Nat) : Nat := if x = i then k else if x = k then i else x
theorem sw_sw (i k x : Nat) : sw i k (sw i k x) = x := by
  unfold sw
  by_cases a : x = i
  · subst a
    rw [if_pos rfl]
    by_cases b : k = x
    · rw [if_pos b, b]
    · rw [if_neg b, if_pos rfl]
  · rw [if_neg a]
    by_cases b : x = k
    · subst b; rw [if_pos rfl, if_pos rfl]
    · rw [if_neg b, if_neg a, if_neg b]
theorem sw_lt {i k m x : Nat} (hi : i < m) (hk : k < m) (hx : x < m) : sw i k x < m := by unfold sw; split <;> (try split) <;> assumption
theorem sw_turn {m i k : Nat} (hi : i < m) (hk : k < m) : ∀ p ∈ allO m, p.map (sw i k) ∈ allO m ∧ (p.map (sw i k)).map (sw i k) = p := fun p hp => by
  rw [all_mem] at hp ⊢
  refine ⟨⟨?_, fun x hx => ?_, by rw [List.length_map]; exact hp.2.2⟩, ?_⟩
  · show List.Pairwise _ _
    rw [List.pairwise_map]
    exact hp.1.imp (fun {x y} h e => h (by
      have := congrArg (sw i k) e
      rwa [sw_sw, sw_sw] at this))
  · obtain ⟨y, hy, rfl⟩ := List.mem_map.1 hx; exact sw_lt hi hk (hp.2.1 y hy)
  · rw [List.map_map]
    conv => rhs; rw [← List.map_id p]
    exact List.map_congr_left (fun x _ => sw_sw i k x)
theorem sum_leO {A : List (List Nat)} {f g : List Nat → Int} (h : ∀ p ∈ A, f p ≤ g p) : (A.map f).sum ≤ (A.map g).sum := by
  induction A with
  | nil => exact Int.le_refl _
  | cons x t ih =>
    have a := h x (by simp)
    have b := ih (fun p hp => h p (by simp [hp]))
    simp only [List.map_cons, List.sum_cons]; omega
theorem get_sw {c : Nat → Int} (hc : ∀ i, 0 ≤ c i) {i k : Nat} (hik : c i ≤ c k) {p : List Nat} (hp : p.Nodup) (hi : i ∈ p) {n : Int} (h0 : 0 ≤ n) : getP c n p i ≤ getP c n (p.map (sw i k)) k := by
  obtain ⟨A, B, rfl⟩ := List.append_of_mem hi
  have hd := List.nodup_append.1 hp
  have iA : i ∉ A := fun h => hd.2.2 i h i (by simp) rfl
  have kA : k ∉ A.map (sw i k) := fun h => by
    obtain ⟨y, hy, e⟩ := List.mem_map.1 h
    have : y = sw i k k := (sw_sw i k y).symm.trans (congrArg (sw i k) e)
    unfold sw at this
    by_cases b : k = i
    · rw [if_pos b] at this; exact iA (by rw [← b, ← this]; exact hy)
    · rw [if_neg b, if_pos rfl] at this; exact iA (by rw [← this]; exact hy)
  have e : (A ++ i :: B).map (sw i k) = A.map (sw i k) ++ k :: B.map (sw i k) := by
    rw [List.map_append, List.map_cons]
    show _ ++ sw i k i :: _ = _
    rw [show sw i k i = k from by unfold sw; rw [if_pos rfl]]
  have s : sumC c (A.map (sw i k)) ≤ sumC c A := by
    clear e kA hd hp hi
    induction A with
    | nil => exact Int.le_refl _
    | cons x t ih =>
      have := ih (fun h => iA (by simp [h]))
      have hx : c (sw i k x) ≤ c x := by
        unfold sw
        rw [if_neg (fun e => iA (by simp [e]))]
        split
        · next e => subst e; exact hik
        · exact Int.le_refl _
      show c (sw i k x) + sumC c (t.map (sw i k)) ≤ c x + sumC c t
      omega
  rw [e, get_at hc A B n i h0 iA, get_at hc _ _ n k h0 kA]
  omega
/-- P88: a greater claim gets no less by all orders, and equal claims get the same -/
theorem all_mono {c : Nat → Int} (hc : ∀ i, 0 ≤ c i) {m i k : Nat} (hi : i < m) (hk : k < m) (hik : c i ≤ c k) {n : Int} (h0 : 0 ≤ n) : ordS c m n i ≤ ordS c m n k := by
  unfold ordS
  rw [← all_sum (sw_turn hi hk) (fun p => getP c n p k)]
  exact sum_leO (fun p hp => get_sw hc hik ((all_mem m p).1 hp).1 ((all_range hp).mem_iff.2 (List.mem_range.2 hi)) h0)
theorem get_none (c : Nat → Int) : ∀ (t : List Nat) (n : Int) (k : Nat), k ∉ t → getP c n t k = 0 := by
  intro t
  induction t with
  | nil => intro n k _; rfl
  | cons x t ih =>
    intro n k h
    show (if x = k then _ else getP c _ t k) = 0
    rw [if_neg (fun e => h (by simp [e])), ih _ k (fun m => h (by simp [m]))]
/-- an order gives all units, if there are claims enough -/
theorem get_total {c : Nat → Int} (hc : ∀ i, 0 ≤ c i) : ∀ (p : List Nat) (n : Int), p.Nodup → 0 ≤ n → (p.map (getP c n p)).sum = min n (sumC c p) := by
  intro p
  induction p with
  | nil => intro n _ h; show (0 : Int) = min n 0; omega
  | cons x t ih =>
    intro n hn h
    have hn' := List.nodup_cons.1 hn
    have hx := hc x
    rw [List.map_cons, List.sum_cons]
    have e1 : getP c n (x :: t) x = min n (c x) := by show (if x = x then _ else _) = _; rw [if_pos rfl]
    have e2 : t.map (getP c n (x :: t)) = t.map (getP c (n - min n (c x)) t) := List.map_congr_left (fun k hk => by
      show (if x = k then _ else getP c (n - min n (c x)) t k) = _
      rw [if_neg (fun e => hn'.1 (by rw [e]; exact hk))])
    have hs : 0 ≤ sumC c t := by
      clear ih e1 e2 hn hn'
      induction t with
      | nil => exact Int.le_refl _
      | cons y s ih2 => have := hc y; show 0 ≤ c y + sumC c s; omega
    rw [e1, e2, ih _ hn'.2 (by omega)]
    show _ = min n (c x + sumC c t)
    omega
theorem nat_sum_perm {A B : List Nat} (h : A.Perm B) (g : Nat → Int) : (A.map g).sum = (B.map g).sum := by
  induction h with
  | nil => rfl
  | cons x _ ih => simp only [List.map_cons, List.sum_cons, ih]
  | swap x y l => simp only [List.map_cons, List.sum_cons]; omega
  | trans _ _ a b => exact a.trans b
theorem sum_swap (A : List (List Nat)) (R : List Nat) (F : List Nat → Nat → Int) : (R.map (fun k => (A.map (fun p => F p k)).sum)).sum = (A.map (fun p => (R.map (F p)).sum)).sum := by
  induction R with
  | nil =>
    show (0 : Int) = (A.map (fun _ => (0 : Int))).sum
    rw [sum_same A (v := 0) (fun _ _ => rfl)]; simp
  | cons k t ih =>
    rw [List.map_cons, List.sum_cons, ih, sum_add]
    rfl
/-- P88: all orders give all units -/
theorem all_total {c : Nat → Int} (hc : ∀ i, 0 ≤ c i) {m : Nat} {n : Int} (h0 : 0 ≤ n) (h1 : n ≤ sumC c (List.range m)) : ((List.range m).map (ordS c m n)).sum = n * ((allO m).length : Int) := by
  have e := sum_swap (allO m) (List.range m) (fun p k => getP c n p k)
  refine Eq.trans e (sum_same _ (fun p hp => ?_))
  have hr := all_range hp
  rw [← nat_sum_perm hr, get_total hc p n ((all_mem m p).1 hp).1 h0, sumC_perm c hr]
  omega
end Go.Proofs.Ytigapnbpgbfbhac
