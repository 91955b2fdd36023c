/- Claims (pure): by turns, and by all orders of turns. No condition but those stated. -/
import Derived.Test.YtigapnbpgbfbhacClmQ
namespace Go.Proofs.Ytigapnbpgbfbhac
set_option linter.unusedVariables false
set_option linter.unusedSimpArgs false

/-- claims as a function -/
def clF (cs : List Int) : Nat → Int := fun i => cs.getD i 0
/-- by turns: what the first k of an order leave given, and what is left -/
def turnG (cs : List Int) (n : Int) (os : List Int) : Nat → List Int × Int
  | 0 => (List.replicate cs.length 0, n)
  | k + 1 => ((turnG cs n os k).1.set (os.getD k 0).toNat (min (turnG cs n os k).2 (cs.getD (os.getD k 0).toNat 0)), (turnG cs n os k).2 - min (turnG cs n os k).2 (cs.getD (os.getD k 0).toNat 0))
theorem turn_len (cs : List Int) (n : Int) (os : List Int) : ∀ k, (turnG cs n os k).1.length = cs.length := by
  intro k
  induction k with
  | zero => exact List.length_replicate ..
  | succ k ih => show (List.set _ _ _).length = _; rw [List.length_set]; exact ih
theorem turn_left (cs : List Int) {n : Int} (hn : 0 ≤ n) (hc : ∀ i, 0 ≤ cs.getD i 0) (os : List Int) : ∀ k, 0 ≤ (turnG cs n os k).2 ∧ (turnG cs n os k).2 ≤ n := by
  intro k
  induction k with
  | zero => exact ⟨hn, Int.le_refl _⟩
  | succ k ih =>
    have := hc (os.getD k 0).toNat
    show 0 ≤ _ - min _ _ ∧ _ - min _ _ ≤ _
    omega
/-- the end of turns -/
def turnV (n : Int) (cs os : List Int) : List Int := (turnG cs n os os.length).1
theorem turnV_len (n : Int) (cs os : List Int) : (turnV n cs os).length = cs.length := turn_len cs n os _
/-- turns, told by getP: what the places of the first k got, and what is left for the others -/
theorem turn_is (cs : List Int) (n : Int) (os : List Int) (hd : os.Nodup) (hi : ∀ x ∈ os, 0 ≤ x ∧ x < (cs.length : Int)) :
    ∀ k, k ≤ os.length → ∀ i, i < cs.length → (((i : Int) ∈ os.take k → (turnG cs n os k).1.getD i 0 = getP (clF cs) n (os.map Int.toNat) i) ∧ ((i : Int) ∉ os.take k → (turnG cs n os k).1.getD i 0 = 0 ∧ getP (clF cs) n (os.map Int.toNat) i = getP (clF cs) (turnG cs n os k).2 ((os.drop k).map Int.toNat) i)) := by
  intro k
  induction k with
  | zero =>
    intro _ i hlt
    refine ⟨fun h => by simp at h, fun _ => ⟨rep_get _ _, rfl⟩⟩
  | succ k ih =>
    intro hk i hlt
    obtain ⟨a, b⟩ := ih (by omega) i hlt
    have hm : os.getD k 0 ∈ os := getD_mem (by omega)
    obtain ⟨x0, x1⟩ := hi _ hm
    have hdr : os.drop k = os.getD k 0 :: os.drop (k + 1) := by
      rw [List.drop_eq_getElem_cons (by omega), List.getD_eq_getElem?_getD, List.getElem?_eq_getElem (by omega)]; rfl
    have htk : os.take (k + 1) = os.take k ++ [os.getD k 0] := by
      rw [List.take_succ_eq_append_getElem (by omega), List.getD_eq_getElem?_getD, List.getElem?_eq_getElem (by omega)]; rfl
    have hnt : os.getD k 0 ∉ os.take k := nodup_take.1 hd k (by omega)
    have hl := turn_len cs n os k
    have gs : (turnG cs n os (k + 1)).1.getD i 0 = if i = (os.getD k 0).toNat then min (turnG cs n os k).2 (cs.getD (os.getD k 0).toNat 0) else (turnG cs n os k).1.getD i 0 := by
      show (List.set _ _ _).getD i 0 = _
      exact getD_setZ i _ (by omega)
    rw [gs, htk]
    have hP : (i : Int) ∉ os.take k → getP (clF cs) n (os.map Int.toNat) i = if (os.getD k 0).toNat = i then min (turnG cs n os k).2 (clF cs (os.getD k 0).toNat) else getP (clF cs) ((turnG cs n os k).2 - min (turnG cs n os k).2 (clF cs (os.getD k 0).toNat)) ((os.drop (k + 1)).map Int.toNat) i := fun h => by
      rw [(b h).2, hdr]; rfl
    by_cases e : i = (os.getD k 0).toNat
    · rw [if_pos e]
      have e' : (i : Int) = os.getD k 0 := by omega
      refine ⟨fun _ => ?_, fun h => ?_⟩
      · rw [hP (by rw [e']; exact hnt), if_pos e.symm]; rfl
      · exact absurd (List.mem_append.2 (.inr (by rw [e']; simp))) h
    · rw [if_neg e]
      have e' : (i : Int) ≠ os.getD k 0 := by omega
      refine ⟨fun h => ?_, fun h => ?_⟩
      · rcases List.mem_append.1 h with h | h
        · exact a h
        · exact absurd (List.mem_singleton.1 h) e'
      · have h' : (i : Int) ∉ os.take k := fun c => h (List.mem_append.2 (.inl c))
        refine ⟨(b h').1, ?_⟩
        rw [hP h', if_neg (fun c => e c.symm)]; rfl
/-- an order as natural numbers -/
def ordN (os : List Int) : List Nat := os.map Int.toNat
theorem ordN_len (os : List Int) : (ordN os).length = os.length := by unfold ordN; simp
theorem ordN_all {os : List Int} {m : Nat} (h : ordB m os = true) : ordN os ∈ allO m := by
  obtain ⟨a, b, c⟩ := (ordB_iff m os).1 h
  rw [all_mem]
  refine ⟨?_, fun x hx => ?_, by rw [ordN_len]; exact a⟩
  · unfold ordN
    show List.Pairwise _ _
    rw [List.pairwise_map]
    refine List.Pairwise.imp_of_mem ?_ b
    intro x y hx hy hxy e
    have := c x hx; have := c y hy; omega
  · obtain ⟨y, hy, rfl⟩ := List.mem_map.1 hx
    have := c y hy; omega
theorem turn_get {cs os : List Int} (n : Int) (h : ordB cs.length os = true) {i : Nat} (hi : i < cs.length) : (turnV n cs os).getD i 0 = getP (clF cs) n (ordN os) i := by
  obtain ⟨a, b, c⟩ := (ordB_iff _ os).1 h
  refine (turn_is cs n os b c os.length (Nat.le_refl _) i hi).1 ?_
  rw [List.take_of_length_le (Nat.le_refl _)]
  exact (in_all _ os b c).2 a i hi
theorem clF_nn {cs : List Int} (h : allB cs 500 = true) : ∀ i, 0 ≤ clF cs i := fun i => by
  unfold clF
  by_cases c : i < cs.length
  · exact (allB_get h c).1
  · rw [List.getD_eq_getElem?_getD, List.getElem?_eq_none (by omega)]; exact Int.le_refl _
theorem sumC_clF (cs : List Int) : sumC (clF cs) (List.range cs.length) = cs.sum := by
  have : ∀ k, k ≤ cs.length → sumC (clF cs) (List.range k) = (cs.take k).sum := by
    intro k
    induction k with
    | zero => intro _; rfl
    | succ k ih =>
      intro h
      rw [List.range_succ, sumC_append, ih (by omega), take_sum cs k (by omega)]
      show _ + (clF cs k + 0) = _
      unfold clF; omega
  rw [this _ (Nat.le_refl _), List.take_of_length_le (Nat.le_refl _)]
theorem turn_map {cs os : List Int} (n : Int) (h : ordB cs.length os = true) : turnV n cs os = (List.range cs.length).map (getP (clF cs) n (ordN os)) := by
  refine ext_z (by rw [turnV_len]; simp) (fun i hi => ?_)
  rw [turnV_len] at hi
  rw [turn_get n h hi, List.getD_eq_getElem?_getD, List.getElem?_map, List.getElem?_range hi]; rfl
/-- InTurn -/
def itB (n : Int) (cs os : List Int) : Bool := vcB n cs && ordB cs.length os
def inV (n : Int) (cs os : List Int) : List Int := if itB n cs os = true then turnV n cs os else []
theorem inV_yes {n : Int} {cs os : List Int} (h : itB n cs os = true) : inV n cs os = turnV n cs os := if_pos h
theorem inV_no {n : Int} {cs os : List Int} (h : itB n cs os = false) : inV n cs os = [] := by unfold inV; rw [h]; rfl
theorem it_is {n : Int} {cs os : List Int} (h : itB n cs os = true) : vcB n cs = true ∧ ordB cs.length os = true := by unfold itB at h; rwa [Bool.and_eq_true] at h
theorem it_yes {n : Int} {cs os : List Int} (h : vcB n cs = true) (h2 : ordB cs.length os = true) : itB n cs os = true := by unfold itB; rw [h, h2]; rfl
theorem get_bd {c : Nat → Int} (hc : ∀ i, 0 ≤ c i) : ∀ (p : List Nat) (n : Int) (k : Nat), 0 ≤ n → 0 ≤ getP c n p k ∧ getP c n p k ≤ c k ∧ getP c n p k ≤ n := by
  intro p
  induction p with
  | nil => intro n k h; show (0 : Int) ≤ 0 ∧ 0 ≤ c k ∧ (0 : Int) ≤ n; exact ⟨Int.le_refl _, hc k, h⟩
  | cons x t ih =>
    intro n k h
    have hx := hc x
    show 0 ≤ (if x = k then _ else getP c _ t k) ∧ (if x = k then _ else getP c _ t k) ≤ _ ∧ (if x = k then _ else getP c _ t k) ≤ _
    by_cases e : x = k
    · rw [if_pos e]; subst e; omega
    · rw [if_neg e]
      have := ih (n - min n (c x)) k (by omega); omega
/-- P86: a division -/
theorem turn_good {n : Int} {cs os : List Int} (h : itB n cs os = true) : Good n cs (turnV n cs os) := by
  obtain ⟨a, b⟩ := it_is h
  obtain ⟨v1, v2, v3, v4⟩ := vc_iff.1 a
  have hc := clF_nn v1
  refine ⟨turnV_len _ _ _, ?_, fun i hi => ?_⟩
  · rw [turn_map n b, ← nat_sum_perm (all_range (ordN_all b)), get_total hc _ n ((all_mem _ _).1 (ordN_all b)).1 v3, sumC_perm _ (all_range (ordN_all b)), sumC_clF]; omega
  · rw [turn_get n b hi]
    have := get_bd hc (ordN os) n i v3
    exact ⟨this.1, this.2.1⟩
theorem split_at {os : List Int} {k : Nat} (hk : k < os.length) : ordN os = ordN (os.take k) ++ (os.getD k 0).toNat :: ordN (os.drop (k + 1)) := by
  unfold ordN
  have hdr : os = os.take k ++ os.getD k 0 :: os.drop (k + 1) := by
    rw [List.getD_eq_getElem?_getD, List.getElem?_eq_getElem hk]
    show os = os.take k ++ os[k] :: os.drop (k + 1)
    rw [← List.drop_eq_getElem_cons hk, List.take_append_drop]
  conv => lhs; rw [hdr]
  rw [List.map_append, List.map_cons]
/-- what the k-th of an order gets -/
theorem turn_at {n : Int} {cs os : List Int} (h : itB n cs os = true) {k : Nat} (hk : k < os.length) : (turnV n cs os).getD (os.getD k 0).toNat 0 = min (max 0 (n - sumC (clF cs) (ordN (os.take k)))) (cs.getD (os.getD k 0).toNat 0) := by
  obtain ⟨a, b⟩ := it_is h
  obtain ⟨v1, v2, v3, v4⟩ := vc_iff.1 a
  obtain ⟨o1, o2, o3⟩ := (ordB_iff _ os).1 b
  have hx := o3 _ (getD_mem hk)
  rw [turn_get n b (by omega), split_at hk, get_at (clF_nn v1) _ _ n _ v3 ?_]
  · rfl
  · intro c
    have nd := ((all_mem _ _).1 (ordN_all b)).1
    rw [split_at hk] at nd
    exact (List.nodup_append.1 nd).2.2 _ c _ (by simp) rfl
theorem sumC_take {cs os : List Int} (h : allB cs 500 = true) : ∀ {i k : Nat}, i ≤ k → sumC (clF cs) (ordN (os.take i)) ≤ sumC (clF cs) (ordN (os.take k)) := by
  have hc := clF_nn h
  have nn : ∀ p, 0 ≤ sumC (clF cs) p := by
    intro p
    induction p with
    | nil => exact Int.le_refl _
    | cons x t ih => have := hc x; show 0 ≤ clF cs x + sumC (clF cs) t; omega
  intro i k hik
  have e : os.take k = os.take i ++ (os.drop i).take (k - i) := by
    rw [show k = i + (k - i) by omega, List.take_add]; simp
  rw [e]
  unfold ordN
  rw [List.map_append, sumC_append]
  have := nn (((os.drop i).take (k - i)).map Int.toNat)
  omega
theorem sumC_next {cs os : List Int} {i : Nat} (hi : i < os.length) : sumC (clF cs) (ordN (os.take (i + 1))) = sumC (clF cs) (ordN (os.take i)) + cs.getD (os.getD i 0).toNat 0 := by
  have htk : os.take (i + 1) = os.take i ++ [os.getD i 0] := by
    rw [List.take_succ_eq_append_getElem hi, List.getD_eq_getElem?_getD, List.getElem?_eq_getElem hi]; rfl
  rw [htk]
  unfold ordN
  rw [List.map_append, sumC_append]
  show _ + (clF cs _ + 0) = _
  unfold clF; omega
/-- P86: whoever comes after one whose claim is not met gets nothing -/
theorem turn_first {n : Int} {cs os : List Int} (h : itB n cs os = true) {i k : Nat} (hik : i < k) (hk : k < os.length) (hm : (turnV n cs os).getD (os.getD i 0).toNat 0 ≠ cs.getD (os.getD i 0).toNat 0) : (turnV n cs os).getD (os.getD k 0).toNat 0 = 0 := by
  obtain ⟨a, b⟩ := it_is h
  obtain ⟨v1, v2, v3, v4⟩ := vc_iff.1 a
  obtain ⟨o1, o2, o3⟩ := (ordB_iff _ os).1 b
  have x1 := o3 _ (getD_mem (k := i) (by omega))
  have x2 := o3 _ (getD_mem hk)
  have c1 := allB_get v1 (i := (os.getD i 0).toNat) (by omega)
  have c2 := allB_get v1 (i := (os.getD k 0).toNat) (by omega)
  rw [turn_at h (by omega : i < os.length)] at hm
  rw [turn_at h hk]
  have s1 := sumC_next (cs := cs) (os := os) (i := i) (by omega)
  have s2 := sumC_take (cs := cs) (os := os) v1 (i := i + 1) (k := k) (by omega)
  omega
/-- P87: the last of an order gets what nobody else claims -/
theorem turn_last {n : Int} {cs os : List Int} (h : itB n cs os = true) {k : Nat} (hk : k + 1 = os.length) : (turnV n cs os).getD (os.getD k 0).toNat 0 = (sureC n cs).getD (os.getD k 0).toNat 0 := by
  obtain ⟨a, b⟩ := it_is h
  obtain ⟨v1, v2, v3, v4⟩ := vc_iff.1 a
  obtain ⟨o1, o2, o3⟩ := (ordB_iff _ os).1 b
  have x2 := o3 _ (getD_mem (k := k) (by omega))
  have c2 := allB_get v1 (i := (os.getD k 0).toNat) (by omega)
  rw [turn_at h (by omega), sureC_get n cs (by omega)]
  have s1 := sumC_next (cs := cs) (os := os) (i := k) (by omega)
  have s2 : sumC (clF cs) (ordN (os.take (k + 1))) = cs.sum := by
    rw [List.take_of_length_le (by omega), sumC_perm _ (all_range (ordN_all b)), sumC_clF]
  omega
/-- AllTurns -/
def totV (n : Int) (cs : List Int) : List Int := (List.range cs.length).map (ordS (clF cs) cs.length n)
def avB (n : Int) (cs : List Int) : Bool := vcB n cs && decide (cs.length ≤ 5)
def allV (n : Int) (cs : List Int) : List Int := if avB n cs = true then totV n cs else []
theorem allV_yes {n : Int} {cs : List Int} (h : avB n cs = true) : allV n cs = totV n cs := if_pos h
theorem allV_no {n : Int} {cs : List Int} (h : avB n cs = false) : allV n cs = [] := by unfold allV; rw [h]; rfl
theorem av_is {n : Int} {cs : List Int} (h : avB n cs = true) : vcB n cs = true ∧ cs.length ≤ 5 := by unfold avB at h; rwa [Bool.and_eq_true, decide_eq_true_eq] at h
theorem totV_len (n : Int) (cs : List Int) : (totV n cs).length = cs.length := by unfold totV; simp
theorem totV_get (n : Int) (cs : List Int) {i : Nat} (h : i < cs.length) : (totV n cs).getD i 0 = ordS (clF cs) cs.length n i := by
  unfold totV
  rw [List.getD_eq_getElem?_getD, List.getElem?_map, List.getElem?_range h]; rfl
def facN : Nat → Nat
  | 0 => 1
  | k + 1 => facN k * (k + 1)
theorem orders_count (m : Nat) : ∀ (d : Nat) (b : List Nat), b.Nodup → (∀ x ∈ b, x < m) → b.length + d = m → (ordersL m d b).length = facN d := by
  intro d
  induction d with
  | zero => intro b _ _ _; rfl
  | succ d ih =>
    intro b hb hm hl
    show ((List.range m).flatMap _).length = facN d * (d + 1)
    rw [List.length_flatMap]
    have nd : ∀ i, i ∉ b → (b ++ [i]).Nodup := fun i hi => List.nodup_append.2 ⟨hb, by simp, fun a ha c hc => by simp at hc; subst hc; exact fun e => hi (e ▸ ha)⟩
    have lt : ∀ i, i < m → ∀ x ∈ b ++ [i], x < m := fun i hi x hx => by
      rcases List.mem_append.1 hx with h | h
      · exact hm x h
      · simp at h; omega
    have e : (List.range m).map (fun i => (if i ∈ b then [] else ordersL m d (b ++ [i])).length) = (List.range m).map (fun i => if i ∈ b then 0 else facN d) := List.map_congr_left (fun i hi => by
      have him := List.mem_range.1 hi
      by_cases c : i ∈ b
      · rw [if_pos c, if_pos c]; rfl
      · rw [if_neg c, if_neg c, ih _ (nd i c) (lt i him) (by simp; omega)])
    rw [e]
    have cnt : ∀ (l : List Nat), (l.map (fun i => if i ∈ b then 0 else facN d)).sum = facN d * (l.filter (fun i => decide (i ∉ b))).length := by
      intro l
      induction l with
      | nil => rfl
      | cons x t ih2 =>
        rw [List.map_cons, List.sum_cons, ih2, List.filter_cons]
        by_cases c : x ∈ b
        · rw [if_pos c, if_neg (by simp [c])]; omega
        · rw [if_neg c, if_pos (by simp [c]), List.length_cons, Nat.mul_add]; omega
    rw [cnt]
    have part : ∀ (l : List Nat), (l.filter (fun i => decide (i ∉ b))).length + (l.filter (fun i => decide (i ∈ b))).length = l.length := by
      intro l
      induction l with
      | nil => rfl
      | cons x t ih2 =>
        rw [List.filter_cons, List.filter_cons]
        by_cases c : x ∈ b
        · rw [if_neg (by simp [c]), if_pos (by simp [c]), List.length_cons, List.length_cons]; omega
        · rw [if_pos (by simp [c]), if_neg (by simp [c]), List.length_cons, List.length_cons]; omega
    have inb : ((List.range m).filter (fun i => decide (i ∈ b))).length = b.length := by
      have p : ((List.range m).filter (fun i => decide (i ∈ b))).Perm b := by
        refine (List.perm_ext_iff_of_nodup (List.nodup_range.filter _) hb).2 (fun x => ?_)
        rw [List.mem_filter, List.mem_range, decide_eq_true_eq]
        exact ⟨fun h => h.2, fun h => ⟨hm x h, h⟩⟩
      exact p.length_eq
    have := part (List.range m)
    rw [List.length_range, inb] at this
    rw [show ((List.range m).filter (fun i => decide (i ∉ b))).length = d + 1 by omega]
theorem all_count (m : Nat) : (allO m).length = facN m := orders_count m m [] List.nodup_nil (by simp) (by simp)
/-- P88 -/
theorem tot_mono {n : Int} {cs : List Int} (h : avB n cs = true) {i k : Nat} (hi : i < cs.length) (hk : k < cs.length) (hc : cs.getD i 0 ≤ cs.getD k 0) : (totV n cs).getD i 0 ≤ (totV n cs).getD k 0 := by
  obtain ⟨v1, v2, v3, v4⟩ := vc_iff.1 (av_is h).1
  rw [totV_get n cs hi, totV_get n cs hk]
  exact all_mono (clF_nn v1) hi hk hc v3
theorem tot_sum {n : Int} {cs : List Int} (h : avB n cs = true) : (totV n cs).sum = n * (facN cs.length : Int) := by
  obtain ⟨v1, v2, v3, v4⟩ := vc_iff.1 (av_is h).1
  unfold totV
  rw [all_total (clF_nn v1) v3 (by rw [sumC_clF]; exact v4), all_count]
/-- P89 -/
theorem tot_turned {n : Int} {cs : List Int} (h : avB n cs = true) {i : Nat} (hi : i < cs.length) : (totV (cs.sum - n) cs).getD i 0 + (totV n cs).getD i 0 = cs.getD i 0 * (facN cs.length : Int) := by
  obtain ⟨v1, v2, v3, v4⟩ := vc_iff.1 (av_is h).1
  rw [totV_get _ cs hi, totV_get _ cs hi]
  have := all_turned (clF_nn v1) hi v3 (by rw [sumC_clF]; exact v4)
  rw [sumC_clF, all_count] at this
  exact this
theorem allS_bd {c : Nat → Int} (hc : ∀ i, 0 ≤ c i) {m : Nat} {n : Int} (hn : 0 ≤ n) (k : Nat) : 0 ≤ ordS c m n k ∧ ordS c m n k ≤ n * (facN m : Int) := by
  unfold ordS
  have a := sum_leO (A := allO m) (f := fun _ => 0) (g := fun p => getP c n p k) (fun p _ => (get_bd hc p n k hn).1)
  have b := sum_leO (A := allO m) (f := fun p => getP c n p k) (g := fun _ => n) (fun p _ => (get_bd hc p n k hn).2.2)
  rw [sum_same _ (v := 0) (fun _ _ => rfl)] at a
  rw [sum_same _ (v := n) (fun _ _ => rfl), all_count] at b
  exact ⟨by omega, b⟩
/-- two claims by all orders -/
theorem tot_two {n : Int} {cs : List Int} (h2 : cs.length = 2) : (totV n cs).getD 0 0 = min n (cs.getD 0 0) + min (n - min n (cs.getD 1 0)) (cs.getD 0 0) ∧ (totV n cs).getD 1 0 = min (n - min n (cs.getD 0 0)) (cs.getD 1 0) + min n (cs.getD 1 0) := by
  have e : allO 2 = [[0, 1], [1, 0]] := by decide
  have f : ∀ k, ordS (clF cs) 2 n k = getP (clF cs) n [0, 1] k + (getP (clF cs) n [1, 0] k + 0) := fun k => by unfold ordS; rw [e]; rfl
  rw [totV_get _ _ (by omega), totV_get _ _ (by omega), h2, f, f]
  show (min n (clF cs 0)) + ((min (n - min n (clF cs 1)) (clF cs 0)) + 0) = _ ∧ (min (n - min n (clF cs 0)) (clF cs 1)) + (min n (clF cs 1) + 0) = _
  unfold clF
  constructor <;> omega
/-- P90 -/
theorem tot_half {n : Int} {cs : List Int} (h : hfB n cs = true) (h2 : cs.length = 2) {i : Nat} (hi : i < 2) : (totV n cs).getD i 0 - 2 * (halfV n cs).getD i 0 ≤ 1 ∧ -1 ≤ (totV n cs).getD i 0 - 2 * (halfV n cs).getD i 0 := by
  obtain ⟨hvc, hev, hs, ha, hl⟩ := hf_is h
  have a := half_two h h2 hi
  obtain ⟨t0, t1⟩ := tot_two (n := n) h2
  have two : ∀ l : List Int, l.length = 2 → l.sum = l.getD 0 0 + l.getD 1 0 := fun l hl => by
    match l, hl with
    | [a, b], _ => show a + (b + 0) = a + b; omega
  have s1 := two cs h2
  have s2 := two (sureC n cs) (by rw [sureC_len, h2])
  have g0 := sureC_get n cs (i := 0) (by omega)
  have g1 := sureC_get n cs (i := 1) (by omega)
  have b0 := allB_get (vc_iff.1 hvc).1 (i := 0) (by omega)
  have b1 := allB_get (vc_iff.1 hvc).1 (i := 1) (by omega)
  obtain ⟨_, _, n0, n1⟩ := vc_iff.1 hvc
  rcases (by omega : i = 0 ∨ i = 1) with rfl | rfl <;> omega
end Go.Proofs.Ytigapnbpgbfbhac
