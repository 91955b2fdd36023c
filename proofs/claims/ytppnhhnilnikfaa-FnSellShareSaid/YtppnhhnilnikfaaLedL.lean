/- What the laws on ledgers want (pure). No condition but those stated. -/
import Derived.Test.YtppnhhnilnikfaaUnits
import Derived.Test.YtppnhhnilnikfaaHeir
namespace Go.Proofs.Ytppnhhnilnikfaa
theorem led_as {hs : List Hd} (h : vlR hs = true) : ∃ L : Led, hs = rawL L ∧ VL L ∧ ledOf hs = L :=
  ⟨ledOf hs, (vlR_is h).1.symm, (vlR_is h).2, rfl⟩
theorem hd_get (L : Led) {k : Nat} (h : k < L.length) : (rawL L).getD k hd0 = ((L.getD k (0, 0)).1, (L.getD k (0, 0)).2.num, ((L.getD k (0, 0)).2.den : Int)) := raw_get L h
theorem un_raw (L : Led) : unR (rawL L) = unitsL L (lcmTo L L.length) := by
  unfold unR unitsL
  rw [led_raw, raw_len]
  unfold rawL
  rw [List.map_map]
  refine List.map_congr_left fun x _ => ?_
  show (lcmTo L L.length : Int) / (x.2.den : Int) * x.2.num = ((lcmTo L L.length / x.2.den : Nat) : Int) * x.2.num
  rw [Int.natCast_ediv]
theorem mem_le_sum : ∀ {zs : List Int}, (∀ z ∈ zs, 0 ≤ z) → ∀ z ∈ zs, z ≤ zs.sum := by
  intro zs
  induction zs with
  | nil => intro _ z hz; simp at hz
  | cons h t ih =>
    intro hp z hz
    have h0 := hp h (List.mem_cons_self ..)
    have ht : 0 ≤ t.sum := by
      have : ∀ {l : List Int}, (∀ z ∈ l, 0 ≤ z) → 0 ≤ l.sum := by
        intro l
        induction l with
        | nil => intro _; exact Int.le_refl _
        | cons a b ib =>
          intro hq
          have := hq a (List.mem_cons_self ..)
          have := ib fun z hz => hq z (List.mem_cons_of_mem _ hz)
          rw [List.sum_cons]; omega
      exact this fun z hz => hp z (List.mem_cons_of_mem _ hz)
    rw [List.sum_cons]
    rcases List.mem_cons.1 hz with rfl | hz
    · omega
    · have := ih (fun q hq => hp q (List.mem_cons_of_mem _ hq)) z hz
      omega
theorem un_nonneg {L : Led} (hv : VL L) (n : Nat) : ∀ z ∈ unitsL L n, 0 ≤ z := by
  intro z hz
  unfold unitsL at hz
  obtain ⟨x, hx, rfl⟩ := List.mem_map.1 hz
  have := ((frB_iff x.2).1 (hv.fr x hx)).1
  exact Int.mul_nonneg (Int.natCast_nonneg _) this
theorem un_sum {hs : List Hd} (h : vlR hs = true) : (unR hs).sum = (lcmTo (ledOf hs) hs.length : Int) ∧ ∀ z ∈ unR hs, 0 ≤ z ∧ z ≤ (lcmTo (ledOf hs) hs.length : Int) := by
  obtain ⟨L, rfl, hv, e⟩ := led_as h
  rw [led_raw, raw_len, un_raw]
  have hs := units_whole hv.one (n := lcmTo L L.length) lcm_all
  refine ⟨hs, fun z hz => ⟨un_nonneg hv _ z hz, ?_⟩⟩
  rw [← hs]
  exact mem_le_sum (un_nonneg hv _) z hz
theorem mem_at (L : Led) {k : Nat} (h : k < L.length) : L.getD k (0, 0) ∈ L := by
  rw [List.getD_eq_getElem?_getD, List.getElem?_eq_getElem h]; exact List.getElem_mem _
theorem cd_rem {hs : List Hd} (h : vlR hs = true) {k : Nat} (hk : k < hs.length) : (lcmTo (ledOf hs) hs.length : Int).tmod (hs.getD k hd0).2.2 = 0 ∧ 1 ≤ (hs.getD k hd0).2.2 ∧ (hs.getD k hd0).2.2 ≤ 10000 := by
  obtain ⟨L, rfl, hv, e⟩ := led_as h
  rw [raw_len] at hk
  rw [led_raw, raw_len, hd_get L hk]
  have hd := lcm_dvd L L.length k hk
  have hf := (frB_iff _).1 (hv.fr _ (mem_at L hk))
  have h1 := den_pos (L.getD k (0, 0)).2
  refine ⟨Int.tmod_eq_zero_of_dvd ?_, h1, hf.2.2⟩
  exact Int.natCast_dvd_natCast.2 hd
end Go.Proofs.Ytppnhhnilnikfaa
