/- What the law on valid ledgers wants (pure). No condition but those stated. -/
import Derived.Test.YtppnhhnilnikfaaLedM
import Derived.Test.YtppnhhnilnikfaaShareOf
namespace Go.Proofs.Ytppnhhnilnikfaa
theorem shV_is {hs : List Hd} (h : vlR hs = true) (o : Int) : shV hs o = ((shareL (ledOf hs) o).num, ((shareL (ledOf hs) o).den : Int)) := by
  unfold shV
  rw [if_pos h]
  have := shR_raw (ledOf hs) o
  rwa [(vlR_is h).1] at this
/-- sums of the first shares -/
def sN (hs : List Hd) (k : Nat) : Int := (totL ((ledOf hs).take k)).num
def sD (hs : List Hd) (k : Nat) : Int := ((totL ((ledOf hs).take k)).den : Int)
theorem tot_succ (L : Led) {k : Nat} (h : k < L.length) : totL (L.take (k + 1)) = totL (L.take k) + (L.getD k (0, 0)).2 := by
  rw [take_snocD L h (0, 0), tot_append]
  show _ + ((L.getD k (0, 0)).2 + 0) = _
  rw [Rat.add_zero]
theorem vl_law {hs : List Hd} (h : vlR hs = true) : (sN hs 0 = 0 ∧ sD hs 0 = 1 ∧ sN hs hs.length = 1 ∧ sD hs hs.length = 1) ∧ ∀ k, k < hs.length →
    frV (Wsh.vfB (sN hs k) (sD hs k) && Wsh.vfB (hs.getD k hd0).2.1 (hs.getD k hd0).2.2 && Wsh.redB (sN hs k * (hs.getD k hd0).2.2 + (hs.getD k hd0).2.1 * sD hs k) (sD hs k * (hs.getD k hd0).2.2)) (Wsh.rn (sN hs k * (hs.getD k hd0).2.2 + (hs.getD k hd0).2.1 * sD hs k) (sD hs k * (hs.getD k hd0).2.2)) (Wsh.rd (sN hs k * (hs.getD k hd0).2.2 + (hs.getD k hd0).2.1 * sD hs k) (sD hs k * (hs.getD k hd0).2.2)) = .tuple #[.agg #[.int .i64 (sN hs (k + 1)), .int .i64 (sD hs (k + 1))], .bool true]
    ∧ shV hs (hs.getD k hd0).1 = (hs.getD k hd0).2 ∧ vlR (hs.take k) = false := by
  have hsh := fun o => shV_is h o
  obtain ⟨L, rfl, hv, e⟩ := led_as h
  rw [led_raw] at hsh
  unfold sN sD
  rw [led_raw, raw_len]
  refine ⟨⟨rfl, rfl, ?_, ?_⟩, fun k hk => ?_⟩
  · rw [List.take_of_length_le (Nat.le_refl _), hv.one]; rfl
  · rw [List.take_of_length_le (Nat.le_refl _), hv.one]; rfl
  · rw [hd_get L hk, tot_succ L hk]
    have hm := mem_at L hk
    have hf := hv.fr _ hm
    have hs0 := hv.sums k (Nat.le_of_lt hk)
    have hs1 := hv.sums (k + 1) hk
    rw [tot_succ L hk] at hs1
    have hso := share_of_mem hv.asc hm
    have hpart := vl_part hv hk
    refine ⟨?_, ?_, ?_⟩
    · generalize totL (L.take k) = p at hs0 hs1
      generalize (L.getD k (0, 0)).2 = q at hf hs1
      obtain ⟨r1, r2, r3⟩ := add_red p q
      show frV (Wsh.vfB p.num (p.den : Int) && Wsh.vfB q.num (q.den : Int) && Wsh.redB (p.num * (q.den : Int) + q.num * (p.den : Int)) ((p.den : Int) * (q.den : Int))) (Wsh.rn (p.num * (q.den : Int) + q.num * (p.den : Int)) ((p.den : Int) * (q.den : Int))) (Wsh.rd (p.num * (q.den : Int) + q.num * (p.den : Int)) ((p.den : Int) * (q.den : Int))) = _
      rw [r1, r2, r3, q_vf hs0, q_vf hf, hs1]; rfl
    · show shV (rawL L) (L.getD k (0, 0)).1 = ((L.getD k (0, 0)).2.num, ((L.getD k (0, 0)).2.den : Int))
      rw [hsh, hso]
    · rw [← raw_take, vlR_vl, Bool.eq_false_iff]
      exact fun c => hpart ((vl_iff _).1 c)
end Go.Proofs.Ytppnhhnilnikfaa
