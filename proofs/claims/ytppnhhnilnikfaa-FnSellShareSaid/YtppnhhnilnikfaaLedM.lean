/- More of what the laws on ledgers want (pure). No condition but those stated. -/
import Derived.Test.YtppnhhnilnikfaaLedL
import Derived.Test.YtppnhhnilnikfaaRedS
namespace Go.Proofs.Ytppnhhnilnikfaa
theorem un_make {hs : List Hd} (h : vlR hs = true) (hle : lcmTo (ledOf hs) hs.length ≤ 1000000) {k : Nat} (hk : k < hs.length) : frV (Wsh.mkB (lcmTo (ledOf hs) hs.length : Int) && Wsh.redB ((unR hs).getD k 0) (lcmTo (ledOf hs) hs.length : Int)) (Wsh.rn ((unR hs).getD k 0) (lcmTo (ledOf hs) hs.length : Int)) (Wsh.rd ((unR hs).getD k 0) (lcmTo (ledOf hs) hs.length : Int)) = .tuple #[.agg #[.int .i64 (hs.getD k hd0).2.1, .int .i64 (hs.getD k hd0).2.2], .bool true] := by
  have hp := lcm_pos (ledOf hs) hs.length
  rw [un_get hs hk]
  obtain ⟨L, rfl, hv, e⟩ := led_as h
  rw [raw_len] at hk
  rw [led_raw, raw_len] at *
  rw [hd_get L hk]
  have hd := lcm_dvd L L.length k hk
  have hf := hv.fr _ (mem_at L hk)
  generalize (L.getD k (0, 0)).2 = q at hd hf
  have hu := unit_share hp hd
  rw [Int.natCast_ediv] at hu
  have hz : (0 : Int) < (lcmTo L L.length : Int) := by omega
  have e1 := rn_q (n := (lcmTo L L.length : Int) / (q.den : Int) * q.num) hz
  have e2 := rd_q (n := (lcmTo L L.length : Int) / (q.den : Int) * q.num) hz
  have e3 := redB_q (n := (lcmTo L L.length : Int) / (q.den : Int) * q.num) hz
  rw [hu] at e1 e2 e3
  show frV (Wsh.mkB _ && Wsh.redB ((lcmTo L L.length : Int) / (q.den : Int) * q.num) _) (Wsh.rn ((lcmTo L L.length : Int) / (q.den : Int) * q.num) _) (Wsh.rd ((lcmTo L L.length : Int) / (q.den : Int) * q.num) _) = .tuple #[.agg #[.int .i64 q.num, .int .i64 (q.den : Int)], .bool true]
  rw [e1, e2, e3, hf, Wsh.mkB_yes (d := (lcmTo L L.length : Int)) (by omega)]
  rfl
theorem vl_some {hs : List Hd} (h : vlR hs = true) : 1 ≤ hs.length := by
  obtain ⟨L, rfl, hv, e⟩ := led_as h
  rw [raw_len]
  rcases Nat.eq_zero_or_pos L.length with c | c
  · have : L = [] := List.eq_nil_of_length_eq_zero c
    have h1 := hv.one
    rw [this] at h1
    exact absurd h1 (by decide)
  · exact c
end Go.Proofs.Ytppnhhnilnikfaa
