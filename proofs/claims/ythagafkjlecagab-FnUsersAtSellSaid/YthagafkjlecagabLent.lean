/- What an owner lends, by impl. Condition: at most 1048576 leases. -/
import Derived.Test.YthagafkjlecagabLs
namespace Go.Proofs.Ythagafkjlecagab
open Go.RowKit
set_option linter.unusedSimpArgs false

def partQ (l : Lr) : Rat := Rat.divInt l.n l.d
/-- l lends for o at t -/
def lendB (l : Lr) (o t : Int) : Bool := decide (l.ow = o) && atB l t
/-- the parts that o lends at t, of the first k leases -/
def lentS (ls : List Lr) (o t : Int) : Nat → Rat
  | 0 => 0
  | k + 1 => lentS ls o t k + (if lendB (ls.getD k lr0) o t then partQ (ls.getD k lr0) else 0)
def lentOk (ls : List Lr) (o t : Int) : Bool := (List.range ls.length).all fun j => frB (lentS ls o t (j + 1))
theorem lent_fr {ls : List Lr} {o t : Int} {k : Nat} (h : ∀ j, j < k → frB (lentS ls o t (j + 1)) = true) : frB (lentS ls o t k) = true := by
  cases k with
  | zero => exact frB_zero
  | succ k => exact h k (by omega)
theorem lent_stay {ls : List Lr} {o t : Int} {k : Nat} (h : lendB (ls.getD k lr0) o t = false) : lentS ls o t (k + 1) = lentS ls o t k := by
  show _ + (if _ then _ else _) = _
  rw [h]
  show _ + (0 : Rat) = _
  grind
theorem lent_more {ls : List Lr} {o t : Int} {k : Nat} (h : lendB (ls.getD k lr0) o t = true) : lentS ls o t (k + 1) = lentS ls o t k + partQ (ls.getD k lr0) := by
  show _ + (if _ then _ else _) = _
  rw [h]; rfl
theorem terms_at {ls : List Lr} (h : termsB ls = true) {k : Nat} (hk : k < ls.length) : Wsh.vfB (ls.getD k lr0).n (ls.getD k lr0).d = true := ((term_iff _).1 ((rng_all _ _).1 h k hk)).2.2.2.1
/-- a sum, as the program makes it -/
theorem part_add {q : Rat} {n d : Int} (hq : frB q = true) (hv : Wsh.vfB n d = true) :
    (Wsh.vfB q.num (q.den : Int) && Wsh.vfB n d && Wsh.redB (q.num * d + n * (q.den : Int)) ((q.den : Int) * d)) = frB (q + Rat.divInt n d) ∧ Wsh.rn (q.num * d + n * (q.den : Int)) ((q.den : Int) * d) = (q + Rat.divInt n d).num ∧ Wsh.rd (q.num * d + n * (q.den : Int)) ((q.den : Int) * d) = ((q + Rat.divInt n d).den : Int) := by
  obtain ⟨a, b, _⟩ := vf_q hv
  obtain ⟨x, y, z⟩ := add_red q (Rat.divInt n d)
  rw [a, b] at x y z
  exact ⟨by rw [q_vf hq, hv, x]; rfl, y, z⟩

set_option maxRecDepth 100000 in
set_option maxHeartbeats 1500000 in
/-- impl.lentAt -/
theorem ilent (a : Option Addr) (cap : Nat) (ls : List Lr) (o t : Int) (w : World) (h : IsLs w a ls) (hn : ls.length ≤ 1048576) (ht : termsB ls = true) :
    Calls Try.prog 51 #[.slice a ls.length cap, .int .i64 o, .int .i64 t] w fun e w' => e = .returned (.tuple #[.agg #[.int .i64 (Wsh.qn (lentOk ls o t) (lentS ls o t ls.length).num), .int .i64 (Wsh.qn (lentOk ls o t) ((lentS ls o t ls.length).den : Int))], .bool (lentOk ls o t)]) ∧ Below w.heap.size w w' := by
  have HI := Lib.hid h
  have HT := Lib.hid ht
  clear h ht
  go_enter Try.func51, Try.ntmps51
  go_wp2_with fail
  refine (inoShare _).mono ?_
  rintro e w1 ⟨rfl, hb⟩
  have hB1 : Below w.heap.size w w1 := bel_tr (by go_grown) hb
  have K6 := (Blk.new w 46 #[.int .i64 0, .int .i64 0]).next hb
  have hz1 : w.heap.size < w1.heap.size := K6.lt
  have K6a := K6.alloc (.cells #[.int .i64 0, .int .i64 1] 46)
  have K8 := Blk.new w1 46 #[.int .i64 0, .int .i64 1]
  have hB2 := hB1.alloc hB1.size (.cells #[.int .i64 0, .int .i64 1] 46)
  have hSw : w.heap.size < w1.heap.size := hz1
  clear hb K6 hz1
  go_wp2_with fail
  go_loopw [16] (fun i wr => ∃ k : Nat, k ≤ ls.length ∧ i = .int .i64 k ∧ Hid (∀ j, j < k → frB (lentS ls o t (j + 1)) = true) ∧ Blk wr w.heap.size 46 #[.int .i64 0, .int .i64 0] ∧ Blk wr w1.heap.size 46 #[.int .i64 (lentS ls o t k).num, .int .i64 ((lentS ls o t k).den : Int)] ∧ Below w.heap.size w wr) (fun i _ => ls.length - (intOf i).toNat)
  case atStart => exact ⟨0, Nat.zero_le _, rfl, fun j hj => by omega, K6a, K8, hB2⟩
  case round =>
    clear K6a K8 hB2 hB1
    obtain ⟨k, hk, rfl, HA, hR, hS8, hB⟩ := hrel
    have HRb := Lib.hid hR
    have HSb := Lib.hid hS8
    have HB := Lib.hid hB
    obtain ⟨s0, s1, s2, s3, s4⟩ := blk_two hS8
    obtain ⟨r0, r1, r2, r3, r4⟩ := blk_two hR
    by_cases hlt : k < ls.length
    · have hcz : ∃ g u, a = some ⟨g, u, none⟩ ∧ wr.cell? ⟨g, u + k * 6, none⟩ = some (.int .i64 (ls.getD k lr0).ow) ∧ wr.cell? ⟨g, u + k * 6 + 1, none⟩ = some (.int .i64 (ls.getD k lr0).te) ∧ wr.cell? ⟨g, u + k * 6 + 2, none⟩ = some (.int .i64 (ls.getD k lr0).n) ∧ wr.cell? ⟨g, u + k * 6 + 3, none⟩ = some (.int .i64 (ls.getD k lr0).d) ∧ wr.cell? ⟨g, u + k * 6 + 4, none⟩ = some (.int .i64 (ls.getD k lr0).fr) ∧ wr.cell? ⟨g, u + k * 6 + 5, none⟩ = some (.int .i64 (ls.getD k lr0).en) := by
        rcases ls_below HI.out hB with he | ⟨g, u, hA, hc⟩
        · rw [he] at hlt; simp at hlt
        · exact ⟨g, u, hA, hc k hlt⟩
      obtain ⟨g, u, rfl, c0, c1, c2, c3, c4, c5⟩ := hcz
      have hfr := lent_fr HA.out
      have hv := terms_at HT.out hlt
      have hstay : lendB (ls.getD k lr0) o t = false → Hid (∀ j, j < k + 1 → frB (lentS ls o t (j + 1)) = true) ∧ Blk wr w1.heap.size 46 #[.int .i64 (lentS ls o t (k + 1)).num, .int .i64 ((lentS ls o t (k + 1)).den : Int)] := fun e => by
        have e2 := lent_stay e
        exact ⟨rng_more (f := fun j => frB (lentS ls o t (j + 1))) HA.out (by show frB (lentS ls o t (k + 1)) = true; rw [e2]; exact hfr), by rw [e2]; exact hS8⟩
      have hmore : lendB (ls.getD k lr0) o t = true → lentS ls o t (k + 1) = lentS ls o t k + Rat.divInt (ls.getD k lr0).n (ls.getD k lr0).d := fun e => lent_more e
      have hno : frB (lentS ls o t (k + 1)) = false → lentOk ls o t = false := fun e => rng_no (f := fun j => frB (lentS ls o t (j + 1))) hlt e
      have hyes : frB (lentS ls o t (k + 1)) = true → ∀ j, j < k + 1 → frB (lentS ls o t (j + 1)) = true := fun e => rng_more (f := fun j => frB (lentS ls o t (j + 1))) HA.out e
      have hlend : lendB (ls.getD k lr0) o t = (decide ((ls.getD k lr0).ow = o) && atB (ls.getD k lr0) t) := rfl
      generalize ls.getD k lr0 = l at c0 c1 c2 c3 c4 c5 hv hstay hmore hlend
      have IRn := fun W => iruns l t W
      obtain ⟨ow, te, n, d, fr, en⟩ := l
      obtain ⟨bl, hbl⟩ : ∃ bl, lendB ⟨ow, te, n, d, fr, en⟩ o t = bl := ⟨_, rfl⟩
      obtain ⟨ba, hba⟩ : ∃ ba, atB ⟨ow, te, n, d, fr, en⟩ t = ba := ⟨_, rfl⟩
      rw [hbl] at hstay hmore
      rw [hbl, hba] at hlend
      rw [hba] at IRn
      dsimp only at c0 c1 c2 c3 c4 c5 hv hmore hlend IRn
      have PA := part_add hfr hv
      have HST := Lib.hid hstay
      have HMO := Lib.hid hmore
      have HNO := Lib.hid hno
      have HYES := Lib.hid hyes
      have HIR := Lib.hid IRn
      have HPA := Lib.hid PA
      have HLE := Lib.hid hlend
      obtain ⟨q, hq⟩ : ∃ q, lentS ls o t k = q := ⟨_, rfl⟩
      rw [hq] at s0 s1 HPA HMO HSb
      have hBa := hB.alloc hB.size (.cells #[.int .i64 ow, .int .i64 te, .int .i64 n, .int .i64 d, .int .i64 fr, .int .i64 en] 48)
      have HBA := Lib.hid hBa
      clear hfr hv hstay hmore hno hyes hbl hba hlend IRn PA hq hB hS8 hR hBa
      by_cases h1 : ow = o
      · have hl2 : bl = ba := by rw [HLE.out, decide_eq_true h1]; rfl
        subst hl2
        subst h1
        clear HLE
        cases bl with
        | false =>
          obtain ⟨y1, y2⟩ := HST.out rfl
          have Y2 := Lib.hid y2
          clear y2
          go_wp2_with fail
          refine (HIR.out _).mono ?_
          rintro e w2 ⟨rfl, hb⟩
          go_wp2_with fail
          go_roundw
          case rel => exact ⟨k + 1, by omega, by go_num, y1, (HRb.out.alloc _).next hb, (Y2.out.alloc _).next hb, bel_tr HBA.out hb⟩
          case measure => simp [intOf]; omega
        | true =>
          have hmo := HMO.out rfl
          obtain ⟨p1, p2, p3⟩ := HPA.out
          rw [← hmo] at p1 p2 p3
          have K0 := Blk.new wr 48 #[.int .i64 ow, .int .i64 te, .int .i64 n, .int .i64 d, .int .i64 fr, .int .i64 en]
          cases hf : frB (lentS ls ow t (k + 1)) with
          | false =>
            have HN : Hid (lentOk ls ow t = false) := HNO.out hf
            have P1 := Lib.hid (p1.trans hf)
            clear hmo p1 p2 p3 hf
            go_wp2_with fail
            refine (HIR.out _).mono ?_
            rintro e w2 ⟨rfl, hb⟩
            have S2 := (HSb.out.alloc (.cells #[.int .i64 ow, .int .i64 te, .int .i64 n, .int .i64 d, .int .i64 fr, .int .i64 en] 48)).next hb
            have R2 := (HRb.out.alloc (.cells #[.int .i64 ow, .int .i64 te, .int .i64 n, .int .i64 d, .int .i64 fr, .int .i64 en] 48)).next hb
            have K2 := K0.next hb
            have B2 := bel_tr HBA.out hb
            clear s0 s1 s2 s3 s4 r0 r1 r2 r3 r4 c0 c1 c2 c3 c4 c5 K0 hb
            obtain ⟨s0, s1, s2, s3, s4⟩ := blk_two S2
            have f2 := K2.cell 2
            have f3 := K2.cell 3
            dsimp at f2 f3
            go_wp2_with fail
            refine (iAddN _ P1.out).mono ?_
            rintro e w3 ⟨rfl, hb⟩
            have R3 := (R2.next hb).alloc (.cells #[.int .i64 0, .int .i64 0] 46)
            have B3 := (bel_tr B2 hb).alloc (bel_tr B2 hb).size (.cells #[.int .i64 0, .int .i64 0] 46)
            obtain ⟨r0, r1, r2, r3, r4⟩ := blk_two R3
            obtain ⟨x0, x1, _, _, _⟩ := blk_two (R3.two (.int .i64 0) (.int .i64 0))
            clear s0 s1 s2 s3 s4 f2 f3 S2 R2 K2 R3
            go_wp2_with fail
            refine bodyPost_ret (v := .tuple #[.agg #[.int .i64 0, .int .i64 0], .bool false]) (by simp [results, Try.results51, go_sem, x0, x1]) rfl ⟨?_, ?_⟩
            · rw [HN.out]; rfl
            · exact (B3.setCell (p := ⟨w.heap.size, 0, none⟩) (Nat.le_refl _) _).setCell (p := ⟨w.heap.size, 1, none⟩) (Nat.le_refl _) _
          | true =>
            have HY : Hid (∀ j, j < k + 1 → frB (lentS ls ow t (j + 1)) = true) := HYES.out hf
            have P1 := Lib.hid (p1.trans hf)
            have P2 := Lib.hid p2
            have P3 := Lib.hid p3
            clear hmo p1 p2 p3 hf
            go_wp2_with fail
            refine (HIR.out _).mono ?_
            rintro e w2 ⟨rfl, hb⟩
            have S2 := (HSb.out.alloc (.cells #[.int .i64 ow, .int .i64 te, .int .i64 n, .int .i64 d, .int .i64 fr, .int .i64 en] 48)).next hb
            have R2 := (HRb.out.alloc (.cells #[.int .i64 ow, .int .i64 te, .int .i64 n, .int .i64 d, .int .i64 fr, .int .i64 en] 48)).next hb
            have K2 := K0.next hb
            have B2 := bel_tr HBA.out hb
            clear s0 s1 s2 s3 s4 r0 r1 r2 r3 r4 c0 c1 c2 c3 c4 c5 K0 hb
            obtain ⟨s0, s1, s2, s3, s4⟩ := blk_two S2
            have f2 := K2.cell 2
            have f3 := K2.cell 3
            dsimp at f2 f3
            go_wp2_with fail
            refine (iAddQ _ P1.out P2.out P3.out).mono ?_
            rintro e w3 ⟨rfl, hb⟩
            have R3 := R2.next hb
            have S3 := S2.next hb
            have B3 := bel_tr B2 hb
            have ne : w.heap.size ≠ w1.heap.size := Nat.ne_of_lt hSw
            obtain ⟨t0, t1, t2, t3, t4⟩ := blk_two S3
            clear s0 s1 s2 s3 s4 f2 f3 S2 R2 K2
            go_wp2_with fail
            go_roundw
            case rel => exact ⟨k + 1, by omega, by go_num, HY.out, ((R3.far (by exact ne) _).far (by exact ne) _).alloc _, (S3.two _ _).alloc _, ((B3.setCell (by exact Nat.le_of_lt hSw) _).setCell (by exact Nat.le_of_lt hSw) _).alloc (by simpa using B3.size) _⟩
            case measure => simp [intOf]; omega
      · have e1 : (ow == o) = false := by simpa using h1
        have hl2 : bl = false := by rw [HLE.out, decide_eq_false h1]; rfl
        subst hl2
        have e1b : (ow != o) = true := by simpa using h1
        have e1c : decide (ow = o) = false := decide_eq_false h1
        obtain ⟨y1, y2⟩ := HST.out rfl
        have Y2 := Lib.hid y2
        clear y2
        go_wp2_with fail
        go_roundw
        case rel => exact ⟨k + 1, by omega, by go_num, y1, HRb.out.alloc _, Y2.out.alloc _, HBA.out⟩
        case measure => simp [intOf]; omega
    · obtain rfl : ls.length = k := by omega
      have HN : Hid (lentOk ls o t = true) := rng_yes (f := fun j => frB (lentS ls o t (j + 1))) HA.out
      have hx : ∀ q : Rat, Blk ((wr.setCell ⟨w.heap.size, 0, none⟩ (.int .i64 q.num)).setCell ⟨w.heap.size, 1, none⟩ (.int .i64 (q.den : Int))) w.heap.size 46 #[.int .i64 q.num, .int .i64 (q.den : Int)] := fun q => HRb.out.two _ _
      obtain ⟨x0, x1, _, _, _⟩ := blk_two (hx (lentS ls o t ls.length))
      have hB3 := ((hB.setCell (p := ⟨w.heap.size, 0, none⟩) (Nat.le_refl _) (.int .i64 (lentS ls o t ls.length).num)).setCell (p := ⟨w.heap.size, 1, none⟩) (Nat.le_refl _) (.int .i64 ((lentS ls o t ls.length).den : Int)))
      have HB3 := Lib.hid hB3
      clear hR hS8 hB hx hB3
      go_wp2_with fail
      refine bodyPost_ret (v := .tuple #[.agg #[.int .i64 (lentS ls o t ls.length).num, .int .i64 ((lentS ls o t ls.length).den : Int)], .bool true]) (by simp [results, Try.results51, go_sem, x0, x1]) rfl ⟨?_, ?_⟩
      · rw [HN.out]; rfl
      · exact HB3.out
end Go.Proofs.Ythagafkjlecagab
