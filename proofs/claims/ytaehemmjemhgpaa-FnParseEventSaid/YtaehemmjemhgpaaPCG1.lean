/- Contracts and facts of functions of this program, in build order. Conditions: those stated in each. -/
import Derived.Test.YtaehemmjemhgpaaPCG0
import Derived.Deep.RegionHeld3
import Derived.Deep.DeepCutAuto
import Derived.Deep.Slices
import Derived.ChangeSame
import Derived.ChangeArms
import Derived.ProofKit
import Derived.Lib.SmallJoins
import Derived.Maps.AppendAt
import Derived.Deep.MidRow
import Derived.Laws.OwnMore
import Derived.WalkLawsBesides
import Derived.Deep.RegionWith
import Derived.BigRegion
import Derived.Deep.QuietTactic
import Derived.BigQuiet
import Derived.RegionTactic
set_option maxRecDepth 100000
set_option maxHeartbeats 16000000
namespace Go.Proofs.Ytaehemmjemhgpaa
open Go.RowKit
set_option linter.unusedSimpArgs false
set_option linter.unusedVariables false
theorem jje {w w' : World} {p : Addr} {v : Value} (hb : Below w.heap.size w w') (h : w.cell? p = some v) : w'.cell? p = some v := (hb.cell (World.block_lt_of_cell? w _ h)).trans h
theorem keep4 {w w' : World} {p q r s : Addr} {u v x y : Value} (hb : Below w.heap.size w w') (h : w.cell? p = some u ∧ w.cell? q = some v ∧ w.cell? r = some x ∧ w.cell? s = some y) : w'.cell? p = some u ∧ w'.cell? q = some v ∧ w'.cell? r = some x ∧ w'.cell? s = some y := ⟨jje hb h.1, jje hb h.2.1, jje hb h.2.2.1, jje hb h.2.2.2⟩
def allQ (hs : List Hd) : Bool := (List.range hs.length).all (fun j => frB (sumQ hs (j + 1)))
theorem saddQ {an ad bn bd x y : Int} {b : Bool} (w : World) (ha : Wsh.vfB an ad = true) (hb : Wsh.vfB bn bd = true) (hr : Wsh.redB (an * bd + bn * ad) (ad * bd) = b) (hx : Wsh.rn (an * bd + bn * ad) (ad * bd) = x) (hy : Wsh.rd (an * bd + bn * ad) (ad * bd) = y) :
  Calls Try.prog 124 #[.agg #[.int .i64 an, .int .i64 ad], .agg #[.int .i64 bn, .int .i64 bd]] w fun e w' => e = .returned (.tuple #[.agg #[.int .i64 (Wsh.qn b x), .int .i64 (Wsh.qn b y)], .bool b]) ∧ Below w.heap.size w w' := by
 have := sadd an ad bn bd w ha hb; rw [hr, hx, hy] at this; exact this
def SumV (w : World) (hs : List Hd) (e : Ending) (w' : World) : Prop := e = .returned (.tuple #[.agg #[.int .i64 (Wsh.qn (allQ hs) (sumQ hs hs.length).num), .int .i64 (Wsh.qn (allQ hs) ((sumQ hs hs.length).den : Int))], .bool (allQ hs)]) ∧ Below w.heap.size w w'
theorem ssumOf (a : Option Addr) (cap : Nat) (hs : List Hd) (w : World) (h : IsHs w a hs) (hn : hs.length ≤ 1048576) (hF : allF hs = true) :
    Calls Try.prog 113 #[.slice a hs.length cap] w (SumV w hs) := by
  have HF := Lib.hid ((jji _ _).1 hF); clear hF
  rcases h with rfl | ⟨g, off, rfl, hc⟩
  · go_enter Try.func113, Try.ntmps113
    go_wp2_with fail; refine wp_loop_rounds 1 ?_; rw [rounds_succ]; go_wp2_with fail; exact bodyPost_ret (v := .tuple #[.agg #[.int .i64 0, .int .i64 1], .bool true]) (by simp [results, Try.results113, go_sem]) rfl ⟨rfl, by go_grown⟩
  · have HC := Lib.hid hc
    clear hc; go_enter Try.func113, Try.ntmps113; go_wp2_with fail
    go_loopw [5, 6] (fun b i wr => ∃ (k : Nat) (c : Bool), k ≤ hs.length ∧ i = .int .i64 k ∧ b = .bool c ∧ Hid (∀ j, j < k → c = true → frB (sumQ hs (j + 1)) = true) ∧ Hid (c = false → ∃ j, j < k ∧ frB (sumQ hs (j + 1)) = false) ∧
        Blk wr w.heap.size 58 #[.int .i64 0, .int .i64 0] ∧ Blk wr (w.heap.size + 1) 58 #[.int .i64 (Wsh.qn c (sumQ hs k).num), .int .i64 (Wsh.qn c ((sumQ hs k).den : Int))] ∧ Below w.heap.size w wr) (fun _ i _ => hs.length - (intOf i).toNat)
    case atStart => exact ⟨0, true, Nat.zero_le _, rfl, rfl, fun j hj => by omega, (fun c => by cases c), (Blk.new _ _ _).alloc _, by have := Blk.new (w.alloc (.cells #[.int .i64 0, .int .i64 0] 58)) 58 #[.int .i64 0, .int .i64 1]; rw [World.size_alloc] at this; exact this, by go_grown⟩
    case round =>
      obtain ⟨k, c, hk, rfl, rfl, HK, HN, hR, hS, hB⟩ := hrel
      cases c with
      | false =>
        have hq : allQ hs = false := by
          obtain ⟨j, hj, hf⟩ := HN.out rfl; exact rng_no (by omega) hf
        have HQ := Lib.hid hq; obtain ⟨t0, t1, t2, t3, t4⟩ := jx1 hS; obtain ⟨r0, r1, r2, r3, r4⟩ := jx1 hR; clear hq hS hR; rw [Wsh.qn_false] at t0 t1; go_wp2_with fail
        all_goals exact bodyPost_ret (v := .tuple #[.agg #[.int .i64 0, .int .i64 0], .bool false]) (by simp [results, Try.results113, go_sem, r0, r1]) rfl ⟨by rw [HQ.out]; rfl, (hB.setCell (by simp) _).setCell (by simp) _⟩
      | true =>
        by_cases hlt : k < hs.length
        · obtain ⟨c0, c1, c2⟩ := jjg HC.out hB hlt
          have hf := (okF_is (HF.out k hlt)).1; have sr := sum_red hlt hf
          have qf : Wsh.vfB (sumQ hs k).num ((sumQ hs k).den : Int) = true := by
            cases k with
            | zero => exact q_vf frB_zero
            | succ k => exact q_vf (HK.out k (by omega) rfl)
          have y2 : ∀ c, frB (sumQ hs (k + 1)) = c → (∀ j, j < k + 1 → c = true → frB (sumQ hs (j + 1)) = true) ∧ (c = false → ∃ j, j < k + 1 ∧ frB (sumQ hs (j + 1)) = false) := fun c e => by
            refine ⟨fun j hj ct => ?_, fun cf => ⟨k, by omega, by rw [e, cf]⟩⟩
            by_cases ej : j = k
            · subst ej; rw [e, ct]
            · exact HK.out j (by omega) rfl
          obtain ⟨sr1, sr2, sr3⟩ := sr; generalize hcc : frB (sumQ hs (k + 1)) = cc at sr1 y2; have y3 := y2 cc rfl; generalize hs.getD k hd0 = hh at c0 c1 c2 hf sr1 sr2 sr3; obtain ⟨x, n, d⟩ := hh; dsimp only at c0 c1 c2 hf sr1 sr2 sr3; have A1 := Lib.hid sr1; have A2 := Lib.hid sr2; have A3 := Lib.hid sr3; have A4 := Lib.hid qf; have A5 := Lib.hid hf; have A6 := Lib.hid y3; have HS := Lib.hid hS; have HR := Lib.hid hR; have HB := Lib.hid hB; obtain ⟨t0, t1, t2, t3, t4⟩ := jx1 hS; clear sr1 sr2 sr3 qf hf y2 y3 hS hR hB hcc
          have hgne : g ≠ w.heap.size + 1 := by have := World.block_lt_of_cell? w _ (HC.out k hlt).1; dsimp only at this; omega
          have i0 : (0 : Int) ≤ (k : Int) := by omega
          have i1 : (k : Int) < (hs.length : Int) := by omega
          go_wp2_with fail
          go_region_with (first | (go_at_call 124; refine (saddQ _ A4.out A5.out A1.out A2.out A3.out).mono ?_; rintro e w3 ⟨rfl, hb⟩; obtain ⟨t0, t1, t2, t3, t4⟩ := jx1 (HS.out.drew.next hb)))
          all_goals (
            have hB3 := jq2 HB.out.drew hb; have hR3 := HR.out.drew.next hb; have hS3 := HS.out.drew.next hb; go_wp2_with fail
            go_roundw
            case rel => exact ⟨k + 1, cc, by omega, by go_num, rfl, A6.out.1, A6.out.2, (hR3.far (by simp) _).far (by simp) _, hS3.two _ _, (hB3.setCell (by simp) _).setCell (by simp) _⟩
            case measure => simp [intOf]; omega)
        · obtain rfl : hs.length = k := by omega
          have hq : allQ hs = true := rng_yes (fun j hj => HK.out j hj rfl); have HQ := Lib.hid hq; obtain ⟨t0, t1, t2, t3, t4⟩ := jx1 hS; obtain ⟨r0, r1, r2, r3, r4⟩ := jx1 hR; clear hq hS hR; rw [Wsh.qn_true] at t0 t1; go_wp2_with fail; exact bodyPost_ret (v := .tuple #[.agg #[.int .i64 (sumQ hs hs.length).num, .int .i64 ((sumQ hs hs.length).den : Int)], .bool true]) (by simp [results, Try.results113, go_sem, r0, r1]) rfl ⟨by rw [HQ.out]; rfl, (hB.setCell (by simp) _).setCell (by simp) _⟩
theorem vf_boolN {n d : Int} (h : Wsh.vfB n d = false) (w : World) : Calls Try.prog 109 #[.agg #[.int .i64 n, .int .i64 d]] w fun e w' => e = .returned (.bool false) ∧ Below w.heap.size w w' := by
 have := svalid n d w; rw [h] at this; exact this
theorem vf_boolY {n d : Int} (h : Wsh.vfB n d = true) (w : World) : Calls Try.prog 109 #[.agg #[.int .i64 n, .int .i64 d]] w fun e w' => e = .returned (.bool true) ∧ Below w.heap.size w w' := by
 have := svalid n d w; rw [h] at this; exact this
theorem vl_all {hs : List Hd} (h1 : ascB hs = true) (h2 : allF hs = true) : vlR hs = (allQ hs && decide (sumQ hs hs.length = 1) && decide (hs.length ≤ 12)) := by
 have e : allS hs = allQ hs := by
  unfold allS allQ; rw [Bool.eq_iff_iff, jji, jji]; unfold allF at h2; rw [jji] at h2; exact ⟨fun h j hj => (okS_is (h j hj)).2, fun h j hj => okS_yes (h2 j hj) (h j hj)⟩
 unfold vlR; rw [h1, e]
 cases allQ hs <;> cases decide (sumQ hs hs.length = 1) <;> cases decide (hs.length ≤ 12) <;> rfl
theorem vl_noF {hs : List Hd} {k : Nat} (hk : k < hs.length) (h : okF hs k = false) : vlR hs = false := vl_no2 hk (okS_no h)
theorem vl_noA {hs : List Hd} {k : Nat} (hk : k < hs.length) (h : okA hs k = false) : vlR hs = false := vl_no1 (rng_no hk h)
section
open Go.ChangeShapes Go.WideShapes Go.RowKit Go.Deep
abbrev Ac := Int × Int
abbrev ac0 : Ac := (0, 0)
def jxe : List Ac → List Int
 | [] => []
 | h :: t => h.1 :: h.2 :: jxe t
theorem flatAc_len : ∀ xs : List Ac, (jxe xs).length = xs.length * 2 := by
 intro xs
 induction xs with
 | nil => rfl
 | cons h t ih => show (jxe t).length + 1 + 1 = (t.length + 1) * 2; rw [ih]; omega
theorem flatAc_append : ∀ a b : List Ac, jxe (a ++ b) = jxe a ++ jxe b := by
 intro a b
 induction a with
 | nil => rfl
 | cons h t ih => show h.1 :: h.2 :: jxe (t ++ b) = _; rw [ih]; rfl
theorem flatAc_get : ∀ (xs : List Ac) (k : Nat), k < xs.length → (jxe xs).getD (k * 2) 0 = (xs.getD k ac0).1 ∧ (jxe xs).getD (k * 2 + 1) 0 = (xs.getD k ac0).2 := by
  intro xs
  induction xs with
  | nil => intro k h; simp at h
  | cons h t ih =>
    intro k hk
    cases k with
    | zero => exact ⟨rfl, rfl⟩
    | succ k =>
      have := ih k (by simpa using hk); rw [show (k + 1) * 2 = k * 2 + 1 + 1 from by omega]; exact this
def IsAc (w : World) (a : Option Addr) (xs : List Ac) : Prop := xs = [] ∨ ∃ g o, a = some ⟨g, o, none⟩ ∧ ∀ i, i < xs.length → w.cell? ⟨g, o + i * 2, none⟩ = some (.int .i64 (xs.getD i ac0).1) ∧ w.cell? ⟨g, o + i * 2 + 1, none⟩ = some (.int .i64 (xs.getD i ac0).2)
theorem ac_below {w w' : World} {a : Option Addr} {xs : List Ac} (h : IsAc w a xs) (hB : Below w.heap.size w w') : IsAc w' a xs := by
 rcases h with h | ⟨g, o, ha, hc⟩
 ·exact .inl h
 ·refine .inr ⟨g, o, ha, fun i hi => ?_⟩
  obtain ⟨c0, c1⟩ := hc i hi
  have kp : ∀ p v, w.cell? ⟨g, p, none⟩ = some v → w'.cell? ⟨g, p, none⟩ = some v := fun p v c => (hB.cell (p := ⟨g, p, none⟩) (World.block_lt_of_cell? w _ c)).trans c
  exact ⟨kp _ _ c0, kp _ _ c1⟩
theorem ac_at {w wr : World} {g o : Nat} {xs : List Ac} (hc : ∀ i, i < xs.length → w.cell? ⟨g, o + i * 2, none⟩ = some (.int .i64 (xs.getD i ac0).1) ∧ w.cell? ⟨g, o + i * 2 + 1, none⟩ = some (.int .i64 (xs.getD i ac0).2)) (hB : Below w.heap.size w wr) {k : Nat} (hk : k < xs.length) :
  wr.cell? ⟨g, o + k * 2, none⟩ = some (.int .i64 (xs.getD k ac0).1) ∧ wr.cell? ⟨g, o + k * 2 + 1, none⟩ = some (.int .i64 (xs.getD k ac0).2) := by
 obtain ⟨c0, c1⟩ := hc k hk
 have kp : ∀ p v, w.cell? ⟨g, p, none⟩ = some v → wr.cell? ⟨g, p, none⟩ = some v := fun p v c => (hB.cell (p := ⟨g, p, none⟩) (World.block_lt_of_cell? w _ c)).trans c
 exact ⟨kp _ _ c0, kp _ _ c1⟩
theorem Flat.ac {w : World} {g : Nat} {t : TypeId} {xs : List Ac} (h : Flat w g t (jxe xs)) : IsAc w (some ⟨g, 0, none⟩) xs := by
 refine .inr ⟨g, 0, rfl, fun i hi => ?_⟩; obtain ⟨a0, a1⟩ := flatAc_get xs i hi; have hl := flatAc_len xs; rw [Nat.zero_add]; exact ⟨by rw [h.cell (by omega), a0], by rw [h.cell (by omega), a1]⟩
def jv6 (xs : List Ac) : List Value := (jxe xs).map (Value.int .i64)
theorem valsAc_len (xs : List Ac) : (jv6 xs).length = xs.length * 2 := by unfold jv6; rw [List.length_map, flatAc_len]
theorem valsAc_append (a b : List Ac) : jv6 (a ++ b) = jv6 a ++ jv6 b := by unfold jv6; rw [flatAc_append, List.map_append]
theorem jv0 (xs : List Ac) : ∀ u ∈ jv6 xs, u.oneCell' = true := fun u hu => by
 unfold jv6 at hu; obtain ⟨z, _, rfl⟩ := List.mem_map.1 hu
 rfl
theorem valsAc_get {xs : List Ac} {k : Nat} (h : k < xs.length) : (jv6 xs)[k * 2]? = some (.int .i64 (xs.getD k ac0).1) ∧ (jv6 xs)[k * 2 + 1]? = some (.int .i64 (xs.getD k ac0).2) := by
 obtain ⟨a0, a1⟩ := flatAc_get xs k h; have hl := flatAc_len xs
 have get : ∀ j, j < (jxe xs).length → (jv6 xs)[j]? = some (.int .i64 ((jxe xs).getD j 0)) := fun j hj => by
  unfold jv6; rw [List.getElem?_map, List.getElem?_eq_getElem hj, List.getD_eq_getElem?_getD, List.getElem?_eq_getElem hj]; rfl
 rw [get _ (by omega), get _ (by omega), a0, a1]; exact ⟨rfl, rfl⟩
theorem ac_reads {w : World} {a : Option Addr} {xs : List Ac} (h : IsAc w a xs) : Reads w w.heap.size 2 a xs.length (jv6 xs) := by
 refine ⟨valsAc_len xs, fun hn => ?_⟩
 rcases h with rfl | ⟨g, o, rfl, hc⟩
 ·exact absurd hn (by simp)
 ·refine ⟨⟨g, o, none⟩, rfl, ?_, fun j u hu => ?_⟩
  ·exact World.block_lt_of_cell? w _ (hc 0 hn).1
  ·have hl := valsAc_len xs
   have hj : j < (jv6 xs).length := by
    rcases Nat.lt_or_ge j (jv6 xs).length with h | h
    ·exact h
    ·rw [List.getElem?_eq_none h] at hu; cases hu
   have hk : j / 2 < xs.length := by omega
   obtain ⟨c0, c1⟩ := hc _ hk; obtain ⟨v0, v1⟩ := valsAc_get hk
   have hm : j % 2 = 0 ∨ j % 2 = 1 := by omega
   rw [add_off]
   rcases hm with e | e
   ·have ej : j = j / 2 * 2 := by omega
    rw [ej] at hu ⊢; rw [v0] at hu; rw [c0, ← hu]
   ·have ej : j = j / 2 * 2 + 1 := by omega
    rw [ej] at hu ⊢; rw [v1] at hu; rw [← Nat.add_assoc, c1, ← hu]
theorem infoAc : (Try.prog.info? 53).map (fun i => (i.zero, i.size, i.bytes)) = some (some (.agg #[.int .i64 0, .int .i64 0]), 2, 16) := by kernel_rfl
def OwnAc (w : World) (base : Nat) (v : Value) (xs : List Ac) : Prop := w.ownsRow base 53 2 v xs.length (jv6 xs)
end
section
open Go.ChangeShapes Go.WideShapes Go.RowKit Go.Deep
abbrev Tn := Int × Int
abbrev tn0 : Tn := (0, 0)
def jx0 : List Tn → List Int
 | [] => []
 | h :: t => h.1 :: h.2 :: jx0 t
theorem flatTn_len : ∀ xs : List Tn, (jx0 xs).length = xs.length * 2 := by
 intro xs
 induction xs with
 | nil => rfl
 | cons h t ih => show (jx0 t).length + 1 + 1 = (t.length + 1) * 2; rw [ih]; omega
theorem flatTn_append : ∀ a b : List Tn, jx0 (a ++ b) = jx0 a ++ jx0 b := by
 intro a b
 induction a with
 | nil => rfl
 | cons h t ih => show h.1 :: h.2 :: jx0 (t ++ b) = _; rw [ih]; rfl
theorem flatTn_get : ∀ (xs : List Tn) (k : Nat), k < xs.length → (jx0 xs).getD (k * 2) 0 = (xs.getD k tn0).1 ∧ (jx0 xs).getD (k * 2 + 1) 0 = (xs.getD k tn0).2 := by
  intro xs
  induction xs with
  | nil => intro k h; simp at h
  | cons h t ih =>
    intro k hk
    cases k with
    | zero => exact ⟨rfl, rfl⟩
    | succ k =>
      have := ih k (by simpa using hk); rw [show (k + 1) * 2 = k * 2 + 1 + 1 from by omega]; exact this
def IsTn (w : World) (a : Option Addr) (xs : List Tn) : Prop := xs = [] ∨ ∃ g o, a = some ⟨g, o, none⟩ ∧ ∀ i, i < xs.length → w.cell? ⟨g, o + i * 2, none⟩ = some (.int .i64 (xs.getD i tn0).1) ∧ w.cell? ⟨g, o + i * 2 + 1, none⟩ = some (.int .i64 (xs.getD i tn0).2)
theorem tn_below {w w' : World} {a : Option Addr} {xs : List Tn} (h : IsTn w a xs) (hB : Below w.heap.size w w') : IsTn w' a xs := by
 rcases h with h | ⟨g, o, ha, hc⟩
 ·exact .inl h
 ·refine .inr ⟨g, o, ha, fun i hi => ?_⟩
  obtain ⟨c0, c1⟩ := hc i hi
  have kp : ∀ p v, w.cell? ⟨g, p, none⟩ = some v → w'.cell? ⟨g, p, none⟩ = some v := fun p v c => (hB.cell (p := ⟨g, p, none⟩) (World.block_lt_of_cell? w _ c)).trans c
  exact ⟨kp _ _ c0, kp _ _ c1⟩
theorem tn_at {w wr : World} {g o : Nat} {xs : List Tn} (hc : ∀ i, i < xs.length → w.cell? ⟨g, o + i * 2, none⟩ = some (.int .i64 (xs.getD i tn0).1) ∧ w.cell? ⟨g, o + i * 2 + 1, none⟩ = some (.int .i64 (xs.getD i tn0).2)) (hB : Below w.heap.size w wr) {k : Nat} (hk : k < xs.length) :
  wr.cell? ⟨g, o + k * 2, none⟩ = some (.int .i64 (xs.getD k tn0).1) ∧ wr.cell? ⟨g, o + k * 2 + 1, none⟩ = some (.int .i64 (xs.getD k tn0).2) := by
 obtain ⟨c0, c1⟩ := hc k hk
 have kp : ∀ p v, w.cell? ⟨g, p, none⟩ = some v → wr.cell? ⟨g, p, none⟩ = some v := fun p v c => (hB.cell (p := ⟨g, p, none⟩) (World.block_lt_of_cell? w _ c)).trans c
 exact ⟨kp _ _ c0, kp _ _ c1⟩
theorem Flat.tn {w : World} {g : Nat} {t : TypeId} {xs : List Tn} (h : Flat w g t (jx0 xs)) : IsTn w (some ⟨g, 0, none⟩) xs := by
 refine .inr ⟨g, 0, rfl, fun i hi => ?_⟩; obtain ⟨a0, a1⟩ := flatTn_get xs i hi; have hl := flatTn_len xs; rw [Nat.zero_add]; exact ⟨by rw [h.cell (by omega), a0], by rw [h.cell (by omega), a1]⟩
def jj6 (xs : List Tn) : List Value := (jx0 xs).map (Value.int .i64)
theorem valsTn_len (xs : List Tn) : (jj6 xs).length = xs.length * 2 := by unfold jj6; rw [List.length_map, flatTn_len]
theorem valsTn_append (a b : List Tn) : jj6 (a ++ b) = jj6 a ++ jj6 b := by unfold jj6; rw [flatTn_append, List.map_append]
theorem valsTn_one (xs : List Tn) : ∀ u ∈ jj6 xs, u.oneCell' = true := fun u hu => by
 unfold jj6 at hu; obtain ⟨z, _, rfl⟩ := List.mem_map.1 hu
 rfl
theorem valsTn_get {xs : List Tn} {k : Nat} (h : k < xs.length) : (jj6 xs)[k * 2]? = some (.int .i64 (xs.getD k tn0).1) ∧ (jj6 xs)[k * 2 + 1]? = some (.int .i64 (xs.getD k tn0).2) := by
 obtain ⟨a0, a1⟩ := flatTn_get xs k h; have hl := flatTn_len xs
 have get : ∀ j, j < (jx0 xs).length → (jj6 xs)[j]? = some (.int .i64 ((jx0 xs).getD j 0)) := fun j hj => by
  unfold jj6; rw [List.getElem?_map, List.getElem?_eq_getElem hj, List.getD_eq_getElem?_getD, List.getElem?_eq_getElem hj]; rfl
 rw [get _ (by omega), get _ (by omega), a0, a1]; exact ⟨rfl, rfl⟩
theorem tn_reads {w : World} {a : Option Addr} {xs : List Tn} (h : IsTn w a xs) : Reads w w.heap.size 2 a xs.length (jj6 xs) := by
 refine ⟨valsTn_len xs, fun hn => ?_⟩
 rcases h with rfl | ⟨g, o, rfl, hc⟩
 ·exact absurd hn (by simp)
 ·refine ⟨⟨g, o, none⟩, rfl, ?_, fun j u hu => ?_⟩
  ·exact World.block_lt_of_cell? w _ (hc 0 hn).1
  ·have hl := valsTn_len xs
   have hj : j < (jj6 xs).length := by
    rcases Nat.lt_or_ge j (jj6 xs).length with h | h
    ·exact h
    ·rw [List.getElem?_eq_none h] at hu; cases hu
   have hk : j / 2 < xs.length := by omega
   obtain ⟨c0, c1⟩ := hc _ hk; obtain ⟨v0, v1⟩ := valsTn_get hk
   have hm : j % 2 = 0 ∨ j % 2 = 1 := by omega
   rw [add_off]
   rcases hm with e | e
   ·have ej : j = j / 2 * 2 := by omega
    rw [ej] at hu ⊢; rw [v0] at hu; rw [c0, ← hu]
   ·have ej : j = j / 2 * 2 + 1 := by omega
    rw [ej] at hu ⊢; rw [v1] at hu; rw [← Nat.add_assoc, c1, ← hu]
theorem infoTn : (Try.prog.info? 110).map (fun i => (i.zero, i.size, i.bytes)) = some (some (.agg #[.int .i64 0, .int .i64 0]), 2, 16) := by kernel_rfl
end
def sumT : List Tn → Int
 | [] => 0
 | h :: t => h.2 + sumT t
theorem sumT_append (a b : List Tn) : sumT (a ++ b) = sumT a + sumT b := by
 induction a with
 | nil => show sumT b = 0 + sumT b; omega
 | cons h t ih => show h.2 + sumT (t ++ b) = h.2 + sumT t + sumT b; rw [ih]; omega
theorem sumT_succ {ts : List Tn} {k : Nat} (h : k < ts.length) : sumT (ts.take (k + 1)) = sumT (ts.take k) + (ts.getD k tn0).2 := by
 rw [take_snocD ts h tn0, sumT_append]
 show _ + ((ts.getD k tn0).2 + 0) = _
 omega
def okT (ts : List Tn) (k : Nat) : Bool := decide (1 ≤ (ts.getD k tn0).1) && decide ((ts.getD k tn0).1 ≤ 999) && decide (1 ≤ (ts.getD k tn0).2) && decide ((ts.getD k tn0).2 ≤ 336)
theorem okT_iff (ts : List Tn) (k : Nat) : okT ts k = true ↔ 1 ≤ (ts.getD k tn0).1 ∧ (ts.getD k tn0).1 ≤ 999 ∧ 1 ≤ (ts.getD k tn0).2 ∧ (ts.getD k tn0).2 ≤ 336 := by
 unfold okT; simp only [Bool.and_eq_true, decide_eq_true_eq, and_assoc]
theorem okT_no {ts : List Tn} {k : Nat} (h : ¬ (1 ≤ (ts.getD k tn0).1 ∧ (ts.getD k tn0).1 ≤ 999 ∧ 1 ≤ (ts.getD k tn0).2 ∧ (ts.getD k tn0).2 ≤ 336)) : okT ts k = false := by
 rw [Bool.eq_false_iff]; exact fun c => h ((okT_iff ts k).1 c)
def allT (ts : List Tn) : Bool := (List.range ts.length).all (okT ts)
def vtB (ts : List Tn) : Bool := decide (1 ≤ ts.length) && decide (ts.length ≤ 24) && allT ts && decide (sumT ts ≤ 336)
theorem sumT_bd {ts : List Tn} : ∀ k, k ≤ ts.length → (∀ j, j < k → okT ts j = true) → (k : Int) ≤ sumT (ts.take k) ∧ sumT (ts.take k) ≤ 336 * (k : Int) := by
  intro k
  induction k with
  | zero => intro _ _; exact ⟨by show (0 : Int) ≤ 0; omega, by show (0 : Int) ≤ 336 * ((0 : Nat) : Int); omega⟩
  | succ k ih =>
    intro hk h; have a := ih (by omega) (fun j hj => h j (by omega)); have b := (okT_iff ts k).1 (h k (by omega)); rw [sumT_succ (by omega)]
    omega
theorem sumT_all (ts : List Tn) : sumT (ts.take ts.length) = sumT ts := by rw [List.take_of_length_le (Nat.le_refl _)]
theorem vt_is {ts : List Tn} (h : vtB ts = true) : 1 ≤ ts.length ∧ ts.length ≤ 24 ∧ (∀ j, j < ts.length → okT ts j = true) ∧ 1 ≤ sumT ts ∧ sumT ts ≤ 336 := by
 unfold vtB allT at h; simp only [Bool.and_eq_true, decide_eq_true_eq, jji] at h; obtain ⟨⟨⟨a, b⟩, c⟩, d⟩ := h; have := (sumT_bd ts.length (Nat.le_refl _) c).1; rw [sumT_all] at this; exact ⟨a, b, c, by omega, d⟩
theorem vt_no0 {ts : List Tn} (h : ts.length < 1) : vtB ts = false := by unfold vtB; rw [decide_eq_false (by omega : ¬ 1 ≤ ts.length)]; rfl
theorem vt_no1 {ts : List Tn} (h : 24 < ts.length) : vtB ts = false := by unfold vtB; rw [decide_eq_false (by omega : ¬ ts.length ≤ 24)]; simp
theorem vt_no2 {ts : List Tn} {k : Nat} (hk : k < ts.length) (h : okT ts k = false) : vtB ts = false := by unfold vtB allT; rw [rng_no hk h]; simp
theorem vt_end {ts : List Tn} (h1 : 1 ≤ ts.length) (h2 : ts.length ≤ 24) (h3 : ∀ j, j < ts.length → okT ts j = true) : vtB ts = decide (sumT ts ≤ 336) := by
 unfold vtB allT; rw [decide_eq_true h1, decide_eq_true h2, rng_yes h3]; rfl
def idxT : List Tn → Int → Nat
 | [], _ => 0
 | h :: r, t => if t < h.2 then 0 else idxT r (t - h.2) + 1
theorem sumT_pos : ∀ (k : Nat) (ts : List Tn), (∀ j, j < k → 0 ≤ (ts.getD j tn0).2) → 0 ≤ sumT (ts.take k) := by
  intro k
  induction k with
  | zero => intro ts _; exact Int.le_refl _
  | succ k ih =>
    intro ts h
    cases ts with
    | nil => exact Int.le_refl _
    | cons x r =>
      have a := ih r (fun j hj => h (j + 1) (by omega)); have b : 0 ≤ x.2 := h 0 (by omega)
      show 0 ≤ x.2 + sumT (r.take k)
      omega
theorem idx_at : ∀ (k : Nat) (ts : List Tn) (t : Int), k < ts.length → (∀ j, j < ts.length → 0 ≤ (ts.getD j tn0).2) → sumT (ts.take k) ≤ t → t < sumT (ts.take (k + 1)) → idxT ts t = k := by
  intro k
  induction k with
  | zero =>
    intro ts t hk hp h1 h2
    cases ts with
    | nil => simp at hk
    | cons x r =>
      have h2 : t < x.2 + 0 := h2
      show (if t < x.2 then 0 else _) = 0
      rw [if_pos (by omega)]
  | succ k ih =>
    intro ts t hk hp h1 h2
    cases ts with
    | nil => simp at hk
    | cons x r =>
      have h1 : x.2 + sumT (r.take k) ≤ t := h1; have h2 : t < x.2 + sumT (r.take (k + 1)) := h2
      have hk' : k < r.length := by simpa using hk
      have p := sumT_pos k r (fun j hj => hp (j + 1) (by simp; omega))
      show (if t < x.2 then 0 else idxT r (t - x.2) + 1) = k + 1
      rw [if_neg (by omega), ih r (t - x.2) hk' (fun j hj => hp (j + 1) (by simp; omega)) (by omega) (by omega)]
theorem idx_lt : ∀ (ts : List Tn) (t : Int), t < sumT ts → 0 ≤ t → idxT ts t < ts.length := by
  intro ts
  induction ts with
  | nil => intro t h h0; have h : t < 0 := h; omega
  | cons x r ih =>
    intro t h h0; have h : t < x.2 + sumT r := h
    show (if t < x.2 then 0 else idxT r (t - x.2) + 1) < r.length + 1
    by_cases c : t < x.2
    · rw [if_pos c]; omega
    · rw [if_neg c]; have := ih (t - x.2) (by omega) (by omega); omega
def whoT (ts : List Tn) (t : Int) : Int := (ts.getD (idxT ts t) tn0).1
def whoM (ts : List Tn) (t : Int) : Int := whoT ts (t % sumT ts)
section
open Go.ChangeShapes Go.WideShapes Go.RowKit Go.Deep
abbrev Nd := Int × Int × Int × Int × Int
abbrev nd0 : Nd := (0, 0, 0, 0, 0)
def jx4 : List Nd → List Int
 | [] => []
 | h :: t => h.1 :: h.2.1 :: h.2.2.1 :: h.2.2.2.1 :: h.2.2.2.2 :: jx4 t
theorem flatNd_len : ∀ xs : List Nd, (jx4 xs).length = xs.length * 5 := by
 intro xs
 induction xs with
 | nil => rfl
 | cons h t ih => show (jx4 t).length + 1 + 1 + 1 + 1 + 1 = (t.length + 1) * 5; rw [ih]; omega
theorem flatNd_append : ∀ a b : List Nd, jx4 (a ++ b) = jx4 a ++ jx4 b := by
 intro a b
 induction a with
 | nil => rfl
 | cons h t ih => show h.1 :: h.2.1 :: h.2.2.1 :: h.2.2.2.1 :: h.2.2.2.2 :: jx4 (t ++ b) = _; rw [ih]; rfl
theorem flatNd_get : ∀ (xs : List Nd) (k : Nat), k < xs.length → (jx4 xs).getD (k * 5) 0 = (xs.getD k nd0).1 ∧ (jx4 xs).getD (k * 5 + 1) 0 = (xs.getD k nd0).2.1 ∧ (jx4 xs).getD (k * 5 + 2) 0 = (xs.getD k nd0).2.2.1 ∧ (jx4 xs).getD (k * 5 + 3) 0 = (xs.getD k nd0).2.2.2.1 ∧ (jx4 xs).getD (k * 5 + 4) 0 = (xs.getD k nd0).2.2.2.2 := by
  intro xs
  induction xs with
  | nil => intro k h; simp at h
  | cons h t ih =>
    intro k hk
    cases k with
    | zero => exact ⟨rfl, rfl, rfl, rfl, rfl⟩
    | succ k =>
      have := ih k (by simpa using hk); rw [show (k + 1) * 5 = k * 5 + 1 + 1 + 1 + 1 + 1 from by omega]; exact this
def IsNd (w : World) (a : Option Addr) (xs : List Nd) : Prop := xs = [] ∨ ∃ g o, a = some ⟨g, o, none⟩ ∧ ∀ i, i < xs.length → w.cell? ⟨g, o + i * 5, none⟩ = some (.int .i64 (xs.getD i nd0).1) ∧ w.cell? ⟨g, o + i * 5 + 1, none⟩ = some (.int .i64 (xs.getD i nd0).2.1) ∧ w.cell? ⟨g, o + i * 5 + 2, none⟩ = some (.int .i64 (xs.getD i nd0).2.2.1) ∧ w.cell? ⟨g, o + i * 5 + 3, none⟩ = some (.int .i64 (xs.getD i nd0).2.2.2.1) ∧ w.cell? ⟨g, o + i * 5 + 4, none⟩ = some (.int .i64 (xs.getD i nd0).2.2.2.2)
theorem nd_below {w w' : World} {a : Option Addr} {xs : List Nd} (h : IsNd w a xs) (hB : Below w.heap.size w w') : IsNd w' a xs := by
 rcases h with h | ⟨g, o, ha, hc⟩
 ·exact .inl h
 ·refine .inr ⟨g, o, ha, fun i hi => ?_⟩
  obtain ⟨c0, c1, c2, c3, c4⟩ := hc i hi
  have kp : ∀ p v, w.cell? ⟨g, p, none⟩ = some v → w'.cell? ⟨g, p, none⟩ = some v := fun p v c => (hB.cell (p := ⟨g, p, none⟩) (World.block_lt_of_cell? w _ c)).trans c
  exact ⟨kp _ _ c0, kp _ _ c1, kp _ _ c2, kp _ _ c3, kp _ _ c4⟩
theorem nd_at {w wr : World} {g o : Nat} {xs : List Nd} (hc : ∀ i, i < xs.length → w.cell? ⟨g, o + i * 5, none⟩ = some (.int .i64 (xs.getD i nd0).1) ∧ w.cell? ⟨g, o + i * 5 + 1, none⟩ = some (.int .i64 (xs.getD i nd0).2.1) ∧ w.cell? ⟨g, o + i * 5 + 2, none⟩ = some (.int .i64 (xs.getD i nd0).2.2.1) ∧ w.cell? ⟨g, o + i * 5 + 3, none⟩ = some (.int .i64 (xs.getD i nd0).2.2.2.1) ∧ w.cell? ⟨g, o + i * 5 + 4, none⟩ = some (.int .i64 (xs.getD i nd0).2.2.2.2)) (hB : Below w.heap.size w wr) {k : Nat} (hk : k < xs.length) :
  wr.cell? ⟨g, o + k * 5, none⟩ = some (.int .i64 (xs.getD k nd0).1) ∧ wr.cell? ⟨g, o + k * 5 + 1, none⟩ = some (.int .i64 (xs.getD k nd0).2.1) ∧ wr.cell? ⟨g, o + k * 5 + 2, none⟩ = some (.int .i64 (xs.getD k nd0).2.2.1) ∧ wr.cell? ⟨g, o + k * 5 + 3, none⟩ = some (.int .i64 (xs.getD k nd0).2.2.2.1) ∧ wr.cell? ⟨g, o + k * 5 + 4, none⟩ = some (.int .i64 (xs.getD k nd0).2.2.2.2) := by
 obtain ⟨c0, c1, c2, c3, c4⟩ := hc k hk
 have kp : ∀ p v, w.cell? ⟨g, p, none⟩ = some v → wr.cell? ⟨g, p, none⟩ = some v := fun p v c => (hB.cell (p := ⟨g, p, none⟩) (World.block_lt_of_cell? w _ c)).trans c
 exact ⟨kp _ _ c0, kp _ _ c1, kp _ _ c2, kp _ _ c3, kp _ _ c4⟩
theorem Flat.nd {w : World} {g : Nat} {t : TypeId} {xs : List Nd} (h : Flat w g t (jx4 xs)) : IsNd w (some ⟨g, 0, none⟩) xs := by
 refine .inr ⟨g, 0, rfl, fun i hi => ?_⟩; obtain ⟨a0, a1, a2, a3, a4⟩ := flatNd_get xs i hi; have hl := flatNd_len xs; rw [Nat.zero_add]; exact ⟨by rw [h.cell (by omega), a0], by rw [h.cell (by omega), a1], by rw [h.cell (by omega), a2], by rw [h.cell (by omega), a3], by rw [h.cell (by omega), a4]⟩
def jv2 (xs : List Nd) : List Value := (jx4 xs).map (Value.int .i64)
theorem valsNd_len (xs : List Nd) : (jv2 xs).length = xs.length * 5 := by unfold jv2; rw [List.length_map, flatNd_len]
theorem valsNd_one (xs : List Nd) : ∀ u ∈ jv2 xs, u.oneCell' = true := fun u hu => by
 unfold jv2 at hu; obtain ⟨z, _, rfl⟩ := List.mem_map.1 hu
 rfl
theorem valsNd_get {xs : List Nd} {k : Nat} (h : k < xs.length) : (jv2 xs)[k * 5]? = some (.int .i64 (xs.getD k nd0).1) ∧ (jv2 xs)[k * 5 + 1]? = some (.int .i64 (xs.getD k nd0).2.1) ∧ (jv2 xs)[k * 5 + 2]? = some (.int .i64 (xs.getD k nd0).2.2.1) ∧ (jv2 xs)[k * 5 + 3]? = some (.int .i64 (xs.getD k nd0).2.2.2.1) ∧ (jv2 xs)[k * 5 + 4]? = some (.int .i64 (xs.getD k nd0).2.2.2.2) := by
 obtain ⟨a0, a1, a2, a3, a4⟩ := flatNd_get xs k h; have hl := flatNd_len xs
 have get : ∀ j, j < (jx4 xs).length → (jv2 xs)[j]? = some (.int .i64 ((jx4 xs).getD j 0)) := fun j hj => by
  unfold jv2; rw [List.getElem?_map, List.getElem?_eq_getElem hj, List.getD_eq_getElem?_getD, List.getElem?_eq_getElem hj]; rfl
 rw [get _ (by omega), get _ (by omega), get _ (by omega), get _ (by omega), get _ (by omega), a0, a1, a2, a3, a4]; exact ⟨rfl, rfl, rfl, rfl, rfl⟩
theorem nd_reads {w : World} {a : Option Addr} {xs : List Nd} (h : IsNd w a xs) : Reads w w.heap.size 5 a xs.length (jv2 xs) := by
 refine ⟨valsNd_len xs, fun hn => ?_⟩
 rcases h with rfl | ⟨g, o, rfl, hc⟩
 ·exact absurd hn (by simp)
 ·refine ⟨⟨g, o, none⟩, rfl, ?_, fun j u hu => ?_⟩
  ·exact World.block_lt_of_cell? w _ (hc 0 hn).1
  ·have hl := valsNd_len xs
   have hj : j < (jv2 xs).length := by
    rcases Nat.lt_or_ge j (jv2 xs).length with h | h
    ·exact h
    ·rw [List.getElem?_eq_none h] at hu; cases hu
   have hk : j / 5 < xs.length := by omega
   obtain ⟨c0, c1, c2, c3, c4⟩ := hc _ hk; obtain ⟨v0, v1, v2, v3, v4⟩ := valsNd_get hk
   have hm : j % 5 = 0 ∨ j % 5 = 1 ∨ j % 5 = 2 ∨ j % 5 = 3 ∨ j % 5 = 4 := by omega
   rw [add_off]
   rcases hm with e | e | e | e | e
   ·have ej : j = j / 5 * 5 := by omega
    rw [ej] at hu ⊢; rw [v0] at hu; rw [c0, ← hu]
   ·have ej : j = j / 5 * 5 + 1 := by omega
    rw [ej] at hu ⊢; rw [v1] at hu; rw [← Nat.add_assoc, c1, ← hu]
   ·have ej : j = j / 5 * 5 + 2 := by omega
    rw [ej] at hu ⊢; rw [v2] at hu; rw [← Nat.add_assoc, c2, ← hu]
   ·have ej : j = j / 5 * 5 + 3 := by omega
    rw [ej] at hu ⊢; rw [v3] at hu; rw [← Nat.add_assoc, c3, ← hu]
   ·have ej : j = j / 5 * 5 + 4 := by omega
    rw [ej] at hu ⊢; rw [v4] at hu; rw [← Nat.add_assoc, c4, ← hu]
theorem infoNd : (Try.prog.info? 149).map (fun i => (i.zero, i.size, i.bytes)) = some (some (.agg #[.int .i64 0, .int .i64 0, .int .i64 0, .int .i64 0, .int .i64 0]), 5, 40) := by kernel_rfl
end
def mB (x : Nd) : Bool := (decide (0 ≤ x.2.1) && decide (x.2.1 ≤ 1000)) && (decide (0 ≤ x.2.2.1) && decide (x.2.2.1 ≤ 500)) && (decide (0 ≤ x.2.2.2.1) && decide (x.2.2.2.1 ≤ 500)) && (decide (0 ≤ x.2.2.2.2) && decide (x.2.2.2.2 ≤ 20))
def pB (p : Int) (k : Nat) : Bool := if k = 0 then decide (p = -1) else decide (0 ≤ p) && decide (p < (k : Int))
def okN (ns : List Nd) (k : Nat) : Bool := pB (ns.getD k nd0).1 k && mB (ns.getD k nd0)
def vnB (ns : List Nd) : Bool := decide (1 ≤ ns.length) && decide (ns.length ≤ 12) && (List.range ns.length).all (okN ns)
theorem mB_iff (x : Nd) : mB x = true ↔ (0 ≤ x.2.1 ∧ x.2.1 ≤ 1000) ∧ (0 ≤ x.2.2.1 ∧ x.2.2.1 ≤ 500) ∧ (0 ≤ x.2.2.2.1 ∧ x.2.2.2.1 ≤ 500) ∧ (0 ≤ x.2.2.2.2 ∧ x.2.2.2.2 ≤ 20) := by
 unfold mB; simp only [Bool.and_eq_true, decide_eq_true_eq, and_assoc]
theorem pB_zero (p : Int) : pB p 0 = decide (p = -1) := rfl
theorem pB_pos (p : Int) {k : Nat} (h : 0 < k) : pB p k = (decide (0 ≤ p) && decide (p < (k : Int))) := by unfold pB; rw [if_neg (by omega)]
theorem vn_no2 {ns : List Nd} {k : Nat} (hk : k < ns.length) (h : okN ns k = false) : vnB ns = false := by unfold vnB; rw [rng_no hk h]; simp
theorem vn_end {ns : List Nd} (h3 : ∀ j, j < ns.length → okN ns j = true) : vnB ns = (decide (1 ≤ (ns.length : Int)) && decide ((ns.length : Int) ≤ 12)) := by
 unfold vnB; rw [rng_yes h3, Bool.and_true]
 congr 1
 ·by_cases h : 1 ≤ ns.length
  ·rw [decide_eq_true h, decide_eq_true (by omega)]
  ·rw [decide_eq_false h, decide_eq_false (by omega)]
 ·by_cases h : ns.length ≤ 12
  ·rw [decide_eq_true h, decide_eq_true (by omega)]
  ·rw [decide_eq_false h, decide_eq_false (by omega)]
theorem vn_is {ns : List Nd} (h : vnB ns = true) : 1 ≤ ns.length ∧ ns.length ≤ 12 ∧ ∀ j, j < ns.length → okN ns j = true := by
 unfold vnB at h; simp only [Bool.and_eq_true, decide_eq_true_eq, jji] at h; exact ⟨h.1.1, h.1.2, h.2⟩
theorem vn_at {ns : List Nd} (h : vnB ns = true) {k : Nat} (hk : k < ns.length) :
  (0 ≤ (ns.getD k nd0).2.1 ∧ (ns.getD k nd0).2.1 ≤ 1000) ∧ (0 ≤ (ns.getD k nd0).2.2.1 ∧ (ns.getD k nd0).2.2.1 ≤ 500) ∧ (0 ≤ (ns.getD k nd0).2.2.2.1 ∧ (ns.getD k nd0).2.2.2.1 ≤ 500) ∧ (0 ≤ (ns.getD k nd0).2.2.2.2 ∧ (ns.getD k nd0).2.2.2.2 ≤ 20) := by
 have := (vn_is h).2.2 k hk; unfold okN at this; rw [Bool.and_eq_true] at this; exact (mB_iff _).1 this.2
theorem vn_par0 {ns : List Nd} (h : vnB ns = true) : (ns.getD 0 nd0).1 = -1 := by
 have := (vn_is h).2.2 0 (vn_is h).1; unfold okN at this; rw [Bool.and_eq_true, pB_zero, decide_eq_true_eq] at this; exact this.1
theorem vn_par {ns : List Nd} (h : vnB ns = true) {k : Nat} (hk : k < ns.length) (h0 : 0 < k) : 0 ≤ (ns.getD k nd0).1 ∧ (ns.getD k nd0).1 < (k : Int) := by
 have := (vn_is h).2.2 k hk; unfold okN at this; rw [Bool.and_eq_true, pB_pos _ h0, Bool.and_eq_true, decide_eq_true_eq, decide_eq_true_eq] at this; exact this.1
theorem vn_parI {ns : List Nd} (h : vnB ns = true) {k : Nat} (hk : k < ns.length) : -1 ≤ (ns.getD k nd0).1 ∧ (ns.getD k nd0).1 < (k : Int) := by
 by_cases h0 : 0 < k
 ·have := vn_par h hk h0; omega
 ·obtain rfl : k = 0 := by omega
  rw [vn_par0 h]; constructor <;> omega
def inN (n : Nat) (i : Int) : Bool := decide (0 ≤ i) && decide (i < (n : Int))
theorem inN_yes {n : Nat} {i : Int} (h : inN n i = true) : ∃ k : Nat, i = (k : Int) ∧ k < n := by
 unfold inN at h; simp only [Bool.and_eq_true, decide_eq_true_eq] at h; exact ⟨i.toNat, by omega, by omega⟩
def jxi (ns : List Nd) (at_ : Int) : Nat → List Int
 | 0 => []
 | k + 1 => if (ns.getD k nd0).1 = at_ then jxi ns at_ k ++ [(k : Int)] else jxi ns at_ k
theorem kidsTo_yes {ns : List Nd} {at_ : Int} {k : Nat} (h : (ns.getD k nd0).1 = at_) : jxi ns at_ (k + 1) = jxi ns at_ k ++ [(k : Int)] := if_pos h
theorem kidsTo_no {ns : List Nd} {at_ : Int} {k : Nat} (h : ¬ (ns.getD k nd0).1 = at_) : jxi ns at_ (k + 1) = jxi ns at_ k := if_neg h
theorem kidsTo_len (ns : List Nd) (at_ : Int) : ∀ k, (jxi ns at_ k).length ≤ k := by
  intro k
  induction k with
  | zero => exact Nat.le_refl _
  | succ k ih =>
    by_cases h : (ns.getD k nd0).1 = at_
    · rw [kidsTo_yes h, List.length_append]; show _ + 1 ≤ _; omega
    · rw [kidsTo_no h]; omega
def jzj (ns : List Nd) (at_ : Int) : List Int := jxi ns at_ ns.length
theorem kidsTo_mem (ns : List Nd) (at_ : Int) : ∀ k, ∀ z ∈ jxi ns at_ k, ∃ j : Nat, z = (j : Int) ∧ j < k ∧ (ns.getD j nd0).1 = at_ := by
  intro k
  induction k with
  | zero => intro z h; cases h
  | succ k ih =>
    intro z hz
    by_cases h : (ns.getD k nd0).1 = at_
    · rw [kidsTo_yes h, List.mem_append, List.mem_singleton] at hz
      rcases hz with hz | rfl
      · obtain ⟨j, a, b, c⟩ := ih z hz; exact ⟨j, a, by omega, c⟩
      · exact ⟨k, rfl, by omega, h⟩
    · rw [kidsTo_no h] at hz
      obtain ⟨j, a, b, c⟩ := ih z hz; exact ⟨j, a, by omega, c⟩
theorem kidsTo_in {ns : List Nd} {at_ : Int} {j : Nat} (h : (ns.getD j nd0).1 = at_) : ∀ k, j < k → (j : Int) ∈ jxi ns at_ k := by
  intro k
  induction k with
  | zero => intro h; omega
  | succ k ih =>
    intro hk
    by_cases e : j = k
    · subst e; rw [kidsTo_yes h]; exact List.mem_append_right _ (List.mem_singleton.2 rfl)
    · have := ih (by omega)
      by_cases h2 : (ns.getD k nd0).1 = at_
      · rw [kidsTo_yes h2]; exact List.mem_append_left _ this
      · rw [kidsTo_no h2]; exact this
theorem kids_bd {ns : List Nd} {at_ : Int} {z : Int} (h : z ∈ jzj ns at_) : ∃ j : Nat, z = (j : Int) ∧ j < ns.length ∧ (ns.getD j nd0).1 = at_ := kidsTo_mem ns at_ _ z h
def leavesTo (ns : List Nd) : Nat → List Int
 | 0 => []
 | k + 1 => if (jzj ns (k : Int)).length = 0 then leavesTo ns k ++ [(k : Int)] else leavesTo ns k
theorem leavesTo_yes {ns : List Nd} {k : Nat} (h : (jzj ns (k : Int)).length = 0) : leavesTo ns (k + 1) = leavesTo ns k ++ [(k : Int)] := if_pos h
theorem leavesTo_no {ns : List Nd} {k : Nat} (h : ¬ (jzj ns (k : Int)).length = 0) : leavesTo ns (k + 1) = leavesTo ns k := if_neg h
def jxj (held c w : Int) : Int := min w (held + c)
def jjc (room held c w : Int) : Int := min room (held + c - jxj held c w)
def jxh (room held c w : Int) : Int := held + c - jxj held c w - jjc room held c w
abbrev Hrs := List (Int × Int)
def endB (room : Int) : Int → Hrs → Int
 | h, [] => h
 | h, x :: t => endB room (jjc room h x.1 x.2) t
def giveB (room : Int) : Int → Hrs → Int
 | _, [] => 0
 | h, x :: t => jxj h x.1 x.2 + giveB room (jjc room h x.1 x.2) t
def spillB (room : Int) : Int → Hrs → Int
 | _, [] => 0
 | h, x :: t => jxh room h x.1 x.2 + spillB room (jjc room h x.1 x.2) t
def comeS : Hrs → Int
 | [] => 0
 | x :: t => x.1 + comeS t
def HOk (l : Hrs) : Prop := ∀ x ∈ l, 0 ≤ x.1 ∧ 0 ≤ x.2
theorem hok_cons {x : Int × Int} {t : Hrs} (h : HOk (x :: t)) : 0 ≤ x.1 ∧ 0 ≤ x.2 ∧ HOk t := ⟨(h x (by simp)).1, (h x (by simp)).2, fun y hy => h y (by simp [hy])⟩
theorem step_bd {room held c w : Int} (h : 0 ≤ held ∧ held ≤ room) (hc : 0 ≤ c) (hw : 0 ≤ w) : 0 ≤ jjc room held c w ∧ jjc room held c w ≤ room ∧ 0 ≤ jxj held c w ∧ jxj held c w ≤ w ∧ 0 ≤ jxh room held c w := by
 unfold jxh jjc jxj; omega
theorem water (room : Int) : ∀ (l : Hrs) (h : Int), h + comeS l = giveB room h l + spillB room h l + endB room h l := by
  intro l
  induction l with
  | nil => intro h; show h + 0 = 0 + 0 + h; omega
  | cons x t ih =>
    intro h; have := ih (jjc room h x.1 x.2)
    show h + (x.1 + comeS t) = (jxj h x.1 x.2 + giveB room _ t) + (jxh room h x.1 x.2 + spillB room _ t) + endB room _ t
    unfold jxh
    omega
theorem more {room room2 : Int} (hr : room ≤ room2) : ∀ (l : Hrs) (h h2 : Int), HOk l → 0 ≤ h → h ≤ room → h ≤ h2 → h2 ≤ room2 → endB room h l ≤ endB room2 h2 l ∧ giveB room h l ≤ giveB room2 h2 l := by
  intro l
  induction l with
  | nil => intro h h2 _ _ _ e _; exact ⟨e, Int.le_refl _⟩
  | cons x t ih =>
    intro h h2 ho a b e d; obtain ⟨c1, c2, c3⟩ := hok_cons ho; have s1 := step_bd (room := room) ⟨a, b⟩ c1 c2; have s2 := step_bd (room := room2) (held := h2) ⟨by omega, d⟩ c1 c2
    have m : jjc room h x.1 x.2 ≤ jjc room2 h2 x.1 x.2 ∧ jxj h x.1 x.2 ≤ jxj h2 x.1 x.2 := by unfold jjc jxj; omega
    have := ih (jjc room h x.1 x.2) (jjc room2 h2 x.1 x.2) c3 s1.1 s1.2.1 m.1 s2.2.1; refine ⟨this.1, ?_⟩
    show jxj h x.1 x.2 + giveB room _ t ≤ jxj h2 x.1 x.2 + giveB room2 _ t
    omega
def vbB (room held : Int) : Bool := decide (0 ≤ room) && (decide (room ≤ 20000) && (decide (0 ≤ held) && decide (held ≤ room)))
theorem vb_iff {room held : Int} : vbB room held = true ↔ 0 ≤ room ∧ room ≤ 20000 ∧ 0 ≤ held ∧ held ≤ room := by unfold vbB; simp
theorem vb_no {room held : Int} (h : ¬ (0 ≤ room ∧ room ≤ 20000 ∧ 0 ≤ held ∧ held ≤ room)) : vbB room held = false := by
 rw [Bool.eq_false_iff]; intro k; exact h (vb_iff.1 k)
def okAc (ac : List Ac) (k : Nat) : Bool := decide (1 ≤ (ac.getD k ac0).1) && decide ((ac.getD k ac0).1 ≤ 999) && decide (1 ≤ (ac.getD k ac0).2) && decide ((ac.getD k ac0).2 ≤ 1000000) && (decide (k = 0) || decide ((ac.getD (k - 1) ac0).1 < (ac.getD k ac0).1))
def acB (ac : List Ac) : Bool := (List.range ac.length).all (okAc ac)
theorem okAc_iff (ac : List Ac) (k : Nat) : okAc ac k = true ↔ 1 ≤ (ac.getD k ac0).1 ∧ (ac.getD k ac0).1 ≤ 999 ∧ 1 ≤ (ac.getD k ac0).2 ∧ (ac.getD k ac0).2 ≤ 1000000 ∧ (k = 0 ∨ (ac.getD (k - 1) ac0).1 < (ac.getD k ac0).1) := by
 unfold okAc; simp only [Bool.and_eq_true, Bool.or_eq_true, decide_eq_true_eq, and_assoc]
theorem acB_at {ac : List Ac} (h : acB ac = true) {k : Nat} (hk : k < ac.length) : okAc ac k = true := (jji _ _).1 h k hk
def lastA (ac : List Ac) : Nat → Int
 | 0 => 0
 | k + 1 => (ac.getD k ac0).1
theorem okAc_last (ac : List Ac) (k : Nat) : okAc ac k = true ↔ lastA ac k < (ac.getD k ac0).1 ∧ 1 ≤ (ac.getD k ac0).1 ∧ (ac.getD k ac0).1 ≤ 999 ∧ 1 ≤ (ac.getD k ac0).2 ∧ (ac.getD k ac0).2 ≤ 1000000 := by
  rw [okAc_iff]
  cases k with
  | zero =>
    show _ ↔ (0 : Int) < _ ∧ _
    constructor
    · rintro ⟨a, b, c, d, _⟩; exact ⟨by omega, a, b, c, d⟩
    · rintro ⟨_, a, b, c, d⟩; exact ⟨a, b, c, d, .inl rfl⟩
  | succ k =>
    show _ ↔ (ac.getD k ac0).1 < _ ∧ _
    constructor
    · rintro ⟨a, b, c, d, e⟩
      rcases e with e | e
      · omega
      · exact ⟨e, a, b, c, d⟩
    · rintro ⟨e, a, b, c, d⟩; exact ⟨a, b, c, d, .inr e⟩
theorem acB_no {ac : List Ac} {k : Nat} (hk : k < ac.length) (h : ¬ (lastA ac k < (ac.getD k ac0).1 ∧ 1 ≤ (ac.getD k ac0).1 ∧ (ac.getD k ac0).1 ≤ 999 ∧ 1 ≤ (ac.getD k ac0).2 ∧ (ac.getD k ac0).2 ≤ 1000000)) : acB ac = false := by
 refine rng_no hk ?_
 cases e : okAc ac k with
 | false => rfl
 | true => exact absurd ((okAc_last ac k).1 e) h
def acS (ac : List Ac) : Nat → Int
 | 0 => 0
 | k + 1 => acS ac k + (ac.getD k ac0).2
theorem acS_bd {ac : List Ac} (h : acB ac = true) : ∀ k, k ≤ ac.length → 0 ≤ acS ac k ∧ acS ac k ≤ 1000000 * (k : Int) := by
  intro k
  induction k with
  | zero => intro _; exact ⟨Int.le_refl _, by show (0 : Int) ≤ 1000000 * ((0 : Nat) : Int); omega⟩
  | succ k ih =>
    intro hk; have a := ih (by omega); have b := (okAc_iff ac k).1 (acB_at h (k := k) (by omega))
    show 0 ≤ acS ac k + _ ∧ acS ac k + _ ≤ _
    omega
structure Tw where
 hs : List Hd
 ts : List Tn
 ns : List Nd
 r : Int
 hd : Int
 ac : List Ac
 rt : Int
 tm : Int
 ls : Int
 cm : Int
def Tw.zero : Tw := ⟨[], [], [], 0, 0, [], 0, 0, 0, 0⟩
def inB3 (n l h : Int) : Bool := decide (l ≤ n) && decide (n ≤ h)
def twB (t : Tw) : Bool := vlR t.hs && (vtB t.ts && (vnB t.ns && (vbB t.r t.hd && (acB t.ac && (inB3 t.rt 0 500 && (inB3 t.tm 0 5000 && (inB3 t.ls 0 1000000 && (inB3 t.cm 0 1000000 && decide (acS t.ac t.ac.length + t.hd + t.ls = t.cm)))))))))
structure TA where
 a1 : Option Addr
 c1 : Nat
 a2 : Option Addr
 c2 : Nat
 a3 : Option Addr
 c3 : Nat
 a4 : Option Addr
 c4 : Nat
def TA.zero : TA := ⟨none, 0, none, 0, none, 0, none, 0⟩
def twV (p : TA) (t : Tw) : Value := .agg #[.slice p.a1 t.hs.length p.c1, .slice p.a2 t.ts.length p.c2, .slice p.a3 t.ns.length p.c3, .int .i64 t.r, .int .i64 t.hd, .slice p.a4 t.ac.length p.c4, .int .i64 t.rt, .int .i64 t.tm, .int .i64 t.ls, .int .i64 t.cm]
theorem jq0 {w : World} {g : Nat} {t : TypeId} {v0 v1 v2 v3 v4 v5 v6 v7 v8 v9 : Value} (h : Blk w g t #[v0, v1, v2, v3, v4, v5, v6, v7, v8, v9]) : w.cell? ⟨g, 0, none⟩ = some v0 ∧ w.cell? ⟨g, 1, none⟩ = some v1 ∧ w.cell? ⟨g, 2, none⟩ = some v2 ∧ w.cell? ⟨g, 3, none⟩ = some v3 ∧ w.cell? ⟨g, 4, none⟩ = some v4 ∧ w.cell? ⟨g, 5, none⟩ = some v5 ∧ w.cell? ⟨g, 6, none⟩ = some v6 ∧ w.cell? ⟨g, 7, none⟩ = some v7 ∧ w.cell? ⟨g, 8, none⟩ = some v8 ∧ w.cell? ⟨g, 9, none⟩ = some v9 := ⟨h.cell 0, h.cell 1, h.cell 2, h.cell 3, h.cell 4, h.cell 5, h.cell 6, h.cell 7, h.cell 8, h.cell 9⟩
structure IsTw (w : World) (p : TA) (t : Tw) : Prop where
 h1 : IsHs w p.a1 t.hs
 h2 : IsTn w p.a2 t.ts
 h3 : IsNd w p.a3 t.ns
 h4 : IsAc w p.a4 t.ac
 n1 : t.hs.length ≤ 1048576
 n2 : t.ts.length ≤ 1048576
 n3 : t.ns.length ≤ 1048576
 n4 : t.ac.length ≤ 1048576
 k1 : t.hs.length ≤ p.c1
 k2 : t.ts.length ≤ p.c2
 k3 : t.ns.length ≤ p.c3
 k4 : t.ac.length ≤ p.c4
theorem tw_below {w w' : World} {p : TA} {t : Tw} (h : IsTw w p t) (hB : Below w.heap.size w w') : IsTw w' p t :=
 ⟨jx3 h.h1 hB, tn_below h.h2 hB, nd_below h.h3 hB, ac_below h.h4 hB, h.n1, h.n2, h.n3, h.n4, h.k1, h.k2, h.k3, h.k4⟩
theorem rowF_hs {w : World} {base c : Nat} {a : Option Addr} {xs : List Hd} (h : RowF w base 91 (.slice a xs.length c) xs.length (jv5 xs)) : IsHs w a xs ∧ xs.length ≤ c := by
 rcases h with ⟨e, h0⟩ | ⟨g, cap, e, hg, F, hc⟩
 ·injection e with e1 e2 e3
  refine ⟨.inl (List.eq_nil_of_length_eq_zero h0), by omega⟩
 ·injection e with e1 e2 e3
  subst e1 e3; exact ⟨F.hs, hc⟩
theorem rowF_tn {w : World} {base c : Nat} {a : Option Addr} {xs : List Tn} (h : RowF w base 110 (.slice a xs.length c) xs.length (jx0 xs)) : IsTn w a xs ∧ xs.length ≤ c := by
 rcases h with ⟨e, h0⟩ | ⟨g, cap, e, hg, F, hc⟩
 ·injection e with e1 e2 e3
  refine ⟨.inl (List.eq_nil_of_length_eq_zero h0), by omega⟩
 ·injection e with e1 e2 e3
  subst e1 e3; exact ⟨F.tn, hc⟩
theorem rowF_nd {w : World} {base c : Nat} {a : Option Addr} {xs : List Nd} (h : RowF w base 149 (.slice a xs.length c) xs.length (jx4 xs)) : IsNd w a xs ∧ xs.length ≤ c := by
 rcases h with ⟨e, h0⟩ | ⟨g, cap, e, hg, F, hc⟩
 ·injection e with e1 e2 e3
  refine ⟨.inl (List.eq_nil_of_length_eq_zero h0), by omega⟩
 ·injection e with e1 e2 e3
  subst e1 e3; exact ⟨F.nd, hc⟩
theorem rowF_ac {w : World} {base c : Nat} {a : Option Addr} {xs : List Ac} (h : RowF w base 53 (.slice a xs.length c) xs.length (jxe xs)) : IsAc w a xs ∧ xs.length ≤ c := by
 rcases h with ⟨e, h0⟩ | ⟨g, cap, e, hg, F, hc⟩
 ·injection e with e1 e2 e3
  refine ⟨.inl (List.eq_nil_of_length_eq_zero h0), by omega⟩
 ·injection e with e1 e2 e3
  subst e1 e3; exact ⟨F.ac, hc⟩
structure TwO (w : World) (base : Nat) (p : TA) (t : Tw) : Prop where
 o1 : RowF w base 91 (.slice p.a1 t.hs.length p.c1) t.hs.length (jv5 t.hs)
 n1 : t.hs.length ≤ 1048576
 o2 : RowF w base 110 (.slice p.a2 t.ts.length p.c2) t.ts.length (jx0 t.ts)
 n2 : t.ts.length ≤ 1048576
 o3 : RowF w base 149 (.slice p.a3 t.ns.length p.c3) t.ns.length (jx4 t.ns)
 n3 : t.ns.length ≤ 1048576
 o4 : RowF w base 53 (.slice p.a4 t.ac.length p.c4) t.ac.length (jxe t.ac)
 n4 : t.ac.length ≤ 1048576
theorem TwO.is {w : World} {base : Nat} {p : TA} {t : Tw} (h : TwO w base p t) : IsTw w p t :=
 ⟨(rowF_hs h.o1).1, (rowF_tn h.o2).1, (rowF_nd h.o3).1, (rowF_ac h.o4).1, h.n1, h.n2, h.n3, h.n4, (rowF_hs h.o1).2, (rowF_tn h.o2).2, (rowF_nd h.o3).2, (rowF_ac h.o4).2⟩
theorem TwO.next {w w' : World} {base : Nat} {p : TA} {t : Tw} (h : TwO w base p t) (hb : Below w.heap.size w w') : TwO w' base p t :=
 ⟨h.o1.next hb, h.n1, h.o2.next hb, h.n2, h.o3.next hb, h.n3, h.o4.next hb, h.n4⟩
theorem TwO.base {w : World} {a b : Nat} {p : TA} {t : Tw} (h : TwO w b p t) (hab : a ≤ b) : TwO w a p t :=
 ⟨h.o1.base hab, h.n1, h.o2.base hab, h.n2, h.o3.base hab, h.n3, h.o4.base hab, h.n4⟩
theorem TwO.zero (w : World) (base : Nat) : TwO w base TA.zero Tw.zero := ⟨.inl ⟨rfl, rfl⟩, by decide, .inl ⟨rfl, rfl⟩, by decide, .inl ⟨rfl, rfl⟩, by decide, .inl ⟨rfl, rfl⟩, by decide⟩
def OutTw (w : World) (t : Tw) (e : Ending) (w' : World) : Prop := ∃ p, e = .returned (twV p t) ∧ TwO w' w.heap.size p t ∧ Below w.heap.size w w'
def jqg (w : World) (b : Nat) (v0 v1 v2 v3 v4 v5 v6 v7 v8 v9 : Value) : World := (((((((((w.setCell ⟨b, 0, none⟩ v0).setCell ⟨b, 1, none⟩ v1).setCell ⟨b, 2, none⟩ v2).setCell ⟨b, 3, none⟩ v3).setCell ⟨b, 4, none⟩ v4).setCell ⟨b, 5, none⟩ v5).setCell ⟨b, 6, none⟩ v6).setCell ⟨b, 7, none⟩ v7).setCell ⟨b, 8, none⟩ v8).setCell ⟨b, 9, none⟩ v9
theorem jj8 {w : World} {g b j : Nat} {t : TypeId} {zs : List Int} {v : Value} (h : Flat w g t zs) (hne : g ≠ b) : Flat (w.setCell ⟨b, j, none⟩ v) g t zs := h.of_block (Below.heap_setCell w ⟨b, j, none⟩ v g hne)
theorem sets10_flat {w : World} {g b : Nat} {t : TypeId} {zs : List Int} {v0 v1 v2 v3 v4 v5 v6 v7 v8 v9 : Value} (h : Flat w g t zs) (hne : g ≠ b) : Flat (jqg w b v0 v1 v2 v3 v4 v5 v6 v7 v8 v9) g t zs :=
 jj8 (jj8 (jj8 (jj8 (jj8 (jj8 (jj8 (jj8 (jj8 (jj8 h hne) hne) hne) hne) hne) hne) hne) hne) hne) hne
theorem sets10_below {w W : World} {b : Nat} {v0 v1 v2 v3 v4 v5 v6 v7 v8 v9 : Value} (h : Below w.heap.size w W) (hb : w.heap.size ≤ b) : Below w.heap.size w (jqg W b v0 v1 v2 v3 v4 v5 v6 v7 v8 v9) :=
 (((((((((h.setCell (p := ⟨b, 0, none⟩) hb v0).setCell (p := ⟨b, 1, none⟩) hb v1).setCell (p := ⟨b, 2, none⟩) hb v2).setCell (p := ⟨b, 3, none⟩) hb v3).setCell (p := ⟨b, 4, none⟩) hb v4).setCell (p := ⟨b, 5, none⟩) hb v5).setCell (p := ⟨b, 6, none⟩) hb v6).setCell (p := ⟨b, 7, none⟩) hb v7).setCell (p := ⟨b, 8, none⟩) hb v8).setCell (p := ⟨b, 9, none⟩) hb v9
theorem jxc {w : World} {b : Nat} {t : TypeId} {u0 u1 u2 u3 u4 u5 u6 u7 u8 u9 v0 v1 v2 v3 v4 v5 v6 v7 v8 v9 : Value} (h : Blk w b t #[u0, u1, u2, u3, u4, u5, u6, u7, u8, u9]) : Blk (jqg w b v0 v1 v2 v3 v4 v5 v6 v7 v8 v9) b t #[v0, v1, v2, v3, v4, v5, v6, v7, v8, v9] := by
 have k := (((((((((h.set_ 0 v0).set_ 1 v1).set_ 2 v2).set_ 3 v3).set_ 4 v4).set_ 5 v5).set_ 6 v6).set_ 7 v7).set_ 8 v8).set_ 9 v9; simp only [List.setIfInBounds_toArray, List.set_cons_zero, List.set_cons_succ] at k; exact k
theorem flatN_new (w : World) (t : TypeId) (zs : List Int) : Flat (w.alloc (.cells (zs.map (Value.int .i64)).toArray t)) w.heap.size t zs := by
 refine ⟨_, Blk.new w t _, fun j hj => ?_⟩; rw [List.getElem?_toArray, List.getElem?_map, List.getElem?_eq_getElem hj, List.getD_eq_getElem?_getD, List.getElem?_eq_getElem hj]; rfl
theorem flat_alloc {w : World} {g : Nat} {t : TypeId} {zs : List Int} (h : Flat w g t zs) (O : Obj) : Flat (w.alloc O) g t zs := h.next ((Below.refl _ w).alloc (Nat.le_refl _) O)
def joinL (c : UInt8) : List (List UInt8) → List UInt8
 | [] => []
 | [a] => a
 | a :: b :: r => a ++ c :: joinL c (b :: r)
theorem join_one (c : UInt8) (a : List UInt8) : joinL c [a] = a := rfl
theorem jx8 (c : UInt8) (a : List UInt8) {r : List (List UInt8)} (h : r ≠ []) : joinL c (a :: r) = a ++ c :: joinL c r := by
 cases r with
 | nil => exact absurd rfl h
 | cons b r => rfl
theorem join_snoc (c : UInt8) : ∀ (P : List (List UInt8)) (a : List UInt8), P ≠ [] → joinL c (P ++ [a]) = joinL c P ++ c :: a := by
  intro P
  induction P with
  | nil => intro a h; exact absurd rfl h
  | cons x t ih =>
    intro a _
    by_cases ht : t = []
    · subst ht; rfl
    · rw [List.cons_append, jx8 c x (by simp), jx8 c x ht, ih a ht]; simp
theorem join_last (c : UInt8) : ∀ (P : List (List UInt8)) (a b : List UInt8), joinL c (P ++ [a ++ b]) = joinL c (P ++ [a]) ++ b := by
  intro P
  induction P with
  | nil => intro a b; rfl
  | cons x t ih =>
    intro a b; rw [List.cons_append, jx8 c x (by simp), List.cons_append, jx8 c x (by simp), ih a b]; simp
theorem span_eq {c : UInt8} : ∀ {a b x y : List UInt8}, c ∉ a → c ∉ b → a ++ c :: x = b ++ c :: y → a = b ∧ x = y := by
  intro a
  induction a with
  | nil =>
    intro b x y _ hb h
    cases b with
    | nil => injection h with _ h; exact ⟨rfl, h⟩
    | cons z t => injection h with h1 _; exact absurd (by simp [h1]) hb
  | cons z t ih =>
    intro b x y ha hb h
    cases b with
    | nil => injection h with h1 _; exact absurd (by simp [h1]) ha
    | cons u s =>
      injection h with h1 h2; obtain ⟨e1, e2⟩ := ih (fun m => ha (by simp [m])) (fun m => hb (by simp [m])) h2; exact ⟨by rw [h1, e1], e2⟩
theorem join_inj {c : UInt8} : ∀ (P Q : List (List UInt8)), P ≠ [] → Q ≠ [] → (∀ a ∈ P, c ∉ a) → (∀ a ∈ Q, c ∉ a) → joinL c P = joinL c Q → P = Q := by
  intro P
  induction P with
  | nil => intro Q h; exact absurd rfl h
  | cons a t ih =>
    intro Q _ hq hP hQ h
    cases Q with
    | nil => exact absurd rfl hq
    | cons b s =>
      have ha := hP a (by simp); have hb := hQ b (by simp)
      by_cases ht : t = []
      · subst ht
        by_cases hs : s = []
        · subst hs; rw [join_one, join_one] at h; rw [h]
        · rw [join_one, jx8 c b hs] at h
          exact absurd (by rw [h]; simp) ha
      · by_cases hs : s = []
        · subst hs
          rw [join_one, jx8 c a ht] at h; exact absurd (by rw [← h]; simp) hb
        · rw [jx8 c a ht, jx8 c b hs] at h
          obtain ⟨e1, e2⟩ := span_eq ha hb h; rw [e1, ih s ht hs (fun x m => hP x (by simp [m])) (fun x m => hQ x (by simp [m])) e2]
def cutB (s : ByteArray) (a b : Nat) : List UInt8 := (s.extract a b).data.toList
theorem cutB_succ (s : ByteArray) {a k : Nat} (h : a ≤ k) (hk : k < s.size) : cutB s a (k + 1) = cutB s a k ++ [s.data.toList.getD k 0] := by
 unfold cutB; rw [ext_data, ext_data, show k + 1 - a = (k - a) + 1 by omega]
 have hl : k - a < (s.data.toList.drop a).length := by rw [List.length_drop, jx9]; omega
 rw [List.take_succ_eq_append_getElem hl, List.getElem_drop, List.getD_eq_getElem?_getD, List.getElem?_eq_getElem (by rw [jx9]; exact hk)]
 simp [show a + (k - a) = k by omega]
theorem cutB_nil (s : ByteArray) (k : Nat) : cutB s k k = [] := by
 unfold cutB; rw [ext_data]; simp
theorem bt_is {s : ByteArray} {k : Nat} {c : UInt8} : bt s k = (c.toNat : Int) ↔ s.data.toList.getD k 0 = c := by
 unfold bt
 constructor
 ·intro h; exact UInt8.toNat_inj.1 (by omega)
 ·intro h; rw [h]
def pcs (c : UInt8) (s : ByteArray) (k : Nat) : List (List UInt8) := (jj0 (c.toNat : Int) s k).1.map (fun x => x.data.toList) ++ [cutB s (jj0 (c.toNat : Int) s k).2 k]
theorem pcs_facts (c : UInt8) (s : ByteArray) : ∀ k, k ≤ s.size → joinL c (pcs c s k) = cutB s 0 k ∧ ∀ a ∈ pcs c s k, c ∉ a := by
  intro k
  induction k with
  | zero =>
    intro _
    show joinL c ([] ++ [cutB s 0 0]) = _ ∧ ∀ a ∈ ([] ++ [cutB s 0 0] : List (List UInt8)), c ∉ a
    refine ⟨rfl, fun a ha => ?_⟩; rw [cutB_nil] at ha
    simp at ha; subst ha; simp
  | succ k ih =>
    intro hk; obtain ⟨i1, i2⟩ := ih (by omega); have hb := (cutTo_bd (c.toNat : Int) s k).1; have hz := cutB_succ s (a := 0) (Nat.zero_le k) (by omega)
    by_cases h : bt s k = (c.toNat : Int)
    · have e : pcs c s (k + 1) = pcs c s k ++ [[]] := by
        unfold pcs; rw [cutTo_hit h]; simp only [List.map_append, List.map_cons, List.map_nil, cutB_nil]
        rfl
      rw [e, join_snoc c _ _ (by unfold pcs; simp), i1, hz, bt_is.1 h]; refine ⟨rfl, fun a ha => ?_⟩
      rcases List.mem_append.1 ha with ha | ha
      · exact i2 a ha
      · simp at ha; subst ha; simp
    · have e : pcs c s (k + 1) = (jj0 (c.toNat : Int) s k).1.map (fun x => x.data.toList) ++ [cutB s (jj0 (c.toNat : Int) s k).2 k ++ [s.data.toList.getD k 0]] := by
        unfold pcs; rw [cutTo_miss h, cutB_succ s hb (by omega)]
      rw [e, join_last, hz, ← i1]; refine ⟨rfl, fun a ha => ?_⟩
      rcases List.mem_append.1 ha with ha | ha
      · exact i2 a (by unfold pcs; simp [ha])
      · simp only [List.mem_singleton] at ha
        subst ha; intro hc
        rcases List.mem_append.1 hc with hc | hc
        · exact i2 _ (by unfold pcs; simp) hc
        · simp only [List.mem_singleton] at hc
          exact h (bt_is.2 hc.symm)
theorem cutS_facts (c : UInt8) (s : ByteArray) : joinL c ((cutS (c.toNat : Int) s).map (fun x => x.data.toList)) = s.data.toList ∧ ∀ a ∈ cutS (c.toNat : Int) s, c ∉ a.data.toList := by
 obtain ⟨h1, h2⟩ := pcs_facts c s s.size (Nat.le_refl _)
 have e : (cutS (c.toNat : Int) s).map (fun x => x.data.toList) = pcs c s s.size := by
  unfold cutS pcs; rw [List.map_append]; rfl
 have ez : cutB s 0 s.size = s.data.toList := by
  unfold cutB; rw [ext_data, List.drop_zero, Nat.sub_zero]; exact List.take_of_length_le (by rw [jx9]; omega)
 refine ⟨by rw [e, h1, ez], fun a ha => h2 _ (by rw [← e]; exact List.mem_map_of_mem ha)⟩
theorem cutS_ne (c : Int) (s : ByteArray) : cutS c s ≠ [] := by unfold cutS; simp
theorem map_txt (Q : List ByteArray) : (Q.map (fun x => x.data.toList)).map txt = Q := by
 induction Q with
 | nil => rfl
 | cons x t ih => rw [List.map_cons, List.map_cons, ih, txt_of]
theorem cut_join {c : UInt8} {P : List (List UInt8)} (hP : P ≠ []) (hc : ∀ a ∈ P, c ∉ a) : cutS (c.toNat : Int) (txt (joinL c P)) = P.map txt := by
 obtain ⟨h1, h2⟩ := cutS_facts c (txt (joinL c P)); rw [txt_list] at h1; have := join_inj _ P (by simp [cutS_ne]) hP (fun a ha => by obtain ⟨x, hx, rfl⟩ := List.mem_map.1 ha; exact h2 x hx) hc h1; exact (map_txt _).symm.trans (congrArg (List.map txt) this)
theorem dec_no {c : UInt8} (hc : c.toNat < 48) (n : Nat) : c ∉ decL n := fun h => by
 have := List.all_eq_true.1 (dig_dec n) _ h; rw [isDig_iff] at this; omega
theorem frT_no {c : UInt8} (hc : c.toNat < 47) (n d : Int) : c ∉ (frT n d).data.toList := fun h => by
 rw [frT_list] at h
 rcases List.mem_append.1 h with h | h
 ·exact dec_no (by omega) _ h
 ·rcases List.mem_cons.1 h with h | h
  ·rw [h] at hc; exact absurd hc (by decide)
  ·exact dec_no (by omega) _ h
structure Dd where
 k : Int
 o : Int
 t : Int
 n : Int
 d : Int
 zs : List Int
def dd0 : Dd := ⟨0, 0, 0, 0, 0, []⟩
structure Ev where
 k : Int
 dd : Dd
 at_ : Int
 nu : Int
def ev0 : Ev := ⟨0, dd0, 0, 0⟩
def jzc : List UInt8 := [115, 101, 108, 108]
def kInh : List UInt8 := [105, 110, 104, 101, 114, 105, 116]
def jzb : List UInt8 := [106, 111, 105, 110]
def jz0 : List UInt8 := [116, 117, 114, 110, 115]
def jz4 : List UInt8 := [115, 119, 97, 112]
def jz5 : List UInt8 := [103, 97, 116, 101]
def kDig : List UInt8 := [100, 105, 103]
def jzg : List UInt8 := [104, 111, 117, 114]
def nT (n : Int) : List UInt8 := decL n.toNat
def ownB (n : Int) : Bool := decide (1 ≤ n) && decide (n ≤ 999)
def smlB (n : Int) : Bool := decide (0 ≤ n) && decide (n ≤ 9999)
theorem own_iff {n : Int} : ownB n = true ↔ 1 ≤ n ∧ n ≤ 999 := by unfold ownB; simp
theorem sml_iff {n : Int} : smlB n = true ↔ 0 ≤ n ∧ n ≤ 9999 := by unfold smlB; simp
def deedW (x : Dd) : List (List UInt8) :=
  if ownB x.o = true ∧ x.zs.length ≤ 12 then
    if x.k = 1 then (if x.zs.all ownB = true then kInh :: nT x.o :: x.zs.map nT else [])
    else if ownB x.t = true then
      (if x.k = 2 then [jzb, nT x.o, nT x.t]
       else if x.k = 0 ∧ Wsh.vfB x.n x.d = true then [jzc, nT x.o, nT x.t, (frT x.n x.d).data.toList] else [])
    else []
  else []
def evW (e : Ev) : List (List UInt8) :=
 if smlB e.at_ = true ∧ smlB e.nu = true then
  if e.k = 0 then deedW e.dd
  else if e.k = 1 then [jz0, nT e.nu]
  else if e.k = 2 then [jz4, nT e.at_, nT e.nu]
  else if e.k = 3 then [jz5, nT e.at_, nT e.nu]
  else if e.k = 4 then [kDig, nT e.at_, nT e.nu]
  else if e.k = 5 then [jzg, nT e.nu]
  else []
 else []
def evT (e : Ev) : List UInt8 := joinL 32 (evW e)
def fmE (e : Ev) : ByteArray := txt (evT e)
def canD (x : Dd) : Dd := if x.k = 1 then ⟨1, x.o, 0, 0, 0, x.zs⟩ else if x.k = 2 then ⟨2, x.o, x.t, 0, 0, []⟩ else ⟨0, x.o, x.t, x.n, x.d, []⟩
def canE (e : Ev) : Ev :=
 if e.k = 1 then ⟨1, dd0, 0, e.nu⟩ else if e.k = 2 then ⟨2, dd0, e.at_, e.nu⟩ else if e.k = 3 then ⟨3, dd0, e.at_, e.nu⟩ else if e.k = 4 then ⟨4, dd0, e.at_, e.nu⟩
 else if e.k = 5 then ⟨5, dd0, 0, e.nu⟩ else ⟨0, canD e.dd, 0, 0⟩
theorem deed_kinds (x : Dd) (h : deedW x ≠ []) : x.k = 0 ∨ x.k = 1 ∨ x.k = 2 := by
 unfold deedW at h
 by_cases a : x.k = 1
 ·exact .inr (.inl a)
 by_cases b : x.k = 2
 ·exact .inr (.inr b)
 by_cases c : x.k = 0
 ·exact .inl c
 exfalso; apply h
 have q : ¬ (x.k = 0 ∧ Wsh.vfB x.n x.d = true) := fun q => c q.1
 rw [if_neg a, if_neg b, if_neg q]
 split
 ·split <;> rfl
 ·rfl
theorem ev_kinds (e : Ev) (h : evW e ≠ []) : (e.k = 0 ∨ e.k = 1 ∨ e.k = 2 ∨ e.k = 3 ∨ e.k = 4 ∨ e.k = 5) ∧ smlB e.at_ = true ∧ smlB e.nu = true := by
 unfold evW at h
 by_cases s : smlB e.at_ = true ∧ smlB e.nu = true
 ·rw [if_pos s] at h
  refine ⟨?_, s⟩
  by_cases c0 : e.k = 0
  ·omega
  rw [if_neg c0] at h
  by_cases c1 : e.k = 1
  ·omega
  rw [if_neg c1] at h
  by_cases c2 : e.k = 2
  ·omega
  rw [if_neg c2] at h
  by_cases c3 : e.k = 3
  ·omega
  rw [if_neg c3] at h
  by_cases c4 : e.k = 4
  ·omega
  rw [if_neg c4] at h
  by_cases c5 : e.k = 5
  ·omega
  rw [if_neg c5] at h; exact absurd rfl h
 ·rw [if_neg s] at h; exact absurd rfl h
theorem can_deed {x : Dd} (h : deedW x ≠ []) : deedW (canD x) = deedW x := by
 rcases deed_kinds x h with e | e | e
 ·have c : canD x = ⟨0, x.o, x.t, x.n, x.d, []⟩ := by unfold canD; rw [e]; rfl
  rw [c]; unfold deedW at h ⊢; rw [e] at h ⊢
  by_cases a : ownB x.o = true ∧ x.zs.length ≤ 12
  ·rw [if_pos a, if_pos ⟨a.1, by simp⟩]; rfl
  ·rw [if_neg a] at h; exact absurd rfl h
 ·have c : canD x = ⟨1, x.o, 0, 0, 0, x.zs⟩ := by unfold canD; rw [e]; rfl
  rw [c]; unfold deedW; rw [e]; rfl
 ·have c : canD x = ⟨2, x.o, x.t, 0, 0, []⟩ := by unfold canD; rw [e]; rfl
  rw [c]; unfold deedW at h ⊢; rw [e] at h ⊢
  by_cases a : ownB x.o = true ∧ x.zs.length ≤ 12
  ·rw [if_pos a, if_pos ⟨a.1, by simp⟩]; rfl
  ·rw [if_neg a] at h; exact absurd rfl h
theorem can_words {e : Ev} (h : evW e ≠ []) : evW (canE e) = evW e := by
 obtain ⟨hk, h1, h2⟩ := ev_kinds e h; have z : smlB 0 = true := rfl
 rcases hk with c | c | c | c | c | c
 ·have q : canE e = ⟨0, canD e.dd, 0, 0⟩ := by unfold canE; rw [c]; rfl
  have w : evW e = deedW e.dd := by unfold evW; rw [if_pos ⟨h1, h2⟩, if_pos c]
  rw [w] at h ⊢; rw [q]; exact can_deed h
 all_goals
  have q := c; unfold canE evW; rw [c]
  simp [h1, h2, z]
theorem can_twice (e : Ev) : canE (canE e) = canE e := by
 unfold canE
 by_cases c1 : e.k = 1
 ·rw [if_pos c1]; rfl
 rw [if_neg c1]
 by_cases c2 : e.k = 2
 ·rw [if_pos c2]; rfl
 rw [if_neg c2]
 by_cases c3 : e.k = 3
 ·rw [if_pos c3]; rfl
 rw [if_neg c3]
 by_cases c4 : e.k = 4
 ·rw [if_pos c4]; rfl
 rw [if_neg c4]
 by_cases c5 : e.k = 5
 ·rw [if_pos c5]; rfl
 rw [if_neg c5]
 show (⟨0, canD (canD e.dd), 0, 0⟩ : Ev) = _
 congr 1
 unfold canD
 by_cases d1 : e.dd.k = 1
 ·rw [if_pos d1]; rfl
 rw [if_neg d1]
 by_cases d2 : e.dd.k = 2
 ·rw [if_pos d2]; rfl
 rw [if_neg d2]; rfl
theorem kw_no {c : UInt8} (hc : c.toNat < 47) : c ∉ jzc ∧ c ∉ kInh ∧ c ∉ jzb ∧ c ∉ jz0 ∧ c ∉ jz4 ∧ c ∉ jz5 ∧ c ∉ kDig ∧ c ∉ jzg := by
 have key : ∀ l : List UInt8, (∀ b ∈ l, 47 ≤ b.toNat) → c ∉ l := fun l h m => by have := h c m; omega
 refine ⟨key _ ?_, key _ ?_, key _ ?_, key _ ?_, key _ ?_, key _ ?_, key _ ?_, key _ ?_⟩ <;> decide
theorem words_no {c : UInt8} (hc : c.toNat < 47) (e : Ev) : ∀ a ∈ evW e, c ∉ a := by
 obtain ⟨w1, w2, w3, w4, w5, w6, w7, w8⟩ := kw_no hc
 have wn : ∀ n : Int, c ∉ nT n := fun n => dec_no (by omega) _
 have wf : ∀ n d : Int, c ∉ (frT n d).data.toList := fun n d => frT_no (by omega) n d
 intro a ha; unfold evW deedW at ha
 repeat' split at ha
 all_goals
  simp only [List.mem_cons, List.mem_map, List.not_mem_nil, or_false, false_and, and_false] at ha
 all_goals first
  | exact ha.elim
  | (rcases ha with rfl | rfl | ⟨z, _, rfl⟩ <;> first | assumption | exact wn _)
  | (rcases ha with rfl | rfl | rfl | rfl <;> first | assumption | exact wn _ | exact wf _ _)
  | (rcases ha with rfl | rfl | rfl <;> first | assumption | exact wn _)
  | (rcases ha with rfl | rfl <;> first | assumption | exact wn _)
theorem nT_ne (n : Int) : nT n ≠ [] := dec_ne _
theorem words_ne (e : Ev) : ∀ a ∈ evW e, a ≠ [] := by
 intro a ha; unfold evW deedW at ha
 repeat' split at ha
 all_goals
  simp only [List.mem_cons, List.mem_map, List.not_mem_nil, or_false, false_and, and_false] at ha
 all_goals first
  | exact ha.elim
  | (rcases ha with rfl | rfl | ⟨z, _, rfl⟩ <;> first | exact nT_ne _ | decide)
  | (rcases ha with rfl | rfl | rfl | rfl <;> first | exact nT_ne _ | decide | (rw [frT_list]; simp))
  | (rcases ha with rfl | rfl | rfl <;> first | exact nT_ne _ | decide)
  | (rcases ha with rfl | rfl <;> first | exact nT_ne _ | decide)
theorem evT_nil (e : Ev) : evT e = [] ↔ evW e = [] := by
  constructor
  · intro h
    cases hw : evW e with
    | nil => rfl
    | cons a t =>
      exfalso
      have ha := words_ne e a (by rw [hw]; simp); unfold evT at h; rw [hw] at h
      by_cases ht : t = []
      · subst ht; exact ha h
      · rw [jx8 32 a ht] at h
        simp at h
  · intro h; unfold evT; rw [h]; rfl
theorem words_len (e : Ev) : (evW e).length ≤ 14 := by
 unfold evW deedW
 repeat' split
 all_goals first
  | simp; done
  | (simp only [List.length_cons, List.length_map]; rename_i h _ _; have := h.2; omega)
  | (simp only [List.length_cons, List.length_map, List.length_nil]; omega)
theorem infoEv : (Try.prog.info? 63).map (fun i => (i.zero, i.size, i.bytes)) = some (some (.agg #[.int .i64 0, .int .i64 0, .int .i64 0, .int .i64 0, .int .i64 0, .int .i64 0, .slice none 0 0, .int .i64 0, .int .i64 0]), 9, 88) := by kernel_rfl
def evC (v : Value) (x : Ev) : List Value := [.int .i64 x.k, .int .i64 x.dd.k, .int .i64 x.dd.o, .int .i64 x.dd.t, .int .i64 x.dd.n, .int .i64 x.dd.d, v, .int .i64 x.at_, .int .i64 x.nu]
def rowC (V : List Value) (es : List Ev) : List Value := (List.zipWith evC V es).flatten
theorem rowC_snoc {V : List Value} {es : List Ev} (h : V.length = es.length) (v : Value) (x : Ev) : rowC (V ++ [v]) (es ++ [x]) = rowC V es ++ evC v x := by
 unfold rowC; rw [List.zipWith_append h, List.flatten_append]; simp
structure OwnEs (w : World) (base : Nat) (v : Value) (es : List Ev) (V : List Value) : Prop where
 len : V.length = es.length
 row : w.ownsRow base 63 9 v es.length (rowC V es)
 own : ∀ j, j < es.length → OwnI w base (V.getD j undef) (es.getD j ev0).dd.zs
 sep : ∀ i j, i < j → j < es.length → ∀ p q, (V.getD i undef).ownBlock = some p → (V.getD j undef).ownBlock = some q → p < q
theorem ownEs_new {w W : World} (h : Below w.heap.size w W) : OwnEs (W.alloc (.cells #[] 63)) w.heap.size (.slice (some ⟨W.heap.size, 0, none⟩) 0 0) [] [] :=
 ⟨rfl, ⟨by simp [rowC], .inr ⟨W.heap.size, 0, #[], rfl, h.size, Go.Deep.blk_alloc_new _ _, Nat.le_refl _, by unfold maxLen; omega, rfl, rfl⟩⟩, fun j hj => absurd hj (Nat.not_lt_zero _), fun i j _ hj => absurd hj (Nat.not_lt_zero _)⟩
theorem row_of_below {w w' : World} {base n size : Nat} {e : TypeId} {v : Value} {xs : List Value} (h : w.ownsRow base e size v n xs) (hb : Below w.heap.size w w') : w'.ownsRow base e size v n xs := by
 refine ⟨h.1, ?_⟩
 rcases h.2 with h | ⟨g, cap, cur, a, b, c, d⟩
 ·exact .inl h
 ·exact .inr ⟨g, cap, cur, a, b, (hb.block g (Array.getElem?_eq_some_iff.1 c).1).trans c, d⟩
theorem getD_snocE {α : Type} (l : List α) (a d : α) (j : Nat) : (l ++ [a]).getD j d = if j < l.length then l.getD j d else if j = l.length then a else d := by
 rw [List.getD_eq_getElem?_getD, List.getD_eq_getElem?_getD]
 by_cases h : j < l.length
 ·rw [if_pos h, List.getElem?_append_left h]
 ·rw [if_neg h, List.getElem?_append_right (by omega)]
  by_cases h2 : j = l.length
  ·rw [if_pos h2, h2, Nat.sub_self]; rfl
  ·rw [if_neg h2, List.getElem?_eq_none (by simp; omega)]; rfl
theorem evC_one (b2 : Option Addr) (c2 : Nat) (x : Ev) : ∀ u ∈ [Value.int .i64 x.k, Value.int .i64 x.dd.k, Value.int .i64 x.dd.o, Value.int .i64 x.dd.t, Value.int .i64 x.dd.n, Value.int .i64 x.dd.d, Value.slice b2 x.dd.zs.length c2, Value.int .i64 x.at_, Value.int .i64 x.nu], u.oneCell' = true := by
 intro u hu; simp only [List.mem_cons, List.not_mem_nil, or_false] at hu
 rcases hu with rfl | rfl | rfl | rfl | rfl | rfl | rfl | rfl | rfl <;> rfl
theorem ints_grownE {w w' : World} {A : Option Addr} {zs : List Int} {row : Option Nat} (h : jqf w A zs) (hg : w.grownBy w' row) (hlt : ∀ g o s, A = some ⟨g, o, s⟩ → g < w.heap.size ∧ row ≠ some g) : jqf w' A zs := by
 rcases h with h | ⟨g, o, rfl, hc⟩
 ·exact .inl h
 ·obtain ⟨h1, h2⟩ := hlt g o none rfl
  refine .inr ⟨g, o, rfl, fun i hi => ?_⟩; exact hg.cell (hc i hi) (fun c => h2 c.symm)
def Hrz (w : World) (base : Nat) (ex : Option Nat) (u : Value) (zs : List Int) : Prop := ∃ (A : Option Addr) (cz : Nat), u = .slice A zs.length cz ∧ jqf w A zs ∧ zs.length ≤ cz ∧ (zs ≠ [] → ∀ g o s, A = some ⟨g, o, s⟩ → base ≤ g ∧ g < w.heap.size ∧ ex ≠ some g)
structure OwnEz (w : World) (base : Nat) (v : Value) (es : List Ev) (V : List Value) : Prop where
 len : V.length = es.length
 row : w.ownsRow base 63 9 v es.length (rowC V es)
 own : ∀ j, j < es.length → Hrz w base v.ownBlock (V.getD j undef) (es.getD j ev0).dd.zs
theorem ownEz_new {w W : World} (h : Below w.heap.size w W) : OwnEz (W.alloc (.cells #[] 63)) w.heap.size (.slice (some ⟨W.heap.size, 0, none⟩) 0 0) [] [] :=
 ⟨rfl, (ownEs_new h).row, fun j hj => absurd hj (Nat.not_lt_zero _)⟩
theorem Hrz.next {w w' : World} {base : Nat} {ex : Option Nat} {u : Value} {zs : List Int} (h : Hrz w base ex u zs) (hb : Below w.heap.size w w') : Hrz w' base ex u zs := by
 obtain ⟨A, cz, hu, hI, hl, ha⟩ := h; exact ⟨A, cz, hu, jq9 hI hb, hl, fun hz g o s e => ⟨(ha hz g o s e).1, Nat.lt_of_lt_of_le (ha hz g o s e).2.1 hb.size, (ha hz g o s e).2.2⟩⟩
theorem OwnEz.next {w w' : World} {base : Nat} {v : Value} {es : List Ev} {V : List Value} (h : OwnEz w base v es V) (hb : Below w.heap.size w w') : OwnEz w' base v es V :=
 ⟨h.len, row_of_below h.row hb, fun j hj => (h.own j hj).next hb⟩
theorem OwnEz.forms {w : World} {base : Nat} {v : Value} {es : List Ev} {V : List Value} (h : OwnEz w base v es V) : ∃ b k, v = .slice b es.length k := by
 rcases Go.Joins.ownsRow_forms h.row with ⟨e, hn⟩ | ⟨g, c, e⟩
 ·exact ⟨none, 0, by rw [hn]; exact e⟩
 ·exact ⟨_, c, e⟩
theorem Hrz.far {w w' : World} {base b : Nat} {ex : Option Nat} {u : Value} {zs : List Int} (h : Hrz w base ex u zs) (hG : w.grownBy w' (some b)) (hb : b < base) : Hrz w' base ex u zs := by
 obtain ⟨A, cz, hu, hI, hl, ha⟩ := h
 by_cases hz : zs = []
 ·exact ⟨A, cz, hu, .inl hz, hl, fun c => absurd hz c⟩
 exact ⟨A, cz, hu, ints_grownE hI hG (fun g o s e => ⟨(ha hz g o s e).2.1, fun c => by injection c with c; have := (ha hz g o s e).1; omega⟩), hl, fun _ g o s e => ⟨(ha hz g o s e).1, Nat.lt_of_lt_of_le (ha hz g o s e).2.1 hG.size, (ha hz g o s e).2.2⟩⟩
theorem hrz_of {w : World} {base B cz : Nat} {A : Option Addr} {v : Value} {zs : List Int} (hI : jqf w A zs) (hl : zs.length ≤ cz) (ha : ∀ ad, A = some ad → B ≤ ad.block) (hB : base ≤ B) (hv : ∀ q, v.ownBlock = some q → q < B) : Hrz w base v.ownBlock (.slice A zs.length cz) zs := by
 refine ⟨A, cz, rfl, hI, hl, fun hz g o s e => ⟨Nat.le_trans hB (ha _ e), ?_, fun c => ?_⟩⟩
 ·rcases hI with h | ⟨g', o', e', hc⟩
  ·exact absurd h hz
  ·rw [e] at e'; injection e' with e'; injection e' with e1 _ _; subst e1
   exact World.block_lt_of_cell? w _ (hc 0 (List.length_pos_iff.2 hz))
 ·have := hv g c; have := ha _ e; dsimp only at this; omega
theorem OwnEz.far {w w' : World} {base b : Nat} {v : Value} {es : List Ev} {V : List Value} (h : OwnEz w base v es V) (hG : w.grownBy w' (some b)) (hb : b < base) : OwnEz w' base v es V :=
 ⟨h.len, World.ownsRow.kept h.row hG (.inr (by intro c; have := (World.ownsRow.lt h.row b c).1; omega)), fun j hj => (h.own j hj).far hG hb⟩
theorem OwnEz.lt {w : World} {base : Nat} {v : Value} {es : List Ev} {V : List Value} (h : OwnEz w base v es V) : ∀ q, v.ownBlock = some q → q < w.heap.size := fun q e => (World.ownsRow.lt h.row q e).2
theorem OwnEz.base {w : World} {a b : Nat} {v : Value} {es : List Ev} {V : List Value} (h : OwnEz w b v es V) (hab : a ≤ b) : OwnEz w a v es V := by
 refine ⟨h.len, ⟨h.row.1, ?_⟩, fun j hj => ?_⟩
 ·rcases h.row.2 with q | ⟨g, cap, cur, hv, hg, r⟩
  ·exact .inl q
  ·exact .inr ⟨g, cap, cur, hv, Nat.le_trans hab hg, r⟩
 ·obtain ⟨A, cz, hu, hI, hl, ha⟩ := h.own j hj
  exact ⟨A, cz, hu, hI, hl, fun hz g o s e => ⟨Nat.le_trans hab (ha hz g o s e).1, (ha hz g o s e).2⟩⟩
theorem OwnEz.snocG {U w2 : World} {base : Nat} {v v2 vz : Value} {es : List Ev} {V : List Value} {x : Ev} (h : OwnEz U base v es V) (hz : Hrz U base v.ownBlock vz x.dd.zs) (hr : w2.ownsRow base 63 9 v2 (es.length + 1) (rowC V es ++ evC vz x)) (hg : U.grownBy w2 v.ownBlock) (hat : v2.ownBlock = v.ownBlock ∨ v2.ownBlock = some U.heap.size) : OwnEz w2 base v2 (es ++ [x]) (V ++ [vz]) := by
 have hVe := h.len; have hgz := hg.size
 have old : ∀ u zs, Hrz U base v.ownBlock u zs → Hrz w2 base v2.ownBlock u zs := fun u zs hh => by
  obtain ⟨A, cz, hu, hI, hl, ha⟩ := hh
  by_cases hz : zs = []
  ·exact ⟨A, cz, hu, .inl hz, hl, fun c => absurd hz c⟩
  refine ⟨A, cz, hu, ints_grownE hI hg (fun g o s e => ⟨(ha hz g o s e).2.1, (ha hz g o s e).2.2⟩), hl, fun _ g o s e => ⟨(ha hz g o s e).1, Nat.lt_of_lt_of_le (ha hz g o s e).2.1 hgz, ?_⟩⟩
  rcases hat with q | q
  ·rw [q]; exact (ha hz g o s e).2.2
  ·rw [q]; intro c; injection c with c; have := (ha hz g o s e).2.1; omega
 refine ⟨by simp [h.len], by rw [rowC_snoc h.len, List.length_append]; exact hr, fun j hj => ?_⟩; rw [getD_snocE, getD_snocE, hVe]
 by_cases hl : j < es.length
 ·rw [if_pos hl, if_pos hl]
  exact old _ _ (h.own j hl)
 ·have : j = es.length := by simp at hj; omega
  rw [if_neg hl, if_neg hl, if_pos this, if_pos this]; exact old _ _ hz
theorem rowF_apartO {w w' : World} {base n b2 m s2 : Nat} {t e2 : TypeId} {v v2 : Value} {zs : List Int} {xs : List Value} (h : RowF w base t v n zs) (h2 : w.ownsRow b2 e2 s2 v2 m xs) (hne : t ≠ e2) (hG : w.grownBy w' v2.ownBlock) : RowF w' base t v n zs := by
 rcases h with h | ⟨g, cap, hv, hg, F, hn⟩
 ·exact .inl h
 ·refine .inr ⟨g, cap, hv, hg, ?_, hn⟩
  obtain ⟨cs, K, hc⟩ := F; refine ⟨cs, (hG.block g (Blk.lt K) (fun c => ?_)).trans K, hc⟩
  rcases h2.2 with ⟨e, _⟩ | ⟨g', cap', cur', e, _, hc', _⟩
  ·rw [e] at c; cases c
  ·rw [e] at c
   injection c with c; have K0 : w.heap[g]? = some (Obj.cells cs t (0, 0)) := K; have K1 : w.heap[g]? = some (Obj.cells cur' e2 (0, 0)) := c ▸ hc'; have K2 := K0.symm.trans K1; injection K2 with K2; injection K2 with _ h3; exact hne h3
theorem TwO.far {w w' : World} {base b : Nat} {p : TA} {t : Tw} (h : TwO w base p t) (hG : w.grownBy w' (some b)) (hb : b < base) : TwO w' base p t :=
 ⟨h.o1.far hG (fun q e => by injection e with e; omega), h.n1, h.o2.far hG (fun q e => by injection e with e; omega), h.n2, h.o3.far hG (fun q e => by injection e with e; omega), h.n3, h.o4.far hG (fun q e => by injection e with e; omega), h.n4⟩
theorem TwO.apartE {w w' : World} {base b2 n : Nat} {p : TA} {t : Tw} {v : Value} {xs : List Value} (h : TwO w base p t) (h2 : w.ownsRow b2 63 9 v n xs) (hG : w.grownBy w' v.ownBlock) : TwO w' base p t :=
 ⟨rowF_apartO h.o1 h2 (by decide) hG, h.n1, rowF_apartO h.o2 h2 (by decide) hG, h.n2, rowF_apartO h.o3 h2 (by decide) hG, h.n3, rowF_apartO h.o4 h2 (by decide) hG, h.n4⟩
theorem TwO.abv {w : World} {base : Nat} {p : TA} {t : Tw} (h : TwO w base p t) : (∀ ad, p.a1 = some ad → base ≤ ad.block) ∧ (∀ ad, p.a2 = some ad → base ≤ ad.block) ∧ (∀ ad, p.a3 = some ad → base ≤ ad.block) ∧ (∀ ad, p.a4 = some ad → base ≤ ad.block) := by
 have key : ∀ (a : Option Addr) (n c : Nat) (t : TypeId) (zs : List Int), RowF w base t (.slice a n c) n zs → ∀ ad, a = some ad → base ≤ ad.block := fun a n c t zs h ad e => by
  rcases h with ⟨hv, _⟩ | ⟨g, cap, hv, hg, _⟩
  ·injection hv with hv; rw [hv] at e; cases e
  ·injection hv with hv; rw [hv] at e; injection e with e; subst e; exact hg
 exact ⟨key _ _ _ _ _ h.o1, key _ _ _ _ _ h.o2, key _ _ _ _ _ h.o3, key _ _ _ _ _ h.o4⟩

structure OffW (w w' : World) (S : Nat → Prop) : Prop where
 os : w'.os = w.os
 tape : w'.tape = w.tape
 output : w'.output = w.output
 size : w.heap.size ≤ w'.heap.size
 block : ∀ i, i < w.heap.size → ¬ S i → w'.heap[i]? = w.heap[i]?
theorem OffW.trans {a b c : World} {S : Nat → Prop} (h : OffW a b S) (g : OffW b c S) : OffW a c S :=
 ⟨g.os.trans h.os, g.tape.trans h.tape, g.output.trans h.output, Nat.le_trans h.size g.size, fun i hi hn => (g.block i (Nat.lt_of_lt_of_le hi h.size) hn).trans (h.block i hi hn)⟩
theorem own_ge {w : World} {base n size g : Nat} {t : TypeId} {v : Value} {xs : List Value} (h : w.ownsRow base t size v n xs) (e : v.ownBlock = some g) : base ≤ g ∧ g < w.heap.size ∧ ∃ cs, w.heap[g]? = some (Obj.cells cs t (0, 0)) := by
 rcases h.2 with ⟨hv, _⟩ | ⟨q, cap, cur, hv, hg, hb, _⟩
 ·rw [hv] at e; cases e
 ·rw [hv] at e; injection e with e; subst e; exact ⟨hg, Blk.lt hb, cur, hb⟩
theorem own_other {w : World} {base n size b : Nat} {t t' : TypeId} {v : Value} {xs : List Value} {cs : Array Value} (h : w.ownsRow base t size v n xs) (K : w.heap[b]? = some (Obj.cells cs t' (0, 0))) (hne : t' ≠ t) : v.ownBlock ≠ some b := by
 intro e; obtain ⟨_, _, c, hc⟩ := own_ge h e; rw [K] at hc; injection hc with hc; injection hc with _ hc; exact hne hc
theorem own_blk {w w' : World} {base n size b : Nat} {t t' : TypeId} {v : Value} {xs : List Value} {cs : Array Value} (h : w.ownsRow base t size v n xs) (K : Blk w b t' cs) (hne : t' ≠ t) (hG : w.grownBy w' v.ownBlock) : Blk w' b t' cs :=
 K.grown hG (fun e => own_other h K hne e.symm)
theorem own_row {w w' : World} {base n size base' n' size' : Nat} {t t' : TypeId} {v v' : Value} {xs xs' : List Value} (h : w.ownsRow base t size v n xs) (k : w.ownsRow base' t' size' v' n' xs') (hne : t' ≠ t) (hG : w.grownBy w' v.ownBlock) : w'.ownsRow base' t' size' v' n' xs' :=
 rowH k (fun g cs hg => hG.block g (Blk.lt hg) (fun e => own_other h hg hne e.symm))
theorem jzi {P : Program} {ops : Array Oper} {rest : List Oper} {op : Oper} {a : Act} {w : World} {Q : Exit → Act → World → Prop} (hgd : op.guard = none) (ty : TypeId) (x y : Operand) (ho : op.op = .store ty x y)
  (b : Nat) (v0 v1 v2 v3 v4 v5 v6 v7 v8 v9 : Value) (hx : a.eval x = .pointer (some ⟨b, 0, none⟩)) (hy : a.eval y = .agg #[v0, v1, v2, v3, v4, v5, v6, v7, v8, v9]) {t : TypeId} {u0 u1 u2 u3 u4 u5 u6 u7 u8 u9 : Value} (K : Blk w b t #[u0, u1, u2, u3, u4, u5, u6, u7, u8, u9])
  (hi : (P.info? ty).map (·.size) = some 10) (h1 : (v0.oneCell' && v1.oneCell' && v2.oneCell' && v3.oneCell' && v4.oneCell' && v5.oneCell' && v6.oneCell' && v7.oneCell' && v8.oneCell' && v9.oneCell') = true)
  (h : wpList P ops Q rest (a.put op.dst undef) (jqg w b v0 v1 v2 v3 v4 v5 v6 v7 v8 v9)) : wpList P ops Q (op :: rest) a w := by
 have h2 : (#[v0, v1, v2, v3, v4, v5, v6, v7, v8, v9] : Array Value).all (·.oneCell') = true := by
  simp only [Bool.and_eq_true] at h1; obtain ⟨⟨⟨⟨⟨⟨⟨⟨⟨a0, a1⟩, a2⟩, a3⟩, a4⟩, a5⟩, a6⟩, a7⟩, a8⟩, a9⟩ := h1
  simp [a0, a1, a2, a3, a4, a5, a6, a7, a8, a9]
 refine wpList_store_mid hgd ty x y ho b 0 #[v0, v1, v2, v3, v4, v5, v6, v7, v8, v9] hx hy (fun j hj => ?_) hi h2 ?_
 ·have hj' : j < 10 := hj
  have hc : ∃ v, (#[u0, u1, u2, u3, u4, u5, u6, u7, u8, u9] : Array Value)[j]? = some v := ⟨_, Array.getElem?_eq_getElem (by simpa using hj')⟩
  rw [Nat.zero_add]; obtain ⟨q0, q1, q2, q3, q4, q5, q6, q7, q8, q9⟩ := jq0 K; refine ⟨?_, K.frozen j⟩
  have hm : j = 0 ∨ j = 1 ∨ j = 2 ∨ j = 3 ∨ j = 4 ∨ j = 5 ∨ j = 6 ∨ j = 7 ∨ j = 8 ∨ j = 9 := by omega
  rcases hm with e | e | e | e | e | e | e | e | e | e <;> subst e <;> simp [*]
 ·exact h
theorem sumT_bd2 {ts : List Tn} (hz : ∀ k, k < ts.length → 0 ≤ (ts.getD k tn0).2 ∧ (ts.getD k tn0).2 ≤ 1000000) : ∀ k, k ≤ ts.length → 0 ≤ sumT (ts.take k) ∧ sumT (ts.take k) ≤ 1000000 * (k : Int) := by
  intro k
  induction k with
  | zero => intro _; exact ⟨Int.le_refl _, by show (0 : Int) ≤ 1000000 * ((0 : Nat) : Int); omega⟩
  | succ k ih =>
    intro hk; have a := ih (by omega); have b := hz k (by omega); rw [sumT_succ (by omega)]
    omega
theorem vt_hz {ts : List Tn} (h : ∀ j, j < ts.length → okT ts j = true) : ∀ k, k < ts.length → 0 ≤ (ts.getD k tn0).2 ∧ (ts.getD k tn0).2 ≤ 1000000 := fun k hk => by
 have := (okT_iff ts k).1 (h k hk); omega

theorem jxf {n l h : Int} (a : inB3 n l h = true) : l ≤ n ∧ n ≤ h := by unfold inB3 at a; simpa using a
theorem inB3_no {n l h : Int} (a : inB3 n l h = false) : n < l ∨ h < n := by
 unfold inB3 at a
 by_cases b : l ≤ n
 ·by_cases c : n ≤ h
  ·rw [decide_eq_true b, decide_eq_true c] at a; cases a
  ·exact .inr (by omega)
 ·exact .inl (by omega)
theorem srange3 (n l h : Int) (w : World) :
  Calls Try.prog 112 #[.int .i64 n, .int .i64 l, .int .i64 h] w fun e w' => e = .returned (.bool (inB3 n l h)) ∧ w = w' := by
 cases a : inB3 n l h with
 | true => exact jqh n l h w (jxf a).1 (jxf a).2
 | false => exact jz6 n l h w (inB3_no a)
theorem itown_last {s hd ls cm : Int} (R : Bool) (h : R = decide (s + hd + ls = cm)) : (Ending.returned (.bool (s + hd + ls == cm))) = .returned (.bool R) := by
 rw [h]; congr 2
def addA : List (Int × Int) → Int → Int → List (Int × Int)
 | [], o, u => if u = 0 then [] else [(o, u)]
 | a :: t, o, u => if u = 0 then a :: t else if o < a.1 then (o, u) :: a :: t else if o = a.1 then (a.1, a.2 + u) :: t else a :: addA t o u
def AscA (l : List (Int × Int)) : Prop := l.Pairwise (fun a b => a.1 < b.1)
theorem add_zero (l : List (Int × Int)) (o : Int) : addA l o 0 = l := by
 cases l with
 | nil => rfl
 | cons a t => unfold addA; rw [if_pos rfl]
theorem add_len (l : List (Int × Int)) (o u : Int) : (addA l o u).length ≤ l.length + 1 := by
  induction l with
  | nil =>
    unfold addA
    split <;> simp
  | cons a t ih =>
    unfold addA
    by_cases c : u = 0
    · rw [if_pos c]; simp
    · rw [if_neg c]
      by_cases c1 : o < a.1
      · rw [if_pos c1]; simp
      · rw [if_neg c1]
        by_cases c2 : o = a.1
        · rw [if_pos c2]; simp
        · rw [if_neg c2]; simp; omega
def vwB (zs : List Int) : Bool := allB zs 1000 && decide (zs.length ≤ 12) && decide (0 < zs.sum)
theorem vw_no1 {zs : List Int} (h : allB zs 1000 = false) : vwB zs = false := by unfold vwB; rw [h]; rfl
theorem vw_no2 {zs : List Int} (h : 12 < zs.length) : vwB zs = false := by unfold vwB; rw [decide_eq_false (by omega : ¬ zs.length ≤ 12)]; simp
theorem vw_sum {zs : List Int} (h : allB zs 1000 = true) (h2 : zs.length ≤ 12) : vwB zs = decide (0 < zs.sum) := by unfold vwB; rw [h, decide_eq_true h2]; rfl
theorem all_bd {zs : List Int} {most : Int} (h : allB zs most = true) (hm : most ≤ 1000000) : ∀ z ∈ zs, -1000000 ≤ z ∧ z ≤ 1000000 := fun z hz => by
 have := (allB_iff zs most).1 h z hz; omega
theorem vw_is {ws : List Int} (h : vwB ws = true) : allB ws 1000 = true ∧ ws.length ≤ 12 ∧ 0 < ws.sum := by
 unfold vwB at h; simp only [Bool.and_eq_true, decide_eq_true_eq] at h; exact ⟨h.1.1, h.1.2, h.2⟩
theorem svw (a : Option Addr) (cap : Nat) (zs : List Int) (w : World) (h : jqf w a zs) (hn : zs.length ≤ 1048576) :
  Calls Try.prog 193 #[.slice a zs.length cap] w fun e w' => e = .returned (.bool (vwB zs)) ∧ w = w' := by
 have h0 := h
 rcases h with rfl | ⟨g, o, rfl, hc⟩
 ·go_enter Try.func193, Try.ntmps193
  go_wp2_with fail; refine wp_loop_rounds 1 ?_; rw [rounds_succ]; go_wp2_with fail; refine (stotal a cap [] _ h0 (by simp) (by simp)).mono ?_; rintro e w' ⟨rfl, rfl⟩; go_wp2_with fail; go_ret; exact ⟨rfl, rfl⟩
 ·have HC := Lib.hid hc
  have H0 := Lib.hid h0; clear hc h0; go_enter Try.func193, Try.ntmps193; go_wp2_with fail
  go_loop [3] (fun i => ∃ k : Nat, k ≤ zs.length ∧ i = .int .i64 k ∧ Hid (∀ j, j < k → 0 ≤ zs.getD j 0 ∧ zs.getD j 0 ≤ 1000)) (fun i => zs.length - (intOf i).toNat)
  case atStart => exact ⟨0, Nat.zero_le _, rfl, fun j hj => by omega⟩
  case round =>
   obtain ⟨k, hk, rfl, HA⟩ := hrel
   by_cases hlt : k < zs.length
   ·have hc := HC.out k hlt
    have hno := allB_no (most := 1000) hlt
    have hyes : 0 ≤ zs.getD k 0 → zs.getD k 0 ≤ 1000 → ∀ j, j < k + 1 → 0 ≤ zs.getD j 0 ∧ zs.getD j 0 ≤ 1000 := fun h0 h1 j hj => by
     by_cases hjk : j = k
     ·subst hjk; exact ⟨h0, h1⟩
     ·exact HA.out j (by omega)
    generalize zs.getD k 0 = z at hc hno hyes; have HN := Lib.hid hno; have HY := Lib.hid hyes; clear hno hyes
    by_cases zb : z < 0 ∨ 1000 < z
    ·have HNN := Lib.hid (vw_no1 (HN.out zb))
     go_wp2_with fail; refine (jz6 z 0 1000 _ zb).mono ?_; rintro e w' ⟨rfl, rfl⟩; go_wp2_with fail; go_ret; exact ⟨jq8 HNN.out.symm, rfl⟩
    ·go_wp2_with fail
     refine (jqh z 0 1000 _ (by omega) (by omega)).mono ?_; rintro e w' ⟨rfl, rfl⟩; go_wp2_with fail
     go_round
     case rel => exact ⟨k + 1, by omega, by go_num, HY.out (by omega) (by omega)⟩
     case measure => simp [intOf]; omega
   ·have hall := allB_yes (most := 1000) (fun j hj => HA.out j (by omega))
    have HL := Lib.hid hall; clear hall
    by_cases h12 : 12 < zs.length
    ·go_wp2_with fail
     go_ret; exact ⟨jq8 (vw_no2 h12).symm, rfl⟩
    ·have HS := Lib.hid (vw_sum HL.out (by omega))
     go_wp2_with fail; refine (stotal _ cap zs _ H0.out (by omega) (all_bd HL.out (by omega))).mono ?_; rintro e w' ⟨rfl, rfl⟩; go_wp2_with fail; go_ret; exact ⟨jq8 HS.out.symm, rfl⟩
def csB (n : Int) (ws : List Int) : Bool := decide (0 ≤ n) && decide (n ≤ 500) && vwB ws
theorem cs_no1 {n : Int} (ws : List Int) (h : n < 0 ∨ 500 < n) : csB n ws = false := by
 unfold csB
 rcases h with h | h
 ·rw [decide_eq_false (by omega : ¬ 0 ≤ n)]; rfl
 ·rw [decide_eq_false (by omega : ¬ n ≤ 500)]; simp
theorem cs_is {n : Int} {ws : List Int} (h : 0 ≤ n ∧ n ≤ 500) : csB n ws = vwB ws := by unfold csB; rw [decide_eq_true h.1, decide_eq_true h.2]; rfl
theorem cs_yes {n : Int} {ws : List Int} (h : csB n ws = true) : (0 ≤ n ∧ n ≤ 500) ∧ vwB ws = true := by
 unfold csB at h; simp only [Bool.and_eq_true, decide_eq_true_eq] at h; exact h
theorem svalidSplit (n : Int) (a : Option Addr) (cap : Nat) (ws : List Int) (w : World) (h : jqf w a ws) (hn : ws.length ≤ 1048576) :
  Calls Try.prog 186 #[.int .i64 n, .slice a ws.length cap] w fun e w' => e = .returned (.bool (csB n ws)) ∧ w = w' := by
 by_cases h1 : n < 0 ∨ 500 < n
 ·go_enter Try.func186, Try.ntmps186
  go_wp2_with fail; refine (jz6 n 0 500 _ h1).mono ?_; rintro e w' ⟨rfl, rfl⟩; go_wp2_with fail; go_ret; exact ⟨jq8 (cs_no1 ws h1).symm, rfl⟩
 ·have HC := Lib.hid (cs_is (n := n) (ws := ws) (by omega))
  go_enter Try.func186, Try.ntmps186; go_wp2_with fail; refine (jqh n 0 500 _ (by omega) (by omega)).mono ?_; rintro e w' ⟨rfl, rfl⟩; go_wp2_with fail; refine (svw a cap ws _ h hn).mono ?_; rintro e w' ⟨rfl, rfl⟩; go_wp2_with fail; go_ret; exact ⟨jq8 HC.out.symm, rfl⟩
def qs (n : Int) (ws : List Int) : List Int := ws.map fun z => n * z / ws.sum
theorem qs_len (n : Int) (ws : List Int) : (qs n ws).length = ws.length := by unfold qs; simp
theorem qs_get (n : Int) (ws : List Int) {k : Nat} (h : k < ws.length) : (qs n ws).getD k 0 = n * ws.getD k 0 / ws.sum := by
 unfold qs; rw [List.getD_eq_getElem?_getD, List.getD_eq_getElem?_getD, List.getElem?_map, List.getElem?_eq_getElem h]; rfl
theorem q_bd {n : Int} {ws : List Int} (h : csB n ws = true) {k : Nat} (hk : k < ws.length) : 0 ≤ ws.getD k 0 ∧ ws.getD k 0 ≤ 1000 ∧ 0 ≤ n * ws.getD k 0 ∧ n * ws.getD k 0 ≤ 500000 := by
 obtain ⟨⟨a, b⟩, c⟩ := cs_yes h; have e := (allB_iff ws 1000).1 (vw_is c).1 _ (jjh hk); exact ⟨e.1, e.2, Int.mul_nonneg a e.1, Int.le_trans (Int.mul_le_mul b e.2 e.1 (by omega)) (by omega)⟩
theorem ws_bd {ws : List Int} (h : vwB ws = true) : 1 ≤ ws.sum ∧ ws.sum ≤ 12000000 := by
 obtain ⟨a, b, c⟩ := vw_is h; have := sum_bd ws (all_bd a (by omega)) ws.length (Nat.le_refl _); rw [List.take_of_length_le (Nat.le_refl _)] at this
 omega
def Quot (w : World) (n : Int) (ws : List Int) (e : Ending) (w' : World) : Prop := ∃ g : Nat, e = .returned (.slice (some ⟨g, 0, none⟩) ws.length ws.length) ∧ w.heap.size ≤ g ∧ Row w' g (qs n ws) ∧ Below w.heap.size w w'
def QuotO (w : World) (n : Int) (ws : List Int) (e : Ending) (w' : World) : Prop := ∃ v, e = .returned v ∧ w'.ownsRow w.heap.size 3 1 v ws.length ((qs n ws).map (Value.int .i64)) ∧ Below w.heap.size w w'
theorem squotasO (n : Int) (a : Option Addr) (cap : Nat) (ws : List Int) (w : World) (h : jqf w a ws) (hn : ws.length ≤ 1048576) (hcs : csB n ws = true) :
  Calls Try.prog 194 #[.int .i64 n, .slice a ws.length cap] w (QuotO w n ws) := by
 obtain ⟨⟨n0, n1⟩, hv⟩ := cs_yes hcs; have h0 := h
 rcases h with rfl | ⟨g, o, rfl, hc⟩
 ·exact absurd (vw_is hv).2.2 (by simp)
 ·obtain ⟨s0, s1⟩ := ws_bd hv
  obtain ⟨i0, hi, hz0, hz1, hz2⟩ := info_parts infoInt; have HZ := Lib.hid (all_bd (vw_is hv).1 (by omega)); have HC := Lib.hid hc; have HK := Lib.hid hcs; have H0 := Lib.hid h0; clear hc hv hcs h0; go_enter Try.func194, Try.ntmps194; go_wp2_with fail; refine (stotal _ cap ws _ (jq9 H0.out (by go_grown)) hn HZ.out).mono ?_; rintro e w' ⟨rfl, rfl⟩; go_wp2_with fail
  go_loopw [5, 7] (fun v i wr => ∃ k : Nat, k ≤ ws.length ∧ i = .int .i64 k ∧ wr.ownsRow w.heap.size 3 1 v k (((qs n ws).take k).map (Value.int .i64)) ∧ Below w.heap.size w wr) (fun _ i _ => ws.length - (intOf i).toNat)
  case atStart => exact ⟨0, Nat.zero_le _, rfl, ⟨by simp, .inr ⟨w.heap.size, 0, #[], rfl, Nat.le_refl _, Go.Deep.blk_alloc_new _ _, Nat.le_refl _, by unfold maxLen; omega, rfl, rfl⟩⟩, by go_grown⟩
  case round =>
   obtain ⟨k, hk, rfl, hown, hB⟩ := hrel; have hsz := hB.size
   by_cases hlt : k < ws.length
   ·have hc0 := HC.out k hlt
    have hc := (hB.cell (p := ⟨g, o + k, none⟩) (World.block_lt_of_cell? w _ hc0)).trans hc0; obtain ⟨z0, z1, z2, z3⟩ := q_bd HK.out hlt; have ht := take_map (qs n ws) k (by rw [qs_len]; exact hlt); rw [qs_get n ws hlt] at ht; clear hc0; generalize ws.getD k 0 = z at hc z0 z1 z2 z3 ht; have HT := Lib.hid ht; clear ht
    go_wp2_with (first | (at_builtin; refine wpList_append_own _ rfl _ _ 59 rfl w.heap.size 3 i0 (.int .i64 0) 1 8 Try.underlying59 hi hz0 hz1 hz2 rfl (by decide) _ _ _ rfl (hown.alloc _) ⟨wr.heap.size, 0, none⟩ 1 1 [.int .i64 (n * z / ws.sum)] rfl rfl (cell_one_new _ _ _) (fun x hx => by simp at hx; subst hx; rfl) (by unfold maxLen; omega) (by omega) (by simp; omega) ?_; intro v' w3 hown' hgrow3 hnil3))
    have HR : Hid (w3.ownsRow w.heap.size 3 1 v' (k + 1) (((qs n ws).take (k + 1)).map (Value.int .i64)) ∧ Below w.heap.size w w3) := ⟨by rw [HT.out]; exact hown', (hB.alloc hsz _).grown hgrow3 (by simp; omega) (fun q hq => (hown.lt q hq).1)⟩
    clear hown hown' hgrow3 hnil3 hB
    go_roundw
    case rel => exact ⟨k + 1, by omega, by go_num, HR.out.1, HR.out.2⟩
    case measure => simp [intOf]; omega
   ·have HW := Lib.hid hown
    have HB := Lib.hid hB; clear hown hB; go_wp2_with fail; go_ret; have hl := qs_len n ws; have ho := HW.out; rw [List.take_of_length_le (by omega), show k = (qs n ws).length from by omega] at ho; rw [hl] at ho; exact ⟨_, rfl, ho, HB.out⟩
theorem getD_set (l : List Int) (b : Nat) (v : Int) (hb : b < l.length) (i : Nat) : (l.set b v).getD i 0 = if i = b then v else l.getD i 0 := by
 rw [List.getD_eq_getElem?_getD, List.getElem?_set, List.getD_eq_getElem?_getD]
 by_cases h : i = b
 ·subst h; simp [hb]
 ·rw [if_neg (fun e => h e.symm), if_neg h]
theorem sum_set (l : List Int) : ∀ (b : Nat) (v : Int), b < l.length → (l.set b v).sum = l.sum - l.getD b 0 + v := by
  induction l with
  | nil => intro b v h; simp at h
  | cons x l ih =>
    intro b v h
    cases b with
    | zero => simp; omega
    | succ b =>
      have := ih b v (by simpa using h)
      simp at this ⊢
      omega
def jz9 (R : Nat → Nat → Bool) : Nat → Nat
 | 0 => 0
 | k + 1 => if R k (jz9 R k) then k else jz9 R k
theorem pickB_succ (R : Nat → Nat → Bool) (k : Nat) : jz9 R (k + 1) = if R k (jz9 R k) then k else jz9 R k := rfl
theorem pickB_lt (R : Nat → Nat → Bool) (k : Nat) : jz9 R (k + 1) < k + 1 := by
 induction k with
 | zero => rw [pickB_succ]; split <;> simp [jz9]
 | succ k ih => rw [pickB_succ]; split <;> omega
theorem pickB_lt' {R : Nat → Nat → Bool} {k : Nat} (h : 0 < k) : jz9 R k < k := by
 obtain ⟨j, rfl⟩ : ∃ j, k = j + 1 := ⟨k - 1, by omega⟩
 exact pickB_lt R j
theorem pickB_max (R : Nat → Nat → Bool) (ge : Nat → Nat → Prop) (refl : ∀ i, ge i i) (hn : ∀ i b, R i b = false → ge b i) (ht : ∀ i b c, R i b = true → ge b c → ge i c) : ∀ k i, i < k → ge (jz9 R k) i := by
  intro k
  induction k with
  | zero => intro i h; omega
  | succ k ih =>
    intro i h; rw [pickB_succ]
    cases hR : R k (jz9 R k) with
    | true =>
      simp only [if_true]
      by_cases e : i = k
      · subst e; exact refl _
      · exact ht _ _ _ hR (ih i (by omega))
    | false =>
      simp only [Bool.false_eq_true, if_false]
      by_cases e : i = k
      · subst e; exact hn _ _ hR
      · exact ih i (by omega)
def jxd (ok : Nat → Bool) (R : Nat → Nat → Bool) : Nat → Int
 | 0 => -1
 | k + 1 => if ok k && (decide (jxd ok R k < 0) || R k (jxd ok R k).toNat) then k else jxd ok R k
theorem pickS_is (ok : Nat → Bool) (R : Nat → Nat → Bool) (n : Nat) (h1 : ∀ i b, i < n → b < n → ok i = true → ok b = false → R i b = true) (h2 : ∀ i b, i < n → b < n → ok i = false → R i b = false) :
    ∀ k, k ≤ n → (jxd ok R k = -1 ∧ jz9 R k = 0 ∧ ∀ j, j < k → ok j = false) ∨ (jxd ok R k = (jz9 R k : Nat) ∧ ok (jz9 R k) = true ∧ jz9 R k < k) := by
  intro k
  induction k with
  | zero => intro _; exact .inl ⟨rfl, rfl, fun j h => by omega⟩
  | succ k ih =>
    intro hk; rw [pickB_succ]
    show ((if ok k && (decide (jxd ok R k < 0) || R k (jxd ok R k).toNat) then (k : Int) else jxd ok R k) = -1 ∧ _ ∧ _) ∨ ((if ok k && (decide (jxd ok R k < 0) || R k (jxd ok R k).toNat) then (k : Int) else jxd ok R k) = _ ∧ _ ∧ _)
    rcases ih (by omega) with ⟨a, b, c⟩ | ⟨a, b, c⟩
    · rw [a, b]
      cases ho : ok k with
      | true =>
        right
        by_cases h0 : k = 0
        · subst h0; simp [ho]
        · rw [h1 k 0 (by omega) (by omega) ho (c 0 (by omega))]; simp [ho]
      | false =>
        left
        rw [h2 k 0 (by omega) (by omega) ho]; refine ⟨by simp, by simp, fun j hj => ?_⟩
        by_cases e : j = k
        · subst e; exact ho
        · exact c j (by omega)
    · right
      rw [a]
      have e : decide (((jz9 R k : Nat) : Int) < 0) = false := by simp
      rw [e, Int.toNat_natCast]
      cases ho : ok k with
      | true =>
        cases hR : R k (jz9 R k) with
        | true => simp [ho]
        | false => simp [b]; omega
      | false =>
        rw [h2 k _ (by omega) (by omega) ho]
        simp [b]; omega
def rsts (n : Int) (ws : List Int) : List Int := ws.map fun z => n * z % ws.sum
theorem rsts_len (n : Int) (ws : List Int) : (rsts n ws).length = ws.length := by unfold rsts; simp
theorem rsts_get (n : Int) (ws : List Int) {k : Nat} (h : k < ws.length) : (rsts n ws).getD k 0 = n * ws.getD k 0 % ws.sum := by
 unfold rsts; rw [List.getD_eq_getElem?_getD, List.getD_eq_getElem?_getD, List.getElem?_map, List.getElem?_eq_getElem h]; rfl
theorem sum_parts (n S : Int) : ∀ ws : List Int, n * ws.sum = S * (ws.map fun z => n * z / S).sum + (ws.map fun z => n * z % S).sum := by
  intro ws
  induction ws with
  | nil => simp
  | cons x l ih =>
    simp only [List.map_cons, List.sum_cons, Int.mul_add]; have := Int.mul_ediv_add_emod (n * x) S
    omega
theorem qr_sum (n : Int) (ws : List Int) : n * ws.sum = ws.sum * (qs n ws).sum + (rsts n ws).sum := sum_parts n ws.sum ws
def jx7 (l : List Int) (i b : Nat) : Bool := decide (l.getD i 0 > l.getD b 0)
def stepR (s : List Int × List Int) : List Int × List Int :=
 (s.1.set (jz9 (jx7 s.2) s.2.length) (s.1.getD (jz9 (jx7 s.2) s.2.length) 0 + 1), s.2.set (jz9 (jx7 s.2) s.2.length) (-1))
def jza (n : Int) (ws : List Int) : Nat → List Int × List Int
 | 0 => (qs n ws, rsts n ws)
 | j + 1 => stepR (jza n ws j)
theorem restTo_len (n : Int) (ws : List Int) : ∀ j, (jza n ws j).1.length = ws.length ∧ (jza n ws j).2.length = ws.length := by
 intro j
 induction j with
 | zero => exact ⟨qs_len n ws, rsts_len n ws⟩
 | succ j ih => exact ⟨by show (List.set _ _ _).length = _; simp [ih.1], by show (List.set _ _ _).length = _; simp [ih.2]⟩
theorem moreB_max (l : List Int) {i : Nat} (h : i < l.length) : l.getD i 0 ≤ l.getD (jz9 (jx7 l) l.length) 0 := by
 refine pickB_max (jx7 l) (fun b i => l.getD i 0 ≤ l.getD b 0) (fun i => Int.le_refl _) (fun i b h => ?_) (fun i b c h h' => ?_) l.length i h
 ·unfold jx7 at h; simp only [decide_eq_false_iff_not] at h; omega
 ·unfold jx7 at h; simp only [decide_eq_true_eq] at h; omega
def leftOf (n : Int) (ws : List Int) : Nat := (n - (qs n ws).sum).toNat
def sr (n : Int) (ws : List Int) : List Int := (jza n ws (leftOf n ws)).1
theorem sr_len (n : Int) (ws : List Int) : (sr n ws).length = ws.length := (restTo_len n ws _).1
def posS (l : List Int) : Int := (l.map fun z => if z < 0 then 0 else z).sum
theorem posS_pos {l : List Int} (h : 0 < posS l) : ∃ i, i < l.length ∧ 0 < l.getD i 0 := by
  unfold posS at h
  induction l with
  | nil => simp at h
  | cons x l ih =>
    by_cases hx : 0 < x
    · exact ⟨0, by simp, by simpa using hx⟩
    · simp only [List.map_cons, List.sum_cons] at h
      obtain ⟨i, hi, hg⟩ := ih (by split at h <;> omega); exact ⟨i + 1, by simpa using hi, by simpa using hg⟩
theorem posS_set {l : List Int} {b : Nat} (h : b < l.length) (h0 : 0 ≤ l.getD b 0) : posS (l.set b (-1)) = posS l - l.getD b 0 := by
 unfold posS; rw [List.map_set, sum_set _ _ _ (by simpa using h)]
 have e : (l.map fun z => if z < 0 then 0 else z).getD b 0 = l.getD b 0 := by
  rw [List.getD_eq_getElem?_getD, List.getElem?_map, List.getElem?_eq_getElem h]; rw [List.getD_eq_getElem?_getD, List.getElem?_eq_getElem h] at h0 ⊢
  simp at h0 ⊢; omega
 rw [e]; simp
theorem posS_all {l : List Int} (h : ∀ i, i < l.length → 0 ≤ l.getD i 0) : posS l = l.sum := by
  unfold posS
  induction l with
  | nil => rfl
  | cons x l ih =>
    have h0 := h 0 (by simp); have := ih (fun i hi => by simpa using h (i + 1) (by simpa using hi)); simp only [List.getD_cons_zero] at h0; simp only [List.map_cons, List.sum_cons, this, if_neg (by omega : ¬ x < 0)]
structure Rest (n : Int) (ws : List Int) (j : Nat) : Prop where
 each : ∀ i, i < ws.length → ((jza n ws j).1.getD i 0 = (qs n ws).getD i 0 ∧ (jza n ws j).2.getD i 0 = (rsts n ws).getD i 0) ∨ ((jza n ws j).1.getD i 0 = (qs n ws).getD i 0 + 1 ∧ (jza n ws j).2.getD i 0 = -1 ∧ 0 < (rsts n ws).getD i 0)
 order : ∀ i k, i < ws.length → k < ws.length → (jza n ws j).2.getD i 0 = -1 → (jza n ws j).2.getD k 0 ≠ -1 → (rsts n ws).getD k 0 ≤ (rsts n ws).getD i 0
 sum : (jza n ws j).1.sum = (qs n ws).sum + j
 pos : ws.sum * ((leftOf n ws : Int) - j) ≤ posS (jza n ws j).2
theorem rsts_bd {n : Int} {ws : List Int} (hcs : csB n ws = true) {i : Nat} (hi : i < ws.length) : 0 ≤ (rsts n ws).getD i 0 ∧ (rsts n ws).getD i 0 < ws.sum ∧ ws.sum ≤ 12000000 := by
 obtain ⟨s0, s1⟩ := ws_bd (cs_yes hcs).2; rw [rsts_get n ws hi]; exact ⟨Int.emod_nonneg _ (by omega), Int.emod_lt_of_pos _ (by omega), s1⟩
theorem list_nonneg {l : List Int} (h : ∀ i, i < l.length → 0 ≤ l.getD i 0) : 0 ≤ l.sum := by
  induction l with
  | nil => simp
  | cons x l ih =>
    have h0 := h 0 (by simp); have := ih (fun i hi => by simpa using h (i + 1) (by simpa using hi)); simp only [List.getD_cons_zero] at h0; rw [List.sum_cons]; omega
theorem q_sum {n : Int} {ws : List Int} (hcs : csB n ws = true) : 0 ≤ (qs n ws).sum ∧ (qs n ws).sum ≤ n := by
 obtain ⟨s0, s1⟩ := ws_bd (cs_yes hcs).2
 have hq : 0 ≤ (qs n ws).sum := list_nonneg (fun i hi => by
  rw [qs_len] at hi; rw [qs_get n ws hi]
  exact Int.ediv_nonneg (q_bd hcs hi).2.2.1 (by omega))
 have hr : 0 ≤ (rsts n ws).sum := list_nonneg (fun i hi => by rw [rsts_len] at hi; exact (rsts_bd hcs hi).1); have e := qr_sum n ws; refine ⟨hq, ?_⟩
 have : ws.sum * (qs n ws).sum ≤ ws.sum * n := by rw [Int.mul_comm ws.sum n]; omega
 exact Int.le_of_mul_le_mul_left this (by omega)
theorem left_is {n : Int} {ws : List Int} (hcs : csB n ws = true) : (leftOf n ws : Int) = n - (qs n ws).sum := by
 have := q_sum hcs; unfold leftOf; omega
theorem q_le {n : Int} {ws : List Int} (hcs : csB n ws = true) {i : Nat} (hi : i < ws.length) : 0 ≤ (qs n ws).getD i 0 ∧ (qs n ws).getD i 0 ≤ 500000 := by
 obtain ⟨s0, s1⟩ := ws_bd (cs_yes hcs).2; obtain ⟨a, b, c, d⟩ := q_bd hcs hi; rw [qs_get n ws hi]; exact ⟨Int.ediv_nonneg c (by omega), Int.le_trans (Int.ediv_le_self _ c) d⟩
theorem ws_ne {ws : List Int} (h : vwB ws = true) : 0 < ws.length := by
 have := (ws_bd h).1
 cases ws with
 | nil => simp at this
 | cons x l => simp
theorem rest_best {n : Int} {ws : List Int} (hcs : csB n ws = true) {j : Nat} (h : Rest n ws j) (hj : j < leftOf n ws) :
  jz9 (jx7 (jza n ws j).2) ws.length < ws.length ∧ 0 < (jza n ws j).2.getD (jz9 (jx7 (jza n ws j).2) ws.length) 0 := by
 obtain ⟨s0, s1⟩ := ws_bd (cs_yes hcs).2; have hl := (restTo_len n ws j).2; have hp := h.pos
 have : 0 < posS (jza n ws j).2 := by
  have : ws.sum * 1 ≤ ws.sum * ((leftOf n ws : Int) - j) := Int.mul_le_mul_of_nonneg_left (by omega) (by omega)
  omega
 obtain ⟨i, hi, hg⟩ := posS_pos this; have hm := moreB_max _ hi; rw [hl] at hm; exact ⟨pickB_lt' (by omega), by omega⟩
theorem restTo_succ1 (n : Int) (ws : List Int) (j : Nat) : (jza n ws (j + 1)).1 = (jza n ws j).1.set (jz9 (jx7 (jza n ws j).2) ws.length) ((jza n ws j).1.getD (jz9 (jx7 (jza n ws j).2) ws.length) 0 + 1) := by
 show (stepR (jza n ws j)).1 = _
 unfold stepR; rw [(restTo_len n ws j).2]
theorem restTo_succ2 (n : Int) (ws : List Int) (j : Nat) : (jza n ws (j + 1)).2 = (jza n ws j).2.set (jz9 (jx7 (jza n ws j).2) ws.length) (-1) := by
 show (stepR (jza n ws j)).2 = _
 unfold stepR; rw [(restTo_len n ws j).2]
theorem rest_is {n : Int} {ws : List Int} (hcs : csB n ws = true) : ∀ j, j ≤ leftOf n ws → Rest n ws j := by
  obtain ⟨s0, s1⟩ := ws_bd (cs_yes hcs).2; intro j
  induction j with
  | zero =>
    intro _; refine ⟨fun i hi => .inl ⟨rfl, rfl⟩, fun i k hi hk h => ?_, by simp [jza], ?_⟩
    · have : (rsts n ws).getD i 0 = -1 := h
      have := rsts_bd hcs hi
      omega
    · show _ ≤ posS (rsts n ws)
      rw [posS_all (fun i hi => by rw [rsts_len] at hi; exact (rsts_bd hcs hi).1), left_is hcs]; have := qr_sum n ws; rw [Int.mul_comm n] at this; simp only [Int.mul_sub, Int.natCast_zero, Int.mul_zero]
      omega
  | succ j ih =>
    intro hj; have H := ih (by omega); obtain ⟨hb, hpos⟩ := rest_best hcs H (by omega); obtain ⟨l1, l2⟩ := restTo_len n ws j
    have hmax := fun i (hi : i < ws.length) => moreB_max (jza n ws j).2 (i := i) (by omega)
    rw [l2] at hmax; have e1 := restTo_succ1 n ws j; have e2 := restTo_succ2 n ws j; generalize jz9 (jx7 (jza n ws j).2) ws.length = b at hb hpos hmax e1 e2
    have g1 := fun i => getD_set (jza n ws j).1 b ((jza n ws j).1.getD b 0 + 1) (by omega) i
    have g2 := fun i => getD_set (jza n ws j).2 b (-1) (by omega) i
    rw [← e1] at g1; rw [← e2] at g2
    have hbe : (jza n ws j).1.getD b 0 = (qs n ws).getD b 0 ∧ (jza n ws j).2.getD b 0 = (rsts n ws).getD b 0 := by
      rcases H.each b hb with h | h
      · exact h
      · omega
    refine ⟨fun i hi => ?_, fun i k hi hk h1 h2 => ?_, ?_, ?_⟩
    · rw [g1 i, g2 i]
      by_cases e : i = b
      · subst e; rw [if_pos rfl, if_pos rfl]; right; refine ⟨by omega, rfl, by omega⟩
      · rw [if_neg e, if_neg e]; exact H.each i hi
    · rw [g2 i] at h1
      rw [g2 k] at h2
      have ek : k ≠ b := fun e => h2 (by rw [if_pos e])
      rw [if_neg ek] at h2
      have hk' : (jza n ws j).2.getD k 0 = (rsts n ws).getD k 0 := by
        rcases H.each k hk with h | h
        · exact h.2
        · exact absurd h.2.1 h2
      by_cases e : i = b
      · subst e; have := hmax k hk; omega
      · rw [if_neg e] at h1; exact H.order i k hi hk h1 h2
    · rw [e1, sum_set _ _ _ (by omega), H.sum]; simp; omega
    · rw [e2, posS_set (by omega) (by omega)]
      have hp := H.pos; have hr := (rsts_bd hcs hb).2.1
      have e : ws.sum * ((leftOf n ws : Int) - (j + 1 : Nat)) = ws.sum * ((leftOf n ws : Int) - j) - ws.sum := by
        rw [show ((leftOf n ws : Int) - (j + 1 : Nat)) = ((leftOf n ws : Int) - j) - 1 by omega, Int.mul_sub]; omega
      rw [e]; omega
def avgB (step : Int) (ws gs : List Int) (i b : Nat) : Bool := decide (ws.getD i 0 * (step * gs.getD b 0 + 1) > ws.getD b 0 * (step * gs.getD i 0 + 1))
theorem avgB_true {step : Int} {ws gs : List Int} {i b : Nat} (h : avgB step ws gs i b = true) : ws.getD b 0 * (step * gs.getD i 0 + 1) < ws.getD i 0 * (step * gs.getD b 0 + 1) := by
 unfold avgB at h; simpa using h
theorem avgB_false {step : Int} {ws gs : List Int} {i b : Nat} (h : avgB step ws gs i b = false) : ws.getD i 0 * (step * gs.getD b 0 + 1) ≤ ws.getD b 0 * (step * gs.getD i 0 + 1) := by
 unfold avgB at h; simpa using h
def jx6 (step : Int) (ws : List Int) : Nat → List Int
 | 0 => List.replicate ws.length 0
 | j + 1 => (jx6 step ws j).set (jz9 (avgB step ws (jx6 step ws j)) ws.length) ((jx6 step ws j).getD (jz9 (avgB step ws (jx6 step ws j)) ws.length) 0 + 1)
theorem avgTo_succ (step : Int) (ws : List Int) (j : Nat) : jx6 step ws (j + 1) = (jx6 step ws j).set (jz9 (avgB step ws (jx6 step ws j)) ws.length) ((jx6 step ws j).getD (jz9 (avgB step ws (jx6 step ws j)) ws.length) 0 + 1) := rfl
theorem avgTo_len (step : Int) (ws : List Int) : ∀ j, (jx6 step ws j).length = ws.length := by
 intro j
 induction j with
 | zero => simp [jx6]
 | succ j ih => rw [avgTo_succ]; simp [ih]
def sa (step n : Int) (ws : List Int) : List Int := jx6 step ws n.toNat
theorem sa_len (step n : Int) (ws : List Int) : (sa step n ws).length = ws.length := avgTo_len step ws _
structure Avg (step : Int) (ws : List Int) (j : Nat) : Prop where
 bd : ∀ i, i < ws.length → 0 ≤ (jx6 step ws j).getD i 0 ∧ (jx6 step ws j).getD i 0 ≤ j
 zero : ∀ i, i < ws.length → ws.getD i 0 = 0 → (jx6 step ws j).getD i 0 = 0
 sum : (jx6 step ws j).sum = j
theorem all_get {ws : List Int} (h : vwB ws = true) {i : Nat} (hi : i < ws.length) : 0 ≤ ws.getD i 0 ∧ ws.getD i 0 ≤ 1000 := (allB_iff ws 1000).1 (vw_is h).1 _ (jjh hi)
theorem pos_some {ws : List Int} (h : vwB ws = true) : ∃ i, i < ws.length ∧ 0 < ws.getD i 0 := by
 have e := posS_all (fun i hi => (all_get h (i := i) hi).1); exact posS_pos (by rw [e]; exact (ws_bd h).1)
theorem fac_bd {step g j : Int} (h : 1 ≤ step ∧ step ≤ 2) (hg : 0 ≤ g ∧ g ≤ j) (hj : j ≤ 1000) : 0 < step * g + 1 ∧ step * g + 1 ≤ 2001 := by
 have a := Int.mul_nonneg (a := step) (by omega) hg.1; have b : step * g ≤ 2 * 1000 := Int.mul_le_mul h.2 (by omega) hg.1 (by omega)
 omega
theorem avg_trans {x y z a b c : Int} (hy : 0 < b) (ha : 0 < a) (hc : 0 < c)(h1 : x * b ≥ y * a) (h2 : y * c ≥ z * b) : x * c ≥ z * a := by
 have k1 : y * a * c ≤ x * b * c := Int.mul_le_mul_of_nonneg_right h1 (by omega); have k2 : z * b * a ≤ y * c * a := Int.mul_le_mul_of_nonneg_right h2 (by omega)
 have k3 : z * a * b ≤ x * c * b := by
  rw [Int.mul_right_comm z a b, Int.mul_right_comm x c b]; rw [Int.mul_right_comm y c a] at k2
  omega
 exact Int.le_of_mul_le_mul_right k3 hy
theorem avg_max {step : Int} {ws : List Int} {j : Nat} (hv : vwB ws = true) (hs : 1 ≤ step ∧ step ≤ 2) (hj : j ≤ 1000) (H : Avg step ws j) {i : Nat} (hi : i < ws.length) :
    ws.getD i 0 * (step * (jx6 step ws j).getD (jz9 (avgB step ws (jx6 step ws j)) ws.length) 0 + 1) ≤ ws.getD (jz9 (avgB step ws (jx6 step ws j)) ws.length) 0 * (step * (jx6 step ws j).getD i 0 + 1) := by
  have hb := fun i (hi : i < ws.length) => fac_bd hs (H.bd i hi) (by omega)
  have hall := fun i (hi : i < ws.length) => all_get hv hi
  have key : ∀ k, k ≤ ws.length → ∀ i, i < k → ws.getD i 0 * (step * (jx6 step ws j).getD (jz9 (avgB step ws (jx6 step ws j)) k) 0 + 1) ≤ ws.getD (jz9 (avgB step ws (jx6 step ws j)) k) 0 * (step * (jx6 step ws j).getD i 0 + 1) := by
    intro k
    induction k with
    | zero => intro _ i h; omega
    | succ k ih =>
      intro hk i hik; rw [pickB_succ]
      cases hR : avgB step ws (jx6 step ws j) k (jz9 (avgB step ws (jx6 step ws j)) k) with
      | true =>
        simp only [if_true]; have hR := avgB_true hR
        by_cases e : i = k
        · subst e; exact Int.le_refl _
        · have hp : jz9 (avgB step ws (jx6 step ws j)) k < k := pickB_lt' (by omega)
          have := ih (by omega) i (by omega); exact avg_trans (hb _ (by omega)).1 (hb _ (by omega)).1 (hb _ (by omega)).1 (Int.le_of_lt hR) this
      | false =>
        simp only [Bool.false_eq_true, if_false]; have hR := avgB_false hR
        by_cases e : i = k
        · subst e; exact hR
        · exact ih (by omega) i (by omega)
  exact key ws.length (Nat.le_refl _) i hi
theorem avg_pos {step : Int} {ws : List Int} {j : Nat} (hv : vwB ws = true) (hs : 1 ≤ step ∧ step ≤ 2) (hj : j ≤ 1000) (H : Avg step ws j) :
  jz9 (avgB step ws (jx6 step ws j)) ws.length < ws.length ∧ 0 < ws.getD (jz9 (avgB step ws (jx6 step ws j)) ws.length) 0 := by
 have hp : jz9 (avgB step ws (jx6 step ws j)) ws.length < ws.length := pickB_lt' (ws_ne hv); refine ⟨hp, ?_⟩; obtain ⟨i, hi, hw⟩ := pos_some hv; have hm := avg_max hv hs hj H hi; have h1 := (fac_bd hs (H.bd _ hp) (by omega)).1; have h2 := (fac_bd hs (H.bd _ hi) (by omega)).1; have h3 := Int.mul_pos hw h1
 by_cases h : 0 < ws.getD (jz9 (avgB step ws (jx6 step ws j)) ws.length) 0
 ·exact h
 ·have : ws.getD (jz9 (avgB step ws (jx6 step ws j)) ws.length) 0 = 0 := by have := (all_get hv hp).1; omega
  rw [this, Int.zero_mul] at hm; omega
theorem avg_is {step : Int} {ws : List Int} (hv : vwB ws = true) (hs : 1 ≤ step ∧ step ≤ 2) : ∀ j, j ≤ 1000 → Avg step ws j := by
  intro j
  induction j with
  | zero =>
    intro _
    have hz : ∀ i, (jx6 step ws 0).getD i 0 = 0 := fun i => by
      show (List.replicate ws.length (0 : Int)).getD i 0 = 0
      rw [List.getD_eq_getElem?_getD, List.getElem?_replicate]; split <;> rfl
    refine ⟨fun i hi => ?_, fun i hi _ => hz i, ?_⟩
    · rw [hz i]; omega
    · show (List.replicate ws.length (0 : Int)).sum = _
      simp
  | succ j ih =>
    intro hj; have H := ih (by omega); obtain ⟨hp, hw⟩ := avg_pos hv hs (by omega) H; have hl := avgTo_len step ws j; have e := avgTo_succ step ws j; generalize jz9 (avgB step ws (jx6 step ws j)) ws.length = b at hp hw e
    have g1 := fun i => getD_set (jx6 step ws j) b ((jx6 step ws j).getD b 0 + 1) (by omega) i
    rw [← e] at g1; refine ⟨fun i hi => ?_, fun i hi h0 => ?_, ?_⟩
    · rw [g1 i]
      have hb := H.bd b hp; have hi' := H.bd i hi
      split <;> omega
    · rw [g1 i]
      by_cases eb : i = b
      · subst eb; omega
      · rw [if_neg eb]; exact H.zero i hi h0
    · rw [e, sum_set _ _ _ (by omega), H.sum]; simp; omega

theorem sr_sum {n : Int} {ws : List Int} (hcs : csB n ws = true) : (sr n ws).sum = n := by
 have H := (rest_is hcs (leftOf n ws) (Nat.le_refl _)).sum; have := left_is hcs; unfold sr; omega
def Env (step : Int) (ws gs : List Int) : Prop := ∀ i k, i < ws.length → k < ws.length → 0 < gs.getD k 0 → ws.getD i 0 * (step * (gs.getD k 0 - 1) + 1) ≤ ws.getD k 0 * (step * gs.getD i 0 + 1)
theorem env_is {step : Int} {ws : List Int} (hv : vwB ws = true) (hs : 1 ≤ step ∧ step ≤ 2) : ∀ j, j ≤ 1000 → Env step ws (jx6 step ws j) := by
  intro j
  induction j with
  | zero =>
    intro _ i k hi hk h; have := (avg_is hv hs 0 (by omega)).bd k hk
    omega
  | succ j ih =>
    intro hj i k hi hk; have E := ih (by omega); have A := avg_is hv hs j (by omega); have hb := (avg_pos hv hs (by omega) A).1
    have hmax := fun i (hi : i < ws.length) => avg_max hv hs (by omega) A hi
    have e := avgTo_succ step ws j; have hl := avgTo_len step ws j; generalize jz9 (avgB step ws (jx6 step ws j)) ws.length = b at *
    have g1 := fun i => getD_set (jx6 step ws j) b ((jx6 step ws j).getD b 0 + 1) (by omega) i
    rw [← e] at g1; have hw := (all_get hv hk).1
    have mono : ws.getD k 0 * (step * (jx6 step ws j).getD i 0 + 1) ≤ ws.getD k 0 * (step * (jx6 step ws (j + 1)).getD i 0 + 1) := by
      refine Int.mul_le_mul_of_nonneg_left ?_ hw
      have : step * (jx6 step ws j).getD i 0 ≤ step * (jx6 step ws (j + 1)).getD i 0 := by
        refine Int.mul_le_mul_of_nonneg_left ?_ (by omega); rw [g1 i]; split
        · next h => subst h; omega
        · omega
      omega
    intro h; refine Int.le_trans ?_ mono; rw [g1 k] at h ⊢
    by_cases ek : k = b
    · subst ek
      rw [if_pos rfl]; have := hmax i hi; rw [show (jx6 step ws j).getD k 0 + 1 - 1 = (jx6 step ws j).getD k 0 by omega]; exact this
    · rw [if_neg ek] at h ⊢
      exact E i k hi hk h
theorem sa_facts {step n : Int} {ws : List Int} (hcs : csB n ws = true) (hs : 1 ≤ step ∧ step ≤ 2) :
  (sa step n ws).sum = n ∧ Env step ws (sa step n ws) ∧ ∀ i, i < ws.length → 0 ≤ (sa step n ws).getD i 0 ∧ (sa step n ws).getD i 0 ≤ n := by
 obtain ⟨⟨a, b⟩, hv⟩ := cs_yes hcs
 have A := avg_is hv hs n.toNat (by omega)
 unfold sa; refine ⟨by rw [A.sum]; omega, env_is hv hs _ (by omega), fun i hi => by have := A.bd i hi; omega⟩

theorem speriod (a : Option Addr) (cap : Nat) (ts : List Tn) (w : World) (h : IsTn w a ts) (hn : ts.length ≤ 1048576) (hz : ∀ k, k < ts.length → 0 ≤ (ts.getD k tn0).2 ∧ (ts.getD k tn0).2 ≤ 1000000) :
  Calls Try.prog 198 #[.slice a ts.length cap] w fun e w' => e = .returned (.int .i64 (sumT ts)) ∧ w = w' := by
 rcases h with rfl | ⟨g, o, rfl, hc⟩
 ·go_enter Try.func198, Try.ntmps198
  go_wp2
  go_rounds 1
  go_ret; exact ⟨rfl, rfl⟩
 ·have HC := Lib.hid hc
  have HZ := Lib.hid hz; have HB := Lib.hid (sumT_bd2 hz); clear hc hz; go_enter Try.func198, Try.ntmps198
  go_wp2
  go_loop [3, 4] (fun s i => ∃ k : Nat, k ≤ ts.length ∧ i = .int .i64 k ∧ s = .int .i64 (sumT (ts.take k))) (fun _ i => ts.length - (intOf i).toNat)
  case atStart => exact ⟨0, Nat.zero_le _, rfl, rfl⟩
  case round =>
   obtain ⟨k, hk, rfl, rfl⟩ := hrel; obtain ⟨b0, b1⟩ := HB.out k hk
   by_cases hlt : k < ts.length
   ·obtain ⟨c0, c1⟩ := HC.out k hlt
    have ht := sumT_succ hlt; obtain ⟨z0, z1⟩ := HZ.out k hlt; generalize ts.getD k tn0 = hh at c0 c1 ht z0 z1; obtain ⟨x, y⟩ := hh; dsimp only at c0 c1 ht z0 z1; generalize sumT (ts.take k) = s at ht b0 b1; have HT := Lib.hid ht; clear ht
    go_wp2
    go_round
    case rel => exact ⟨k + 1, by omega, by go_num, by rw [HT.out]⟩
    case measure => simp [intOf]; omega
   ·go_wp2
    go_ret; exact ⟨jze (by rw [List.take_of_length_le (by omega)]), rfl⟩
theorem okT_bd {ts : List Tn} {k : Nat} (hk : k ≤ ts.length) (hn : ts.length ≤ 1048576) (h : ∀ j, j < k → okT ts j = true) : 0 ≤ sumT (ts.take k) ∧ sumT (ts.take k) ≤ 352321536 := by
 have := sumT_bd k hk h; omega
theorem svt (a : Option Addr) (cap : Nat) (ts : List Tn) (w : World) (h : IsTn w a ts) (hn : ts.length ≤ 1048576) :
  Calls Try.prog 136 #[.slice a ts.length cap] w fun e w' => e = .returned (.bool (vtB ts)) ∧ w = w' := by
 rcases h with rfl | ⟨g, o, rfl, hc⟩
 ·go_enter Try.func136, Try.ntmps136
  go_wp2_with fail; refine wp_loop_rounds 1 ?_; rw [rounds_succ]; go_wp2_with fail; refine (jz6 0 1 24 _ (by omega)).mono ?_; rintro e w' ⟨rfl, rfl⟩; go_wp2_with fail; go_ret; exact ⟨rfl, rfl⟩
 ·have HC := Lib.hid hc
  clear hc; go_enter Try.func136, Try.ntmps136; go_wp2_with fail
  go_loop [3, 4] (fun s i => ∃ k : Nat, k ≤ ts.length ∧ i = .int .i64 k ∧ s = .int .i64 (sumT (ts.take k)) ∧ Hid (∀ j, j < k → okT ts j = true)) (fun _ i => ts.length - (intOf i).toNat)
  case atStart => exact ⟨0, Nat.zero_le _, rfl, rfl, fun j hj => by omega⟩
  case round =>
   obtain ⟨k, hk, rfl, rfl, HA⟩ := hrel
   by_cases hlt : k < ts.length
   ·obtain ⟨c0, c1⟩ := HC.out k hlt
    obtain ⟨b0, b1⟩ := okT_bd hk hn HA.out; have ht := sumT_succ hlt
    have hno : ¬ (1 ≤ (ts.getD k tn0).1 ∧ (ts.getD k tn0).1 ≤ 999 ∧ 1 ≤ (ts.getD k tn0).2 ∧ (ts.getD k tn0).2 ≤ 336) → vtB ts = false := fun e => vt_no2 hlt (okT_no e)
    have hyes : (1 ≤ (ts.getD k tn0).1 ∧ (ts.getD k tn0).1 ≤ 999 ∧ 1 ≤ (ts.getD k tn0).2 ∧ (ts.getD k tn0).2 ≤ 336) → ∀ j, j < k + 1 → okT ts j = true := fun e => rng_more HA.out ((okT_iff ts k).2 e)
    generalize ts.getD k tn0 = hh at c0 c1 hno hyes ht; obtain ⟨x, y⟩ := hh; dsimp only at c0 c1 hno hyes ht; generalize sumT (ts.take k) = s at ht b0 b1; have HT := Lib.hid ht; have HN := Lib.hid hno; have HY := Lib.hid hyes; clear hno hyes ht HA
    by_cases h2 : 1 ≤ x ∧ x ≤ 999
    ·by_cases h3 : 1 ≤ y ∧ y ≤ 336
     ·have HY2 := Lib.hid (HY.out ⟨h2.1, h2.2, h3.1, h3.2⟩)
      have y0 := h3.1; have y1 := h3.2; go_wp2_with fail; refine (jqh x 1 999 _ h2.1 h2.2).mono ?_; rintro e w' ⟨rfl, rfl⟩; go_wp2_with fail; refine (jqh y 1 336 _ h3.1 h3.2).mono ?_; rintro e w' ⟨rfl, rfl⟩; go_wp2_with fail
      go_round
      case rel => exact ⟨k + 1, by omega, by go_num, by rw [HT.out], HY2.out⟩
      case measure => simp [intOf]; omega
     ·have hv : Hid (vtB ts = false) := HN.out (fun c => h3 ⟨c.2.2.1, c.2.2.2⟩)
      go_wp2_with fail; refine (jqh x 1 999 _ h2.1 h2.2).mono ?_; rintro e w' ⟨rfl, rfl⟩; go_wp2_with fail; refine (jz6 y 1 336 _ (by omega)).mono ?_; rintro e w' ⟨rfl, rfl⟩; go_wp2_with fail; go_ret; exact ⟨jq8 hv.out.symm, rfl⟩
    ·have hv : Hid (vtB ts = false) := HN.out (fun c => h2 ⟨c.1, c.2.1⟩)
     go_wp2_with fail; refine (jz6 x 1 999 _ (by omega)).mono ?_; rintro e w' ⟨rfl, rfl⟩; go_wp2_with fail; go_ret; exact ⟨jq8 hv.out.symm, rfl⟩
   ·obtain rfl : k = ts.length := by omega
    rw [sumT_all]; have HA2 := HA; clear HA
    by_cases h24 : 1 ≤ ts.length ∧ ts.length ≤ 24
    ·have HE := Lib.hid (vt_end h24.1 h24.2 HA2.out)
     go_wp2_with fail; refine (jqh (ts.length : Int) 1 24 _ (by omega) (by omega)).mono ?_; rintro e w' ⟨rfl, rfl⟩; go_wp2_with fail; go_ret; exact ⟨jq8 HE.out.symm, rfl⟩
    ·have hv : Hid (vtB ts = false) := by
      by_cases c : 1 ≤ ts.length
      ·exact vt_no1 (by omega)
      ·exact vt_no0 (by omega)
     go_wp2_with fail; refine (jz6 (ts.length : Int) 1 24 _ (by omega)).mono ?_; rintro e w' ⟨rfl, rfl⟩; go_wp2_with fail; go_ret; exact ⟨jq8 hv.out.symm, rfl⟩
theorem flatTn_set : ∀ (ts : List Tn) (k : Nat) (x : Tn), k < ts.length → ((jx0 ts).set (k * 2) x.1).set (k * 2 + 1) x.2 = jx0 (ts.set k x) := by
  intro ts
  induction ts with
  | nil => intro k x h; simp at h
  | cons h t ih =>
    intro k x hk
    cases k with
    | zero => rfl
    | succ k =>
      have := ih k x (by simpa using hk); rw [show (k + 1) * 2 = k * 2 + 1 + 1 from by omega]
      show h.1 :: h.2 :: ((jx0 t).set (k * 2) x.1).set (k * 2 + 1) x.2 = _
      rw [this]; rfl
def OutTn (w : World) (b : Bool) (L : List Tn) (e : Ending) (w' : World) : Prop := (b = false → e = .returned (.slice none 0 0)) ∧ (b = true → ∃ g cap, e = .returned (.slice (some ⟨g, 0, none⟩) L.length cap) ∧ w.heap.size ≤ g ∧ Flat w' g 110 (jx0 L) ∧ L.length ≤ cap) ∧ Below w.heap.size w w'
theorem out_no {w w' : World} {L : List Tn} {e : Ending} (he : e = .returned (.slice none 0 0)) (h : Below w.heap.size w w') : OutTn w false L e w' := ⟨fun _ => he, (fun c => by cases c), h⟩
theorem out_yes {w w' : World} {L : List Tn} {g cap n : Nat} {e : Ending} (he : e = .returned (.slice (some ⟨g, 0, none⟩) n cap)) (hn : n = L.length) (hg : w.heap.size ≤ g) (hF : Flat w' g 110 (jx0 L)) (hc : L.length ≤ cap) (h : Below w.heap.size w w') : OutTn w true L e w' := ⟨(fun c => by cases c), fun _ => ⟨g, cap, by rw [he, hn], hg, hF, hc⟩, h⟩
def inB (ts : List Tn) (i : Int) : Bool := decide (0 ≤ i) && decide (i < (ts.length : Int))
def swB (ts : List Tn) (i k : Int) : Bool := vtB ts && inB ts i && inB ts k
def swL (ts : List Tn) (i k : Int) : List Tn := (ts.set i.toNat (ts.getD k.toNat tn0)).set k.toNat (ts.getD i.toNat tn0)
theorem in_no {ts : List Tn} {i : Int} (h : inB ts i = false) : i < 0 ∨ (ts.length : Int) - 1 < i := by
 have : ¬ (0 ≤ i ∧ i < (ts.length : Int)) := fun c => by unfold inB at h; rw [decide_eq_true c.1, decide_eq_true c.2] at h; cases h
 omega
theorem in_yes {ts : List Tn} {i : Int} (h : inB ts i = true) : ∃ k : Nat, i = (k : Int) ∧ k < ts.length := by
 unfold inB at h; simp only [Bool.and_eq_true, decide_eq_true_eq] at h; exact ⟨i.toNat, by omega, by omega⟩
theorem swB_no {ts : List Tn} {i k : Int} (h : vtB ts = false ∨ inB ts i = false ∨ inB ts k = false) : swB ts i k = false := by
 unfold swB
 rcases h with h | h | h <;> rw [h] <;> simp
theorem flat_new {w1 : World} {base : Nat} {v1 : Value} {ts : List Tn} (h : w1.ownsRow base 110 2 v1 (0 + ts.length) ([] ++ jj6 ts)) (hn : 1 ≤ ts.length) : ∃ g cap, v1 = .slice (some ⟨g, 0, none⟩) ts.length cap ∧ base ≤ g ∧ Flat w1 g 110 (jx0 ts) ∧ ts.length ≤ cap := by
 rw [Nat.zero_add, List.nil_append] at h
 rcases Flat.own (zs := jx0 ts) h with ⟨_, hz⟩ | r
 ·omega
 ·exact r
theorem swapped {w1 : World} {g i k : Nat} {ts : List Tn} {x y : Tn} (hF : Flat w1 g 110 (jx0 ts)) (hi : i < ts.length) (hk : k < ts.length) :
  Flat ((w1.setCell ⟨g, i * 2, none⟩ (.int .i64 x.1)).setCell ⟨g, i * 2 + 1, none⟩ (.int .i64 x.2)) g 110 (jx0 (ts.set i x)) ∧
  Flat ((((w1.setCell ⟨g, i * 2, none⟩ (.int .i64 x.1)).setCell ⟨g, i * 2 + 1, none⟩ (.int .i64 x.2)).setCell ⟨g, k * 2, none⟩ (.int .i64 y.1)).setCell ⟨g, k * 2 + 1, none⟩ (.int .i64 y.2)) g 110 (jx0 ((ts.set i x).set k y)) := by
 have hl := flatTn_len ts; have a := (hF.set_ (i := i * 2) (by omega) x.1).set_ (i := i * 2 + 1) (by rw [List.length_set]; omega) x.2; rw [flatTn_set ts i x hi] at a; have hl2 := flatTn_len (ts.set i x); rw [List.length_set] at hl2; have b := (a.set_ (i := k * 2) (by omega) y.1).set_ (i := k * 2 + 1) (by rw [List.length_set]; omega) y.2; rw [flatTn_set (ts.set i x) k y (by rw [List.length_set]; exact hk)] at b; exact ⟨a, b⟩
theorem swap_facts {w W w2 : World} {g0 o i k : Nat} {ts : List Tn} {v2 : Value} (hB : Below w.heap.size w W)
  (hc : ∀ i, i < ts.length → w.cell? ⟨g0, o + i * 2, none⟩ = some (.int .i64 (ts.getD i tn0).1) ∧ w.cell? ⟨g0, o + i * 2 + 1, none⟩ = some (.int .i64 (ts.getD i tn0).2))
  (hown : w2.ownsRow W.heap.size 110 2 v2 (0 + ts.length) ([] ++ jj6 ts)) (hg : (W.alloc (.cells #[] 110)).grownBy w2 (some W.heap.size)) (hi : i < ts.length) (hk : k < ts.length) :
  ∃ (g cp : Nat) (x0 x1 y0 y1 q0 q1 q2 q3 : Int), v2 = .slice (some ⟨g, 0, none⟩) ts.length cp ∧ w.heap.size ≤ g ∧ ts.length ≤ cp ∧
   w2.cell? ⟨g0, o + k * 2, none⟩ = some (.int .i64 x0) ∧ w2.cell? ⟨g0, o + k * 2 + 1, none⟩ = some (.int .i64 x1) ∧
   ((w2.setCell ⟨g, i * 2, none⟩ (.int .i64 x0)).setCell ⟨g, i * 2 + 1, none⟩ (.int .i64 x1)).cell? ⟨g0, o + i * 2, none⟩ = some (.int .i64 y0) ∧ ((w2.setCell ⟨g, i * 2, none⟩ (.int .i64 x0)).setCell ⟨g, i * 2 + 1, none⟩ (.int .i64 x1)).cell? ⟨g0, o + i * 2 + 1, none⟩ = some (.int .i64 y1) ∧
   w2.cell? ⟨g, i * 2, none⟩ = some (.int .i64 q0) ∧ w2.cell? ⟨g, i * 2 + 1, none⟩ = some (.int .i64 q1) ∧
   ((w2.setCell ⟨g, i * 2, none⟩ (.int .i64 x0)).setCell ⟨g, i * 2 + 1, none⟩ (.int .i64 x1)).cell? ⟨g, k * 2, none⟩ = some (.int .i64 q2) ∧ ((w2.setCell ⟨g, i * 2, none⟩ (.int .i64 x0)).setCell ⟨g, i * 2 + 1, none⟩ (.int .i64 x1)).cell? ⟨g, k * 2 + 1, none⟩ = some (.int .i64 q3) ∧
   w2.frozen? ⟨g, i * 2, none⟩ = false ∧ w2.frozen? ⟨g, i * 2 + 1, none⟩ = false ∧
   ((w2.setCell ⟨g, i * 2, none⟩ (.int .i64 x0)).setCell ⟨g, i * 2 + 1, none⟩ (.int .i64 x1)).frozen? ⟨g, k * 2, none⟩ = false ∧ ((w2.setCell ⟨g, i * 2, none⟩ (.int .i64 x0)).setCell ⟨g, i * 2 + 1, none⟩ (.int .i64 x1)).frozen? ⟨g, k * 2 + 1, none⟩ = false ∧
   Flat ((((w2.setCell ⟨g, i * 2, none⟩ (.int .i64 x0)).setCell ⟨g, i * 2 + 1, none⟩ (.int .i64 x1)).setCell ⟨g, k * 2, none⟩ (.int .i64 y0)).setCell ⟨g, k * 2 + 1, none⟩ (.int .i64 y1)) g 110 (jx0 ((ts.set i (ts.getD k tn0)).set k (ts.getD i tn0))) ∧
   Below w.heap.size w ((((w2.setCell ⟨g, i * 2, none⟩ (.int .i64 x0)).setCell ⟨g, i * 2 + 1, none⟩ (.int .i64 x1)).setCell ⟨g, k * 2, none⟩ (.int .i64 y0)).setCell ⟨g, k * 2 + 1, none⟩ (.int .i64 y1)) := by
 obtain ⟨g, cp, rfl, lg, F2, hcc⟩ := flat_new hown (by omega); have hsz := hB.size
 have lg2 : w.heap.size ≤ g := by omega
 have hB2 : Below w.heap.size w w2 := (hB.alloc hB.size _).grown hg (by simp; omega) (fun q hq => by have e : W.heap.size = q := Option.some.inj hq; omega); obtain ⟨F3, F4⟩ := swapped (x := ts.getD k tn0) (y := ts.getD i tn0) F2 hi hk; have hB3 := (hB2.setCell (p := ⟨g, i * 2, none⟩) lg2 (.int .i64 (ts.getD k tn0).1)).setCell (p := ⟨g, i * 2 + 1, none⟩) lg2 (.int .i64 (ts.getD k tn0).2); have hB4 := (hB3.setCell (p := ⟨g, k * 2, none⟩) lg2 (.int .i64 (ts.getD i tn0).1)).setCell (p := ⟨g, k * 2 + 1, none⟩) lg2 (.int .i64 (ts.getD i tn0).2); obtain ⟨c0, c1⟩ := tn_at hc hB2 hk; obtain ⟨d0, d1⟩ := tn_at hc hB3 hi; have l2 := flatTn_len ts; have l3 := flatTn_len (ts.set i (ts.getD k tn0)); rw [List.length_set] at l3; exact ⟨g, cp, _, _, _, _, _, _, _, _, rfl, lg2, hcc, c0, c1, d0, d1, F2.cell (j := i * 2) (by omega), F2.cell (j := i * 2 + 1) (by omega), F3.cell (j := k * 2) (by omega), F3.cell (j := k * 2 + 1) (by omega), F2.frozen _, F2.frozen _, F3.frozen _, F3.frozen _, F4, hB4⟩
theorem sSwap (a : Option Addr) (cap : Nat) (ts : List Tn) (i k : Int) (w : World) (h : IsTn w a ts) (hn : ts.length ≤ 1048576) (hc : ts.length ≤ cap) :
    Calls Try.prog 180 #[.slice a ts.length cap, .int .i64 i, .int .i64 k] w (OutTn w (swB ts i k) (swL ts i k)) := by
  have VT := svt a cap ts w h hn; have H := Lib.hid h
  cases hv : vtB ts with
  | false =>
    rw [swB_no (.inl hv)]; rw [hv] at VT; clear hv h; go_enter Try.func180, Try.ntmps180; go_wp2_with fail; refine VT.mono ?_; rintro e w' ⟨rfl, rfl⟩; go_wp2_with fail; go_ret; exact out_no rfl (by go_grown)
  | true =>
    rw [hv] at VT
    cases hi : inB ts i with
    | false =>
      rw [swB_no (.inr (.inl hi))]
      clear hv h; go_enter Try.func180, Try.ntmps180; go_wp2_with fail; refine VT.mono ?_; rintro e w' ⟨rfl, rfl⟩; go_wp2_with fail; refine (jz6 i 0 ((ts.length : Int) - 1) _ (in_no hi)).mono ?_; rintro e w' ⟨rfl, rfl⟩; go_wp2_with fail; go_ret; exact out_no rfl (by go_grown)
    | true =>
      obtain ⟨i, rfl, hil⟩ := in_yes hi
      cases hk : inB ts k with
      | false =>
        rw [swB_no (.inr (.inr hk))]
        clear hv h; go_enter Try.func180, Try.ntmps180; go_wp2_with fail; refine VT.mono ?_; rintro e w' ⟨rfl, rfl⟩; go_wp2_with fail; refine (jqh (i : Int) 0 ((ts.length : Int) - 1) _ (by omega) (by omega)).mono ?_; rintro e w' ⟨rfl, rfl⟩; go_wp2_with fail; refine (jz6 k 0 ((ts.length : Int) - 1) _ (in_no hk)).mono ?_; rintro e w' ⟨rfl, rfl⟩; go_wp2_with fail; go_ret; exact out_no rfl (by go_grown)
      | true =>
        obtain ⟨k, rfl, hkl⟩ := in_yes hk
        have hb : swB ts (i : Int) (k : Int) = true := by unfold swB; rw [hv, hi, hk]; rfl
        have hL : swL ts (i : Int) (k : Int) = (ts.set i (ts.getD k tn0)).set k (ts.getD i tn0) := by unfold swL; rw [Int.toNat_natCast, Int.toNat_natCast]
        rw [hb, hL]
        obtain ⟨L, hLL⟩ : ∃ L, (ts.set i (ts.getD k tn0)).set k (ts.getD i tn0) = L := ⟨_, rfl⟩
        rw [hLL]; have HLL := Lib.hid hLL
        rcases h with rfl | ⟨g0, o, rfl, hcl⟩
        · simp at hil
        obtain ⟨i0, hi0, hz0, hz1, hz2⟩ := info_parts infoTn
        have i1 : (0 : Int) ≤ (i : Int) := by omega
        have i2 : (i : Int) < (ts.length : Int) := by omega
        have k1 : (0 : Int) ≤ (k : Int) := by omega
        have k2 : (k : Int) < (ts.length : Int) := by omega
        have l1 : 1 ≤ ts.length := by omega
        have HC := Lib.hid hcl; have HX := Lib.hid hi; have HY := Lib.hid hk; clear hv hcl hi hk hb hL hLL; go_enter Try.func180, Try.ntmps180; go_wp2_with fail; refine VT.mono ?_; rintro e w' ⟨rfl, rfl⟩; have HB := Lib.hid (Below.refl w.heap.size w); have hR := tn_reads H.out; have HR := Lib.hid hR; have hsz := HB.out.size; clear hR; go_wp2_with fail; refine (jqh (i : Int) 0 ((ts.length : Int) - 1) _ (by omega) (by omega)).mono ?_; rintro e w' ⟨rfl, rfl⟩; go_wp2_with fail; refine (jqh (k : Int) 0 ((ts.length : Int) - 1) _ (by omega) (by omega)).mono ?_; rintro e w' ⟨rfl, rfl⟩
        go_wp2_with (first | (at_builtin; refine jx5 _ rfl (.tmp 27) (.tmp 28) _ rfl w.heap.size 110 i0 _ 2 16 Try.underlying39 hi0 hz0 hz1 hz2 rfl (by omega) _ 0 [] rfl ⟨rfl, .inr ⟨w.heap.size, 0, #[], rfl, Nat.le_refl _, Blk.new _ _ _, Nat.le_refl _, by unfold maxLen; omega, rfl, rfl⟩⟩ w.heap.size (some ⟨g0, o, none⟩) ts.length cap (jj6 ts) rfl (HR.out.alloc (Nat.le_refl _) _) (valsTn_one ts) (by unfold maxLen; omega) (by omega) (by simp) ?_; intro v2 w2 hown2 hg2 hat2; obtain ⟨g, cp, x0, x1, y0, y1, q0, q1, q2, q3, rfl, lg2, hcc, c0, c1, d0, d1, m0, m1, n0, n1, fz0, fz1, fz2, fz3, F4, B4⟩ := swap_facts HB.out HC.out hown2 hg2 hil hkl; rw [HLL.out] at F4; have HF4 := Lib.hid F4; have HB4 := Lib.hid B4; clear hown2 hg2 hat2 F4 B4 HR H))
        go_ret
        have hlen : L.length = ts.length := by rw [← HLL.out]; simp
        exact out_yes rfl hlen.symm lg2 HF4.out (by omega) HB4.out


theorem sinRange (n l h : Int) (w : World) :
  Calls Try.prog 112 #[.int .i64 n, .int .i64 l, .int .i64 h] w fun e w' => e = .returned (.bool (decide (l ≤ n) && decide (n ≤ h))) ∧ w = w' := by
 by_cases c : n < l ∨ h < n
 ·have e : (decide (l ≤ n) && decide (n ≤ h)) = false := by
   rcases c with c | c
   ·rw [decide_eq_false (by omega : ¬ l ≤ n)]; rfl
   ·rw [decide_eq_false (by omega : ¬ n ≤ h)]; simp
  rw [e]; exact jz6 n l h w c
 ·rw [decide_eq_true (by omega : l ≤ n), decide_eq_true (by omega : n ≤ h)]; exact jqh n l h w (by omega) (by omega)
theorem inN_range (n : Nat) (i : Int) : (decide (0 ≤ i) && decide (i ≤ (n : Int) - 1)) = inN n i := by
 unfold inN
 by_cases h : i < (n : Int)
 ·rw [decide_eq_true h, decide_eq_true (by omega : i ≤ (n : Int) - 1)]
 ·rw [decide_eq_false h, decide_eq_false (by omega : ¬ i ≤ (n : Int) - 1)]
theorem svn (a : Option Addr) (cap : Nat) (ns : List Nd) (w : World) (h : IsNd w a ns) (hn : ns.length ≤ 1048576) :
    Calls Try.prog 137 #[.slice a ns.length cap] w fun e w' => e = .returned (.bool (vnB ns)) ∧ Below w.heap.size w w' := by
  rcases h with rfl | ⟨g, o, rfl, hc⟩
  · go_enter Try.func137, Try.ntmps137
    go_wp2_with fail; refine wp_loop_rounds 1 ?_; rw [rounds_succ]; go_wp2_with fail; refine (jz6 0 1 12 _ (by omega)).mono ?_; rintro e w' ⟨rfl, rfl⟩; go_wp2_with fail; go_ret; exact ⟨rfl, by go_grown⟩
  have HC := Lib.hid hc; have HP := Lib.hid (fun (k : Nat) (_ : k = 0) (p : Int) (e : ¬ p = -1) => (by rw [pB_zero]; exact decide_eq_false e : pB p 0 = false)); clear hc; go_enter Try.func137, Try.ntmps137; go_wp2_with fail
  go_loopw [3] (fun i wr => ∃ k : Nat, k ≤ ns.length ∧ i = .int .i64 k ∧ Hid (∀ j, j < k → okN ns j = true) ∧ Below w.heap.size w wr) (fun i _ => ns.length - (intOf i).toNat)
  case atStart => exact ⟨0, Nat.zero_le _, rfl, fun j hj => by omega, by go_grown⟩
  case round =>
    obtain ⟨k, hk, rfl, HA, hB⟩ := hrel
    by_cases hlt : k < ns.length
    · obtain ⟨c0, c1, c2, c3, c4⟩ := nd_at HC.out hB hlt
      have hnp : pB (ns.getD k nd0).1 k = false → vnB ns = false := fun e => vn_no2 hlt (by unfold okN; rw [e]; rfl)
      have hnm : mB (ns.getD k nd0) = false → vnB ns = false := fun e => vn_no2 hlt (by unfold okN; rw [e]; simp)
      have hyes : pB (ns.getD k nd0).1 k = true → mB (ns.getD k nd0) = true → ∀ j, j < k + 1 → okN ns j = true := fun e1 e2 => rng_more HA.out (by unfold okN; rw [e1, e2]; rfl)
      generalize ns.getD k nd0 = nd at c0 c1 c2 c3 c4 hnp hnm hyes; obtain ⟨x0, x1, x2, x3, x4⟩ := nd; dsimp only at c0 c1 c2 c3 c4 hnp hnm hyes
      obtain ⟨b1, h1⟩ : ∃ b, (decide (0 ≤ x1) && decide (x1 ≤ 1000)) = b := ⟨_, rfl⟩
      obtain ⟨b2, h2⟩ : ∃ b, (decide (0 ≤ x2) && decide (x2 ≤ 500)) = b := ⟨_, rfl⟩
      obtain ⟨b3, h3⟩ : ∃ b, (decide (0 ≤ x3) && decide (x3 ≤ 500)) = b := ⟨_, rfl⟩
      obtain ⟨b4, h4⟩ : ∃ b, (decide (0 ≤ x4) && decide (x4 ≤ 20)) = b := ⟨_, rfl⟩
      have hmm : mB (x0, x1, x2, x3, x4) = (b1 && b2 && b3 && b4) := by rw [← h1, ← h2, ← h3, ← h4]; rfl
      have C1 := fun W => sinRange x1 0 1000 W
      have C2 := fun W => sinRange x2 0 500 W
      have C3 := fun W => sinRange x3 0 500 W
      have C4 := fun W => sinRange x4 0 20 W
      rw [h1] at C1; rw [h2] at C2; rw [h3] at C3; rw [h4] at C4; rw [hmm] at hnm hyes; have HNP := Lib.hid hnp; have HNM := Lib.hid hnm; have HY := Lib.hid hyes; have HB := Lib.hid hB; clear h1 h2 h3 h4 hmm hnp hnm hyes hB
      by_cases k0 : k = 0
      · have e0 : ((k : Int) == 0) = true := by simp; omega
        have e1 : (k == 0) = true := by simpa using k0
        have e2 : decide (0 < (k : Int)) = false := decide_eq_false (by omega); have e3 : decide (0 < k) = false := decide_eq_false (by omega)
        by_cases hp : x0 = -1
        · have HP2 : Hid (pB x0 k = true) := by show pB x0 k = true; rw [k0, pB_zero]; exact decide_eq_true hp
          clear k0 HNP; subst hp
          cases b1 with
          | false =>
            have HV : Hid (vnB ns = false) := HNM.out (by simp); go_wp2_with fail; refine (C1 _).mono ?_; rintro e w' ⟨rfl, rfl⟩; go_wp2_with fail; go_ret; exact ⟨jq8 HV.out.symm, HB.out.alloc HB.out.size _⟩
          | true =>
            cases b2 with
            | false =>
              have HV : Hid (vnB ns = false) := HNM.out (by simp); go_wp2_with fail; refine (C1 _).mono ?_; rintro e w' ⟨rfl, rfl⟩; go_wp2_with fail; refine (C2 _).mono ?_; rintro e w' ⟨rfl, rfl⟩; go_wp2_with fail; go_ret; exact ⟨jq8 HV.out.symm, HB.out.alloc HB.out.size _⟩
            | true =>
              cases b3 with
              | false =>
                have HV : Hid (vnB ns = false) := HNM.out (by simp); go_wp2_with fail; refine (C1 _).mono ?_; rintro e w' ⟨rfl, rfl⟩; go_wp2_with fail; refine (C2 _).mono ?_; rintro e w' ⟨rfl, rfl⟩; go_wp2_with fail; refine (C3 _).mono ?_; rintro e w' ⟨rfl, rfl⟩; go_wp2_with fail; go_ret; exact ⟨jq8 HV.out.symm, HB.out.alloc HB.out.size _⟩
              | true =>
                cases b4 with
                | false =>
                  have HV : Hid (vnB ns = false) := HNM.out (by simp); go_wp2_with fail; refine (C1 _).mono ?_; rintro e w' ⟨rfl, rfl⟩; go_wp2_with fail; refine (C2 _).mono ?_; rintro e w' ⟨rfl, rfl⟩; go_wp2_with fail; refine (C3 _).mono ?_; rintro e w' ⟨rfl, rfl⟩; go_wp2_with fail; refine (C4 _).mono ?_; rintro e w' ⟨rfl, rfl⟩; go_wp2_with fail; go_ret; exact ⟨jq8 HV.out.symm, HB.out.alloc HB.out.size _⟩
                | true =>
                  have HV := Lib.hid (HY.out HP2.out (by simp)); go_wp2_with fail; refine (C1 _).mono ?_; rintro e w' ⟨rfl, rfl⟩; go_wp2_with fail; refine (C2 _).mono ?_; rintro e w' ⟨rfl, rfl⟩; go_wp2_with fail; refine (C3 _).mono ?_; rintro e w' ⟨rfl, rfl⟩; go_wp2_with fail; refine (C4 _).mono ?_; rintro e w' ⟨rfl, rfl⟩; go_wp2_with fail
                  go_roundw
                  case rel => exact ⟨k + 1, by omega, by go_num, HV.out, HB.out.alloc HB.out.size _⟩
                  case measure => simp [intOf]; omega
        · have HV : Hid (vnB ns = false) := HNP.out (by rw [k0]; exact HP.out 0 rfl x0 hp)
          have ep : (x0 == -1) = false := by simpa using hp
          have ep2 : (x0 != -1) = true := by simpa using hp
          have ep3 : decide (x0 = -1) = false := decide_eq_false hp; clear k0 HNP; go_wp2_with fail; go_ret; exact ⟨jq8 HV.out.symm, HB.out.alloc HB.out.size _⟩
      · have e0 : ((k : Int) == 0) = false := by simp; omega
        have e1 : (k == 0) = false := by simpa using k0
        have e2 : decide (0 < (k : Int)) = true := decide_eq_true (by omega); have e3 : decide (0 < k) = true := decide_eq_true (by omega)
        have e4 : IntKind.i64.wrap ((k : Int) - 1) = (k : Int) - 1 := by rw [IntKind.wrap_i64]; omega
        have hpb : pB x0 k = (decide (0 ≤ x0) && decide (x0 ≤ (k : Int) - 1)) := by rw [pB_pos _ (by omega), inN_range]; rfl
        have C0 := fun W => sinRange x0 0 ((k : Int) - 1) W
        obtain ⟨b0, h0⟩ : ∃ b, (decide (0 ≤ x0) && decide (x0 ≤ (k : Int) - 1)) = b := ⟨_, rfl⟩
        rw [h0] at hpb C0; have HPB := Lib.hid hpb; clear h0 hpb k0
        cases b0 with
        | false =>
          have HV : Hid (vnB ns = false) := HNP.out HPB.out; clear HNP; go_wp2_with fail; refine (C0 _).mono ?_; rintro e w' ⟨rfl, rfl⟩; go_wp2_with fail; go_ret; exact ⟨jq8 HV.out.symm, HB.out.alloc HB.out.size _⟩
        | true =>
          have HP2 : Hid (pB x0 k = true) := HPB.out; clear HNP HPB
          cases b1 with
          | false =>
            have HV : Hid (vnB ns = false) := HNM.out (by simp); go_wp2_with fail; refine (C0 _).mono ?_; rintro e w' ⟨rfl, rfl⟩; go_wp2_with fail; refine (C1 _).mono ?_; rintro e w' ⟨rfl, rfl⟩; go_wp2_with fail; go_ret; exact ⟨jq8 HV.out.symm, HB.out.alloc HB.out.size _⟩
          | true =>
            cases b2 with
            | false =>
              have HV : Hid (vnB ns = false) := HNM.out (by simp); go_wp2_with fail; refine (C0 _).mono ?_; rintro e w' ⟨rfl, rfl⟩; go_wp2_with fail; refine (C1 _).mono ?_; rintro e w' ⟨rfl, rfl⟩; go_wp2_with fail; refine (C2 _).mono ?_; rintro e w' ⟨rfl, rfl⟩; go_wp2_with fail; go_ret; exact ⟨jq8 HV.out.symm, HB.out.alloc HB.out.size _⟩
            | true =>
              cases b3 with
              | false =>
                have HV : Hid (vnB ns = false) := HNM.out (by simp); go_wp2_with fail; refine (C0 _).mono ?_; rintro e w' ⟨rfl, rfl⟩; go_wp2_with fail; refine (C1 _).mono ?_; rintro e w' ⟨rfl, rfl⟩; go_wp2_with fail; refine (C2 _).mono ?_; rintro e w' ⟨rfl, rfl⟩; go_wp2_with fail; refine (C3 _).mono ?_; rintro e w' ⟨rfl, rfl⟩; go_wp2_with fail; go_ret; exact ⟨jq8 HV.out.symm, HB.out.alloc HB.out.size _⟩
              | true =>
                cases b4 with
                | false =>
                  have HV : Hid (vnB ns = false) := HNM.out (by simp); go_wp2_with fail; refine (C0 _).mono ?_; rintro e w' ⟨rfl, rfl⟩; go_wp2_with fail; refine (C1 _).mono ?_; rintro e w' ⟨rfl, rfl⟩; go_wp2_with fail; refine (C2 _).mono ?_; rintro e w' ⟨rfl, rfl⟩; go_wp2_with fail; refine (C3 _).mono ?_; rintro e w' ⟨rfl, rfl⟩; go_wp2_with fail; refine (C4 _).mono ?_; rintro e w' ⟨rfl, rfl⟩; go_wp2_with fail; go_ret; exact ⟨jq8 HV.out.symm, HB.out.alloc HB.out.size _⟩
                | true =>
                  have HV := Lib.hid (HY.out HP2.out (by simp)); go_wp2_with fail; refine (C0 _).mono ?_; rintro e w' ⟨rfl, rfl⟩; go_wp2_with fail; refine (C1 _).mono ?_; rintro e w' ⟨rfl, rfl⟩; go_wp2_with fail; refine (C2 _).mono ?_; rintro e w' ⟨rfl, rfl⟩; go_wp2_with fail; refine (C3 _).mono ?_; rintro e w' ⟨rfl, rfl⟩; go_wp2_with fail; refine (C4 _).mono ?_; rintro e w' ⟨rfl, rfl⟩; go_wp2_with fail
                  go_roundw
                  case rel => exact ⟨k + 1, by omega, by go_num, HV.out, HB.out.alloc HB.out.size _⟩
                  case measure => simp [intOf]; omega
    · obtain rfl : k = ns.length := by omega
      have CE := fun W => sinRange (ns.length : Int) 1 12 W
      rw [← vn_end HA.out] at CE; have HB := Lib.hid hB; clear HA hB; go_wp2_with fail; refine (CE _).mono ?_; rintro e w' ⟨rfl, rfl⟩; go_wp2_with fail; go_ret; exact ⟨rfl, HB.out⟩
theorem kids_len (ns : List Nd) (at_ : Int) : (jzj ns at_).length ≤ ns.length := kidsTo_len ns at_ _
theorem skids (a : Option Addr) (cap : Nat) (ns : List Nd) (at_ : Int) (w : World) (h : IsNd w a ns) (hv : vnB ns = true) :
  Calls Try.prog 196 #[.slice a ns.length cap, .int .i64 at_] w (OutI w (jzj ns at_)) := by
 obtain ⟨l1, l12, _⟩ := vn_is hv; obtain ⟨i0, hi0, hz0, hz1, hz2⟩ := info_parts infoInt
 rcases h with rfl | ⟨g, o, rfl, hc⟩
 ·simp at l1
 have HC := Lib.hid hc; clear hc hv; go_enter Try.func196, Try.ntmps196; go_wp2_with fail
 go_loopw [5, 6] (fun v i wr => ∃ k : Nat, k ≤ ns.length ∧ i = .int .i64 k ∧ OwnI wr w.heap.size v (jxi ns at_ k) ∧ Below w.heap.size w wr) (fun _ i _ => ns.length - (intOf i).toNat)
 case atStart => exact ⟨0, Nat.zero_le _, rfl, OwnI.new (Below.refl _ w), by go_grown⟩
 case round =>
  obtain ⟨k, hk, rfl, hO, hB⟩ := hrel; have hsz := hB.size
  by_cases hlt : k < ns.length
  ·have c0 := (nd_at HC.out hB hlt).1
   have hyes : (ns.getD k nd0).1 = at_ → jxi ns at_ (k + 1) = jxi ns at_ k ++ [(k : Int)] := fun e => kidsTo_yes e
   have hno : ¬ (ns.getD k nd0).1 = at_ → jxi ns at_ (k + 1) = jxi ns at_ k := fun e => kidsTo_no e
   have hll := kidsTo_len ns at_ k; generalize (ns.getD k nd0).1 = x0 at c0 hyes hno; generalize jxi ns at_ k = ks at hyes hno hll hO
   by_cases hp : x0 = at_
   ·have HY := Lib.hid (hyes hp)
    subst hp; clear hyes hno
    go_wp2_with (first | (at_builtin; refine wpList_append_own _ rfl (.tmp 21) (.tmp 23) _ rfl w.heap.size 3 i0 (.int .i64 0) 1 8 Try.underlying59 hi0 hz0 hz1 hz2 rfl (by decide) _ _ _ rfl (hO.alloc _) ⟨wr.heap.size, 0, none⟩ 1 1 [.int .i64 (k : Int)] rfl rfl (cell_one_new _ _ _) (fun x hx => by simp at hx; subst hx; rfl) (by unfold maxLen; omega) (by omega) (by simp; omega) ?_; intro v3 w3 hown3 hgrow3 hnil3))
    have HR : Hid (OwnI w3 w.heap.size v3 (jxi ns x0 (k + 1)) ∧ Below w.heap.size w w3) := ⟨by rw [HY.out]; exact OwnI.snoc hown3, (hB.alloc hsz _).grown hgrow3 (by simp; omega) hO.grow⟩
    clear hO hown3 hgrow3 hnil3 hB
    go_roundw
    case rel => exact ⟨k + 1, by omega, by go_num, HR.out.1, HR.out.2⟩
    case measure => simp [intOf]; omega
   ·have HY := Lib.hid (hno hp)
    have eb : (x0 == at_) = false := by simpa using hp
    have HO := Lib.hid hO; have HB := Lib.hid hB; clear hyes hno hp hO hB; go_wp2_with fail
    go_roundw
    case rel => exact ⟨k + 1, by omega, by go_num, by rw [HY.out]; exact HO.out, HB.out⟩
    case measure => simp [intOf]; omega
  ·have HO := Lib.hid hO
   have HB := Lib.hid hB; clear hO hB; go_wp2_with fail; go_ret; exact ⟨_, rfl, by rw [show k = ns.length from by omega] at HO; exact HO.out, HB.out⟩
theorem flatNd_gate : ∀ (ns : List Nd) (k : Nat) (x : Int), k < ns.length → (jx4 ns).set (k * 5 + 1) x = jx4 (ns.set k ((ns.getD k nd0).1, x, (ns.getD k nd0).2.2)) := by
  intro ns
  induction ns with
  | nil => intro k x h; simp at h
  | cons h t ih =>
    intro k x hk
    cases k with
    | zero => rfl
    | succ k =>
      have := ih k x (by simpa using hk); rw [show (k + 1) * 5 + 1 = k * 5 + 1 + 1 + 1 + 1 + 1 + 1 from by omega]
      show h.1 :: h.2.1 :: h.2.2.1 :: h.2.2.2.1 :: h.2.2.2.2 :: ((jx4 t).set (k * 5 + 1) x) = _
      rw [this]; rfl
def sgB (ns : List Nd) (at_ wt : Int) : Bool := vnB ns && inN ns.length at_ && (decide (0 ≤ wt) && decide (wt ≤ 1000))
def sgL (ns : List Nd) (at_ wt : Int) : List Nd := ns.set at_.toNat ((ns.getD at_.toNat nd0).1, wt, (ns.getD at_.toNat nd0).2.2)
theorem gate_no {ns : List Nd} {at_ wt : Int} (h : vnB ns = false ∨ inN ns.length at_ = false ∨ (decide (0 ≤ wt) && decide (wt ≤ 1000)) = false) : sgB ns at_ wt = false := by
 unfold sgB; rcases h with h | h | h <;> rw [h] <;> simp
def OutNd (w : World) (b : Bool) (L : List Nd) (e : Ending) (w' : World) : Prop := (b = false → e = .returned (.slice none 0 0)) ∧ (b = true → ∃ g cap, e = .returned (.slice (some ⟨g, 0, none⟩) L.length cap) ∧ w.heap.size ≤ g ∧ Flat w' g 149 (jx4 L) ∧ L.length ≤ cap) ∧ Below w.heap.size w w'
theorem outNd_no {w w' : World} {L : List Nd} {e : Ending} (he : e = .returned (.slice none 0 0)) (h : Below w.heap.size w w') : OutNd w false L e w' := ⟨fun _ => he, (fun c => by cases c), h⟩
theorem outNd_yes {w w' : World} {L : List Nd} {g cap n : Nat} {e : Ending} (he : e = .returned (.slice (some ⟨g, 0, none⟩) n cap)) (hn : n = L.length) (hg : w.heap.size ≤ g) (hF : Flat w' g 149 (jx4 L)) (hc : L.length ≤ cap) (h : Below w.heap.size w w') : OutNd w true L e w' :=
 ⟨(fun c => by cases c), fun _ => ⟨g, cap, by rw [he, hn], hg, hF, hc⟩, h⟩
theorem flat_newNd {w1 : World} {base : Nat} {v1 : Value} {ns : List Nd} (h : w1.ownsRow base 149 5 v1 (0 + ns.length) ([] ++ jv2 ns)) (hn : 1 ≤ ns.length) : ∃ g cap, v1 = .slice (some ⟨g, 0, none⟩) ns.length cap ∧ base ≤ g ∧ Flat w1 g 149 (jx4 ns) ∧ ns.length ≤ cap := by
 rw [Nat.zero_add, List.nil_append] at h
 rcases Flat.own (zs := jx4 ns) h with ⟨_, hz⟩ | r
 ·omega
 ·exact r
theorem gate_flat {w : World} {g k : Nat} {ns : List Nd} {x : Int} (hF : Flat w g 149 (jx4 ns)) (hk : k < ns.length) : Flat (w.setCell ⟨g, k * 5 + 1, none⟩ (.int .i64 x)) g 149 (jx4 (sgL ns (k : Int) x)) := by
 have hl := flatNd_len ns; have a := hF.set_ (i := k * 5 + 1) (by omega) x; rw [flatNd_gate ns k x hk] at a; exact a
theorem sSetGate (a : Option Addr) (cap : Nat) (ns : List Nd) (at_ wt : Int) (w : World) (h : IsNd w a ns) (hn : ns.length ≤ 1048576) (hcap : ns.length ≤ cap) :
    Calls Try.prog 181 #[.slice a ns.length cap, .int .i64 at_, .int .i64 wt] w (OutNd w (sgB ns at_ wt) (sgL ns at_ wt)) := by
  have VN := svn a cap ns _ h hn
  have CI := fun W => sinRange at_ 0 ((ns.length : Int) - 1) W
  rw [inN_range] at CI
  have wn : IntKind.i64.wrap ((ns.length : Int) - 1) = (ns.length : Int) - 1 := by rw [IntKind.wrap_i64]; omega
  have CW := fun W => sinRange wt 0 1000 W
  cases hv : vnB ns with
  | false =>
    rw [gate_no (.inl hv)]; rw [hv] at VN; clear hv h; go_enter Try.func181, Try.ntmps181; go_wp2_with fail; refine VN.mono ?_; rintro e w1 ⟨rfl, C⟩; go_wp2_with fail; go_ret; exact outNd_no rfl C
  | true =>
  rw [hv] at VN
  cases hi : inN ns.length at_ with
  | false =>
    rw [gate_no (.inr (.inl hi))]; rw [hi] at CI; clear hv hi h; go_enter Try.func181, Try.ntmps181; go_wp2_with fail; refine VN.mono ?_; rintro e w1 ⟨rfl, C⟩; go_wp2_with fail; refine (CI _).mono ?_; rintro e w' ⟨rfl, rfl⟩; go_wp2_with fail; go_ret; exact outNd_no rfl C
  | true =>
    rw [hi] at CI; have HH := Lib.hid h
    cases hw : (decide (0 ≤ wt) && decide (wt ≤ 1000)) with
    | false =>
      rw [gate_no (.inr (.inr hw))]; rw [hw] at CW; clear hw hi hv h; go_enter Try.func181, Try.ntmps181; go_wp2_with fail; refine VN.mono ?_; rintro e w1 ⟨rfl, C⟩; go_wp2_with fail; refine (CI _).mono ?_; rintro e w' ⟨rfl, rfl⟩; go_wp2_with fail; refine (CW _).mono ?_; rintro e w' ⟨rfl, rfl⟩; clear VN CI CW; go_wp2_with fail; go_ret; exact outNd_no rfl C
    | true =>
      rw [show sgB ns at_ wt = true from by unfold sgB; rw [hv, hi, hw]; rfl]; rw [hw] at CW; obtain ⟨k, rfl, hk⟩ := inN_yes hi; obtain ⟨i0, hi0, hz0, hz1, hz2⟩ := info_parts infoNd
      have b0 : (0 : Int) ≤ (k : Int) := by omega
      have b1 : (k : Int) < (ns.length : Int) := by omega
      have hl5 := flatNd_len ns; clear hw hi hv h; go_enter Try.func181, Try.ntmps181; go_wp2_with fail; refine VN.mono ?_; rintro e w1 ⟨rfl, C⟩; go_wp2_with fail; refine (CI _).mono ?_; rintro e w' ⟨rfl, rfl⟩; go_wp2_with fail; refine (CW _).mono ?_; rintro e w' ⟨rfl, rfl⟩; clear VN CI CW; have hrd := (nd_reads (nd_below HH.out C)).alloc (Nat.le_refl _) (.cells #[] 149); have hsz := C.size
      have HB : Hid (∀ W, (w1.alloc (.cells #[] 149)).grownBy W (some w1.heap.size) → Below w.heap.size w W) := fun W hg => (C.alloc hsz _).grown hg (by simp; omega) (fun q hq => by have e : w1.heap.size = q := Option.some.inj hq; omega)
      clear C
      go_wp2_with (first | (at_builtin; refine jx5 _ rfl (.tmp 24) (.tmp 25) _ rfl w.heap.size 149 i0 _ 5 40 Try.underlying44 hi0 hz0 hz1 hz2 rfl (by omega) _ 0 [] rfl ⟨rfl, .inr ⟨w1.heap.size, 0, #[], rfl, hsz, Blk.new _ _ _, Nat.le_refl _, by unfold maxLen; omega, rfl, rfl⟩⟩ w1.heap.size a ns.length cap (jv2 ns) rfl hrd (valsNd_one ns) (by unfold maxLen; omega) (by omega) (by simp; omega) ?_; intro v3 w3 hown3 hgrow3 hat3; obtain ⟨g3, cp, rfl, lg3, F3, hcc⟩ := flat_newNd hown3 (by omega); have kc := F3.cell (j := k * 5 + 1) (by omega); have kf := F3.frozen (k * 5 + 1); have hB3 := HB.out w3 hgrow3; replace F3 := Lib.hid F3; replace hB3 := Lib.hid hB3; clear hown3 hgrow3 hat3 hrd))
      go_ret; exact outNd_yes rfl (by unfold sgL; rw [List.length_set]) lg3 (gate_flat F3.out hk) (by unfold sgL; rw [List.length_set]; exact hcc) (hB3.out.setCell (p := ⟨g3, k * 5 + 1, none⟩) lg3 _)
theorem set_self {zs : List Int} {i : Nat} {z : Int} (h : zs.getD i 0 = z) (hi : i < zs.length) : zs.set i z = zs := by
 apply List.ext_getElem?
 intro j; rw [List.getElem?_set]
 by_cases e : i = j
 ·subst e
  rw [if_pos rfl, if_pos hi, List.getElem?_eq_getElem hi]; rw [List.getD_eq_getElem?_getD, List.getElem?_eq_getElem hi] at h; rw [← h]; rfl
 ·rw [if_neg e]
def jj3 (x : Nd) (c : Int) : Int := if c ≤ x.2.2.1 then 0 else if x.2.2.2.1 < c - x.2.2.1 then x.2.2.2.1 else c - x.2.2.1
theorem pass_bd {x : Nd} {c : Int} (hr : 0 ≤ x.2.2.2.1) (hc : 0 ≤ c) (hl : 0 ≤ x.2.2.1) : 0 ≤ jj3 x c ∧ jj3 x c ≤ c ∧ jj3 x c ≤ x.2.2.2.1 := by
 unfold jj3; split
 ·exact ⟨Int.le_refl _, hc, hr⟩
 ·split <;> constructor <;> omega
theorem pass_min {x : Nd} {c : Int} (hr : 0 ≤ x.2.2.2.1) (hc : 0 ≤ c) (hl : 0 ≤ x.2.2.1) : jj3 x c = min x.2.2.2.1 (c - min x.2.2.1 c) := by
 unfold jj3; split
 ·omega
 ·split <;> omega
def wk (ns : List Nd) (ks : List Int) : List Int := ks.map fun z => (ns.getD z.toNat nd0).2.1
theorem wk_len (ns : List Nd) (ks : List Int) : (wk ns ks).length = ks.length := by unfold wk; rw [List.length_map]
theorem wk_get (ns : List Nd) (ks : List Int) {i : Nat} (h : i < ks.length) : (wk ns ks).getD i 0 = (ns.getD (ks.getD i 0).toNat nd0).2.1 := by
 unfold wk
 have e : ks.getD i 0 = ks[i] := by rw [List.getD_eq_getElem?_getD, List.getElem?_eq_getElem h]; rfl
 rw [e, List.getD_eq_getElem?_getD, List.getElem?_map, List.getElem?_eq_getElem h]; rfl
def wts (ns : List Nd) (k : Int) : List Int := wk ns (jzj ns k)
theorem wts_bd {ns : List Nd} (h : vnB ns = true) (k : Int) : ∀ z ∈ wts ns k, 0 ≤ z ∧ z ≤ 1000 := by
 intro z hz; unfold wts wk at hz; obtain ⟨y, hy, rfl⟩ := List.mem_map.1 hz; obtain ⟨j, rfl, hj, _⟩ := kids_bd hy; have := (vn_at h hj).1
 show 0 ≤ (ns.getD ((j : Int)).toNat nd0).2.1 ∧ _
 rw [show ((j : Int)).toNat = j from by omega]; exact this
theorem kids_len2 (ns : List Nd) (at_ : Int) : (jzj ns at_).length ≤ ns.length := kidsTo_len ns at_ _
theorem wts_len {ns : List Nd} (h : vnB ns = true) (k : Int) : (wts ns k).length ≤ 12 := by
 unfold wts; rw [wk_len]; have := kids_len2 ns k; have := (vn_is h).2.1; omega
theorem wts_vw {ns : List Nd} (h : vnB ns = true) (k : Int) : vwB (wts ns k) = decide (0 < (wts ns k).sum) :=
 vw_sum ((allB_iff _ _).2 (wts_bd h k)) (wts_len h k)
theorem wts_pos {ns : List Nd} (h : vnB ns = true) (k : Int) : 0 ≤ (wts ns k).sum := list_nonneg (fun i hi => (wts_bd h k _ (jjh hi)).1)
theorem wts_zero {ns : List Nd} (h : vnB ns = true) (k : Int) : ((wts ns k).sum == 0) = !(vwB (wts ns k)) := by
 have := wts_pos h k; rw [wts_vw h k]
 by_cases e : (wts ns k).sum = 0
 ·rw [e]; rfl
 ·rw [decide_eq_true (by omega), beq_eq_false_iff_ne.2 e]; rfl
def giveV (ns : List Nd) (k : Int) (p : Int) : List Int := if vwB (wts ns k) = true then sa 2 p (wts ns k) else []
theorem give_len (ns : List Nd) (k : Int) (p : Int) : (giveV ns k p).length ≤ (jzj ns k).length := by
 unfold giveV; split
 ·rw [sa_len]; unfold wts; rw [wk_len]; exact Nat.le_refl _
 ·simp
def putTo (cs ks vs : List Int) : Nat → List Int
 | 0 => cs
 | m + 1 => (putTo cs ks vs m).set (ks.getD m 0).toNat (vs.getD m 0)
theorem putTo_succ (cs ks vs : List Int) (m : Nat) : putTo cs ks vs (m + 1) = (putTo cs ks vs m).set (ks.getD m 0).toNat (vs.getD m 0) := rfl
theorem putTo_len (cs ks vs : List Int) : ∀ m, (putTo cs ks vs m).length = cs.length := by
 intro m
 induction m with
 | zero => rfl
 | succ m ih => rw [putTo_succ, List.length_set]; exact ih
theorem putTo_other {cs ks vs : List Int} {j : Nat} : ∀ m, (∀ i, i < m → (ks.getD i 0).toNat ≠ j) → (putTo cs ks vs m).getD j 0 = cs.getD j 0 := by
  intro m
  induction m with
  | zero => intro _; rfl
  | succ m ih =>
    intro h; rw [putTo_succ]
    by_cases hl : (ks.getD m 0).toNat < (putTo cs ks vs m).length
    · rw [getD_setZ j _ hl, if_neg (fun c => h m (by omega) c.symm)]
      exact ih (fun i hi => h i (by omega))
    · rw [List.set_eq_of_length_le (by omega)]
      exact ih (fun i hi => h i (by omega))
theorem putTo_at {cs ks vs : List Int} (hd : ∀ i j, i < j → j < ks.length → (ks.getD i 0).toNat ≠ (ks.getD j 0).toNat) (hb : ∀ i, i < ks.length → (ks.getD i 0).toNat < cs.length) {i : Nat} : ∀ m, i < m → m ≤ ks.length → (putTo cs ks vs m).getD (ks.getD i 0).toNat 0 = vs.getD i 0 := by
  intro m
  induction m with
  | zero => intro h; omega
  | succ m ih =>
    intro him hm; rw [putTo_succ, getD_setZ _ _ (by rw [putTo_len]; exact hb m (by omega))]
    by_cases e : i = m
    · subst e; rw [if_pos rfl]
    · rw [if_neg (hd i m (by omega) (by omega)), ih (by omega) (by omega)]
theorem putTo_zero {cs ks : List Int} : ∀ (m : Nat) (vs : List Int), (∀ i, vs.getD i 0 = 0) → (∀ i, i < m → (ks.getD i 0).toNat < cs.length ∧ cs.getD (ks.getD i 0).toNat 0 = 0) → putTo cs ks vs m = cs := by
  intro m
  induction m with
  | zero => intro _ _ _; rfl
  | succ m ih =>
    intro vs hv h; rw [putTo_succ, ih vs hv (fun i hi => h i (by omega)), hv m]; exact set_self (h m (by omega)).2 (h m (by omega)).1
theorem app_l {a b : List Int} {i : Nat} (h : i < a.length) : (a ++ b).getD i 0 = a.getD i 0 := by
 rw [List.getD_eq_getElem?_getD, List.getD_eq_getElem?_getD, List.getElem?_append_left h]
theorem app_r {a : List Int} {z : Int} : (a ++ [z]).getD a.length 0 = z := by
 rw [List.getD_eq_getElem?_getD, List.getElem?_append_right (Nat.le_refl _), Nat.sub_self]; rfl
theorem kidsTo_asc (ns : List Nd) (at_ : Int) : ∀ k i j, i < j → j < (jxi ns at_ k).length → (jxi ns at_ k).getD i 0 < (jxi ns at_ k).getD j 0 := by
  intro k
  induction k with
  | zero => intro i j _ h; exact absurd h (Nat.not_lt_zero _)
  | succ k ih =>
    intro i j hij hj
    by_cases h : (ns.getD k nd0).1 = at_
    · rw [kidsTo_yes h] at hj ⊢
      rw [List.length_append] at hj; have hj' : j < (jxi ns at_ k).length + 1 := hj
      by_cases e : j < (jxi ns at_ k).length
      · rw [app_l e, app_l (by omega)]
        exact ih i j hij e
      · have e2 : j = (jxi ns at_ k).length := by omega
        rw [app_l (by omega), e2, app_r]; obtain ⟨m, hm, hmk, _⟩ := kidsTo_mem ns at_ k _ (jjh (zs := jxi ns at_ k) (k := i) (by omega)); rw [hm]
        show (m : Int) < (k : Int)
        omega
    · rw [kidsTo_no h] at hj ⊢
      exact ih i j hij hj
theorem kid_at {ns : List Nd} {at_ : Int} {i : Nat} (h : i < (jzj ns at_).length) : ∃ j : Nat, (jzj ns at_).getD i 0 = (j : Int) ∧ j < ns.length ∧ (ns.getD j nd0).1 = at_ := kids_bd (jjh h)
theorem kid_ne {ns : List Nd} {at_ : Int} : ∀ i j, i < j → j < (jzj ns at_).length → ((jzj ns at_).getD i 0).toNat ≠ ((jzj ns at_).getD j 0).toNat := fun i j hij hj => by
 have := kidsTo_asc ns at_ ns.length i j hij hj
 obtain ⟨a, ha, _⟩ := kid_at (ns := ns) (at_ := at_) (i := i) (by omega)
 obtain ⟨b, hb, _⟩ := kid_at hj; unfold jzj at *
 omega
theorem kid_pos {ns : List Nd} {at_ : Int} {j : Nat} (h : (ns.getD j nd0).1 = at_) (hj : j < ns.length) : ∃ i, i < (jzj ns at_).length ∧ (jzj ns at_).getD i 0 = (j : Int) := by
 obtain ⟨i, hi, e⟩ := List.getElem_of_mem (kidsTo_in h ns.length hj); exact ⟨i, hi, by unfold jzj; rw [List.getD_eq_getElem?_getD, List.getElem?_eq_getElem hi, e]; rfl⟩
def stepC (ns : List Nd) (cs : List Int) (k : Nat) : List Int := putTo cs (jzj ns (k : Int)) (giveV ns (k : Int) (jj3 (ns.getD k nd0) (cs.getD k 0))) (giveV ns (k : Int) (jj3 (ns.getD k nd0) (cs.getD k 0))).length
def jz8 (ns : List Nd) (fl : Int) : Nat → List Int
 | 0 => (List.replicate ns.length 0).set 0 fl
 | k + 1 => stepC ns (jz8 ns fl k) k
theorem comeTo_succ (ns : List Nd) (fl : Int) (k : Nat) : jz8 ns fl (k + 1) = stepC ns (jz8 ns fl k) k := rfl
def jjj (ns : List Nd) (fl : Int) : List Int := jz8 ns fl ns.length
theorem comeTo_len (ns : List Nd) (fl : Int) : ∀ k, (jz8 ns fl k).length = ns.length := by
 intro k
 induction k with
 | zero => show ((List.replicate ns.length 0).set 0 fl).length = _; rw [List.length_set, List.length_replicate]
 | succ k ih => rw [comeTo_succ]; unfold stepC; rw [putTo_len]; exact ih
theorem comeTo_zero (ns : List Nd) (fl : Int) (j : Nat) (hn : 0 < ns.length) : (jz8 ns fl 0).getD j 0 = if j = 0 then fl else 0 := by
 show ((List.replicate ns.length 0).set 0 fl).getD j 0 = _
 rw [getD_setZ j fl (by rw [List.length_replicate]; exact hn)]
 by_cases e : j = 0
 ·rw [if_pos e, if_pos e]
 ·rw [if_neg e, if_neg e, List.getD_eq_getElem?_getD, List.getElem?_replicate]; split <;> rfl
theorem comeTo_stay {ns : List Nd} {fl : Int} {k j : Nat} (h : (ns.getD j nd0).1 ≠ (k : Int)) : (jz8 ns fl (k + 1)).getD j 0 = (jz8 ns fl k).getD j 0 := by
 rw [comeTo_succ]; unfold stepC; refine putTo_other _ (fun i hi c => ?_); have hl := give_len ns (k : Int) (jj3 (ns.getD k nd0) ((jz8 ns fl k).getD k 0))
 obtain ⟨q, hq, _, hp⟩ := kid_at (ns := ns) (at_ := (k : Int)) (i := i) (by omega)
 rw [hq] at c
 have : q = j := by omega
 rw [this] at hp; exact h hp
theorem comeTo_late {ns : List Nd} {fl : Int} {j : Nat} : ∀ d k, (∀ m : Nat, k ≤ m → (ns.getD j nd0).1 ≠ (m : Int)) → (jz8 ns fl (k + d)).getD j 0 = (jz8 ns fl k).getD j 0 := by
  intro d
  induction d with
  | zero => intro k _; rfl
  | succ d ih =>
    intro k h
    show (jz8 ns fl ((k + d) + 1)).getD j 0 = _
    rw [comeTo_stay (h (k + d) (by omega)), ih k h]
theorem comeTo_early {ns : List Nd} {fl : Int} {j : Nat} : ∀ k, (∀ m : Nat, m < k → (ns.getD j nd0).1 ≠ (m : Int)) → (jz8 ns fl k).getD j 0 = (jz8 ns fl 0).getD j 0 := by
 intro k
 induction k with
 | zero => intro _; rfl
 | succ k ih => intro h; rw [comeTo_stay (h k (by omega)), ih (fun m hm => h m (by omega))]
theorem come_own {ns : List Nd} (hv : vnB ns = true) {fl : Int} {j : Nat} (hj : j < ns.length) : (jjj ns fl).getD j 0 = (jz8 ns fl j).getD j 0 := by
 have b := vn_parI hv hj; unfold jjj; rw [show ns.length = j + (ns.length - j) from by omega]; exact comeTo_late _ _ (fun m hm c => by omega)
theorem come_spring {ns : List Nd} (hv : vnB ns = true) {fl : Int} : (jjj ns fl).getD 0 0 = fl := by
 rw [come_own hv (vn_is hv).1, comeTo_zero ns fl 0 (vn_is hv).1]; rfl
theorem csB_pass {ns : List Nd} (hv : vnB ns = true) {k : Nat} (hk : k < ns.length) {c : Int} (hc : 0 ≤ c) (hw : vwB (wts ns (k : Int)) = true) : csB (jj3 (ns.getD k nd0) c) (wts ns (k : Int)) = true := by
 obtain ⟨_, b, d, _⟩ := vn_at hv hk; have := pass_bd d.1 hc b.1; rw [cs_is (by omega)]; exact hw
theorem comeTo_bd {ns : List Nd} (hv : vnB ns = true) {fl : Int} (hf : 0 ≤ fl ∧ fl ≤ 500) : ∀ k, k ≤ ns.length → ∀ j, 0 ≤ (jz8 ns fl k).getD j 0 ∧ (jz8 ns fl k).getD j 0 ≤ 500 := by
  intro k
  induction k with
  | zero =>
    intro _ j; rw [comeTo_zero ns fl j (vn_is hv).1]
    split
    · exact hf
    · omega
  | succ k ih =>
    intro hk j; have ih := ih (by omega)
    by_cases hp : j < ns.length ∧ (ns.getD j nd0).1 = (k : Int)
    · obtain ⟨i, hi, he⟩ := kid_pos hp.2 hp.1
      rw [comeTo_succ]; unfold stepC
      by_cases hw : vwB (wts ns (k : Int)) = true
      · have hcs := csB_pass hv (k := k) (by omega) (ih k).1 hw
        have hg : giveV ns (k : Int) (jj3 (ns.getD k nd0) ((jz8 ns fl k).getD k 0)) = sa 2 (jj3 (ns.getD k nd0) ((jz8 ns fl k).getD k 0)) (wts ns (k : Int)) := if_pos hw
        have hlen : (sa 2 (jj3 (ns.getD k nd0) ((jz8 ns fl k).getD k 0)) (wts ns (k : Int))).length = (jzj ns (k : Int)).length := by rw [sa_len]; unfold wts; rw [wk_len]
        rw [hg, hlen]; have := putTo_at (cs := jz8 ns fl k) (vs := sa 2 (jj3 (ns.getD k nd0) ((jz8 ns fl k).getD k 0)) (wts ns (k : Int))) (kid_ne (ns := ns) (at_ := (k : Int))) (fun i hi => by obtain ⟨q, hq, hql, _⟩ := kid_at hi; rw [hq, comeTo_len]; omega) (i := i) _ hi (Nat.le_refl _); rw [he] at this; rw [show ((j : Int)).toNat = j from by omega] at this; rw [this]; obtain ⟨_, _, hb⟩ := sa_facts hcs (step := 2) (by omega); have := hb i (by unfold wts; rw [wk_len]; exact hi); have := (cs_yes hcs).1
        omega
      · have hg : giveV ns (k : Int) (jj3 (ns.getD k nd0) ((jz8 ns fl k).getD k 0)) = [] := if_neg hw
        rw [hg]; exact ih j
    · by_cases hj : j < ns.length
      · rw [comeTo_stay (fun c => hp ⟨hj, c⟩)]; exact ih j
      · rw [List.getD_eq_getElem?_getD, List.getElem?_eq_none (by rw [comeTo_len]; omega)]
        exact ⟨Int.le_refl _, by show (0 : Int) ≤ 500; omega⟩
theorem come_bd {ns : List Nd} (hv : vnB ns = true) {fl : Int} (hf : 0 ≤ fl ∧ fl ≤ 500) (j : Nat) : 0 ≤ (jjj ns fl).getD j 0 ∧ (jjj ns fl).getD j 0 ≤ 500 := comeTo_bd hv hf ns.length (Nat.le_refl _) j
theorem come_kid {ns : List Nd} (hv : vnB ns = true) {fl : Int} (hf : 0 ≤ fl ∧ fl ≤ 500) {k : Nat} (hk : k < ns.length) {i : Nat} (hi : i < (jzj ns (k : Int)).length) :
  (jjj ns fl).getD ((jzj ns (k : Int)).getD i 0).toNat 0 = if vwB (wts ns (k : Int)) = true then (sa 2 (jj3 (ns.getD k nd0) ((jjj ns fl).getD k 0)) (wts ns (k : Int))).getD i 0 else 0 := by
 obtain ⟨j, hj, hjl, hp⟩ := kid_at hi; rw [hj, show ((j : Int)).toNat = j from by omega]; have b := vn_parI hv hjl
 have h1 : (jjj ns fl).getD j 0 = (jz8 ns fl (k + 1)).getD j 0 := by
  unfold jjj; rw [show ns.length = (k + 1) + (ns.length - (k + 1)) from by omega]; exact comeTo_late _ _ (fun m hm c => by omega)
 rw [h1, come_own hv hk, comeTo_succ]; unfold stepC
 by_cases hw : vwB (wts ns (k : Int)) = true
 ·have hg : giveV ns (k : Int) (jj3 (ns.getD k nd0) ((jz8 ns fl k).getD k 0)) = sa 2 (jj3 (ns.getD k nd0) ((jz8 ns fl k).getD k 0)) (wts ns (k : Int)) := if_pos hw
  have hlen : (sa 2 (jj3 (ns.getD k nd0) ((jz8 ns fl k).getD k 0)) (wts ns (k : Int))).length = (jzj ns (k : Int)).length := by rw [sa_len]; unfold wts; rw [wk_len]
  rw [if_pos hw, hg, hlen]; have := putTo_at (cs := jz8 ns fl k) (vs := sa 2 (jj3 (ns.getD k nd0) ((jz8 ns fl k).getD k 0)) (wts ns (k : Int))) (kid_ne (ns := ns) (at_ := (k : Int))) (fun i hi => by obtain ⟨q, hq, hql, _⟩ := kid_at hi; rw [hq, comeTo_len]; omega) (i := i) _ hi (Nat.le_refl _); rw [hj] at this; rw [show ((j : Int)).toNat = j from by omega] at this; exact this
 ·have hg : giveV ns (k : Int) (jj3 (ns.getD k nd0) ((jz8 ns fl k).getD k 0)) = [] := if_neg hw
  rw [if_neg hw, hg]
  show (jz8 ns fl k).getD j 0 = 0
  rw [comeTo_early k (fun m hm c => by omega), comeTo_zero ns fl j (by omega), if_neg (by omega)]
theorem step_zero {ns : List Nd} (hv : vnB ns = true) {fl : Int} {k : Nat} (hk : k < ns.length) (hw : ¬ vwB (wts ns (k : Int)) = true) : putTo (jz8 ns fl k) (jzj ns (k : Int)) (List.replicate (jzj ns (k : Int)).length 0) (jzj ns (k : Int)).length = jz8 ns fl (k + 1) := by
 rw [comeTo_succ]; unfold stepC; have hg : giveV ns (k : Int) (jj3 (ns.getD k nd0) ((jz8 ns fl k).getD k 0)) = [] := if_neg hw; rw [hg]
 show _ = jz8 ns fl k
 refine putTo_zero _ _ (fun i => ?_) (fun i hi => ?_)
 ·rw [List.getD_eq_getElem?_getD, List.getElem?_replicate]; split <;> rfl
 ·obtain ⟨j, hj, hjl, hp⟩ := kid_at hi
  have b := vn_parI hv hjl; rw [hj, show ((j : Int)).toNat = j from by omega, comeTo_len]; refine ⟨hjl, ?_⟩; rw [comeTo_early k (fun m hm c => by omega), comeTo_zero ns fl j (by omega), if_neg (by omega)]
theorem step_give {ns : List Nd} {fl : Int} {k : Nat} (hw : vwB (wts ns (k : Int)) = true) : putTo (jz8 ns fl k) (jzj ns (k : Int)) (sa 2 (jj3 (ns.getD k nd0) ((jz8 ns fl k).getD k 0)) (wts ns (k : Int))) (jzj ns (k : Int)).length = jz8 ns fl (k + 1) := by
 rw [comeTo_succ]; unfold stepC; have hg : giveV ns (k : Int) (jj3 (ns.getD k nd0) ((jz8 ns fl k).getD k 0)) = sa 2 (jj3 (ns.getD k nd0) ((jz8 ns fl k).getD k 0)) (wts ns (k : Int)) := if_pos hw; rw [hg, sa_len]; unfold wts; rw [wk_len]
def flB (ns : List Nd) (fl : Int) : Bool := vnB ns && (decide (0 ≤ fl) && decide (fl ≤ 500))
theorem flB_is {ns : List Nd} {fl : Int} (h : flB ns fl = true) : vnB ns = true ∧ 0 ≤ fl ∧ fl ≤ 500 := by
 unfold flB at h; simp only [Bool.and_eq_true, decide_eq_true_eq] at h; exact h
theorem flB_no {ns : List Nd} {fl : Int} (h : vnB ns = false ∨ (decide (0 ≤ fl) && decide (fl ≤ 500)) = false) : flB ns fl = false := by
 unfold flB; rcases h with h | h <;> rw [h] <;> simp
def passF (ns : List Nd) (fl : Int) : List Int := (List.range ns.length).map fun i => jj3 (ns.getD i nd0) ((jjj ns fl).getD i 0)
theorem passF_len (ns : List Nd) (fl : Int) : (passF ns fl).length = ns.length := by unfold passF; simp
theorem passF_get (ns : List Nd) (fl : Int) {i : Nat} (h : i < ns.length) : (passF ns fl).getD i 0 = jj3 (ns.getD i nd0) ((jjj ns fl).getD i 0) := by
 unfold passF; rw [List.getD_eq_getElem?_getD, List.getElem?_map, List.getElem?_range h]; rfl
theorem passF_bd {ns : List Nd} (hv : vnB ns = true) {fl : Int} (hf : 0 ≤ fl ∧ fl ≤ 500) {i : Nat} (h : i < ns.length) : 0 ≤ (passF ns fl).getD i 0 ∧ (passF ns fl).getD i 0 ≤ (jjj ns fl).getD i 0 ∧ (passF ns fl).getD i 0 ≤ 500 ∧ (passF ns fl).getD i 0 ≤ (ns.getD i nd0).2.2.2.1 := by
 rw [passF_get ns fl h]; obtain ⟨_, b, d, _⟩ := vn_at hv h; have a := come_bd hv hf i; have := pass_bd d.1 a.1 b.1
 omega
def gotL (ns : List Nd) (fl : Int) (k : Int) : List Int := (jzj ns k).map fun z => (jjj ns fl).getD z.toNat 0
theorem gotL_len (ns : List Nd) (fl : Int) (k : Int) : (gotL ns fl k).length = (jzj ns k).length := by unfold gotL; rw [List.length_map]
theorem gotL_get (ns : List Nd) (fl : Int) (k : Int) {i : Nat} (h : i < (jzj ns k).length) : (gotL ns fl k).getD i 0 = (jjj ns fl).getD ((jzj ns k).getD i 0).toNat 0 := by
 have e : (jzj ns k).getD i 0 = (jzj ns k)[i] := by rw [List.getD_eq_getElem?_getD, List.getElem?_eq_getElem h]; rfl
 unfold gotL; rw [e, List.getD_eq_getElem?_getD, List.getElem?_map, List.getElem?_eq_getElem h]; rfl
theorem sum_zeros : ∀ n : Nat, (List.replicate n (0 : Int)).sum = 0 := by
 intro n
 induction n with
 | zero => rfl
 | succ n ih => rw [List.replicate_succ, List.sum_cons, ih]; rfl
theorem got_sum {ns : List Nd} (hv : vnB ns = true) {fl : Int} (hf : 0 ≤ fl ∧ fl ≤ 500) {k : Nat} (hk : k < ns.length) : (gotL ns fl (k : Int)).sum = if vwB (wts ns (k : Int)) = true then (passF ns fl).getD k 0 else 0 := by
 by_cases hw : vwB (wts ns (k : Int)) = true
 ·rw [if_pos hw]
  have hcs := csB_pass hv hk (come_bd hv hf k).1 hw
  have e : gotL ns fl (k : Int) = sa 2 (jj3 (ns.getD k nd0) ((jjj ns fl).getD k 0)) (wts ns (k : Int)) := by
   refine ext_z (by rw [gotL_len, sa_len]; unfold wts; rw [wk_len]) (fun i hi => ?_); rw [gotL_len] at hi; rw [gotL_get ns fl _ hi, come_kid hv hf hk hi, if_pos hw]
  rw [e, (sa_facts hcs (step := 2) (by omega)).1, passF_get ns fl hk]
 ·rw [if_neg hw]
  have e : gotL ns fl (k : Int) = List.replicate (jzj ns (k : Int)).length 0 := by
   refine ext_z (by rw [gotL_len, List.length_replicate]) (fun i hi => ?_); rw [gotL_len] at hi; rw [gotL_get ns fl _ hi, come_kid hv hf hk hi, if_neg hw, List.getD_eq_getElem?_getD, List.getElem?_replicate, if_pos hi]; rfl
  rw [e, sum_zeros]
def shB (ns : List Nd) (k : Int) : Bool := decide (0 < (jzj ns k).length) && ((wts ns k).sum == 0)
def lossAt (ns : List Nd) (fl : Int) (i : Nat) : Int := (jjj ns fl).getD i 0 - (passF ns fl).getD i 0 + if shB ns (i : Int) = true then (passF ns fl).getD i 0 else 0
def lostTo (ns : List Nd) (fl : Int) : Nat → Int
 | 0 => 0
 | k + 1 => lostTo ns fl k + lossAt ns fl k
theorem lostTo_succ (ns : List Nd) (fl : Int) (k : Nat) : lostTo ns fl (k + 1) = lostTo ns fl k + lossAt ns fl k := rfl
theorem loss_bd {ns : List Nd} (hv : vnB ns = true) {fl : Int} (hf : 0 ≤ fl ∧ fl ≤ 500) {i : Nat} (hi : i < ns.length) : 0 ≤ lossAt ns fl i ∧ lossAt ns fl i ≤ 500 := by
 have a := come_bd hv hf i; have b := passF_bd hv hf hi; unfold lossAt; split <;> omega
theorem lost_bd {ns : List Nd} (hv : vnB ns = true) {fl : Int} (hf : 0 ≤ fl ∧ fl ≤ 500) : ∀ k, k ≤ ns.length → 0 ≤ lostTo ns fl k ∧ lostTo ns fl k ≤ 500 * (k : Int) := by
  intro k
  induction k with
  | zero => intro _; exact ⟨Int.le_refl _, by show (0 : Int) ≤ 500 * ((0 : Nat) : Int); omega⟩
  | succ k ih =>
    intro hk; have a := ih (by omega); have b := loss_bd hv hf (i := k) (by omega); rw [lostTo_succ]; omega
theorem loss_got {ns : List Nd} (hv : vnB ns = true) {fl : Int} (hf : 0 ≤ fl ∧ fl ≤ 500) {k : Nat} (hk : k < ns.length) : lossAt ns fl k = (jjj ns fl).getD k 0 - (if (jzj ns (k : Int)).length = 0 then (passF ns fl).getD k 0 else (gotL ns fl (k : Int)).sum) := by
 unfold lossAt shB; rw [wts_zero hv]
 by_cases hz : (jzj ns (k : Int)).length = 0
 ·rw [if_pos hz, decide_eq_false (by omega)]
  show _ + (if (false && _) = true then _ else _) = _
  rw [Bool.false_and, if_neg (by simp)]; omega
 ·rw [if_neg hz, decide_eq_true (by omega), got_sum hv hf hk]
  by_cases hw : vwB (wts ns (k : Int)) = true
  ·rw [if_pos hw, hw]; show _ + (if (true && false) = true then _ else _) = _; rw [if_neg (by simp)]; omega
  ·have : vwB (wts ns (k : Int)) = false := by simpa using hw
   rw [if_neg hw, this]; show _ + (if (true && true) = true then _ else _) = _; rw [if_pos (by simp)]; omega
def jzh (ns : List Nd) (fl : Int) : Int := if flB ns fl = true then lostTo ns fl ns.length else -1
theorem lost_no {ns : List Nd} {fl : Int} (h : flB ns fl = false) : jzh ns fl = -1 := by unfold jzh; rw [h]; rfl
theorem lost_yes {ns : List Nd} {fl : Int} (h : flB ns fl = true) : jzh ns fl = lostTo ns fl ns.length := by unfold jzh; rw [h]; rfl
theorem row_set {w : World} {g : Nat} {zs : List Int} (h : Row w g zs) (k : Nat) (z : Int) (hk : k < zs.length) : Row (w.setCell ⟨g, k, none⟩ (.int .i64 z)) g (zs.set k z) := by
 unfold Row at *; rw [List.length_set]
 exact (World.rowIs.set h k (.int .i64 z)).congr (fun j hj => by
  show (if j = k then Value.int .i64 z else .int .i64 (zs.getD j 0)) = _
  rw [getD_set _ _ _ hk]; split <;> rfl)
def Divd (m : Nat) (R : List Int) (w : World) (e : Ending) (w' : World) : Prop := ∃ g : Nat, e = .returned (.slice (some ⟨g, 0, none⟩) m m) ∧ w.heap.size ≤ g ∧ Row w' g R ∧ Below w.heap.size w w'

def atSum (c : List Int) : List Int → Int
 | [] => 0
 | z :: t => c.getD z.toNat 0 + atSum c t
theorem atSum_append (c a b : List Int) : atSum c (a ++ b) = atSum c a + atSum c b := by
 induction a with
 | nil => show atSum c b = 0 + atSum c b; omega
 | cons h t ih => show c.getD h.toNat 0 + atSum c (t ++ b) = c.getD h.toNat 0 + atSum c t + _; rw [ih]; omega
theorem atSum_got (ns : List Nd) (fl : Int) (k : Int) : atSum (jjj ns fl) (jzj ns k) = (gotL ns fl k).sum := by
 unfold gotL
 induction jzj ns k with
 | nil => rfl
 | cons h t ih => rw [List.map_cons, List.sum_cons, ← ih]; rfl
def gotT (ns : List Nd) (c : List Int) (m : Nat) : Nat → Int
 | 0 => 0
 | k + 1 => gotT ns c m k + atSum c (jxi ns (k : Int) m)
theorem gotT_succ (ns : List Nd) (c : List Int) (m k : Nat) : gotT ns c m (k + 1) = gotT ns c m k + atSum c (jxi ns (k : Int) m) := rfl
theorem gotT_more (ns : List Nd) (c : List Int) (m : Nat) : ∀ k : Nat, gotT ns c (m + 1) k = gotT ns c m k + if 0 ≤ (ns.getD m nd0).1 ∧ (ns.getD m nd0).1 < (k : Int) then c.getD m 0 else 0 := by
  intro k
  induction k with
  | zero => show (0 : Int) = 0 + _; rw [if_neg (by omega)]; rfl
  | succ k ih =>
    rw [gotT_succ, gotT_succ, ih]
    by_cases e : (ns.getD m nd0).1 = (k : Int)
    · rw [kidsTo_yes e, atSum_append, if_neg (by omega), if_pos (by omega)]
      show _ + (_ + (c.getD ((m : Int)).toNat 0 + 0)) = _
      rw [show ((m : Int)).toNat = m from by omega]; omega
    · rw [kidsTo_no e]
      by_cases h : 0 ≤ (ns.getD m nd0).1 ∧ (ns.getD m nd0).1 < (k : Int)
      · rw [if_pos h, if_pos (by omega)]; omega
      · rw [if_neg h, if_neg (by omega)]; omega
theorem gotT_zero (ns : List Nd) (c : List Int) : ∀ k : Nat, gotT ns c 0 k = 0 := by
 intro k
 induction k with
 | zero => rfl
 | succ k ih => rw [gotT_succ, ih]; rfl
def sumTo (c : List Int) : Nat → Int
 | 0 => 0
 | k + 1 => sumTo c k + c.getD k 0
theorem sumTo_succ (c : List Int) (k : Nat) : sumTo c (k + 1) = sumTo c k + c.getD k 0 := rfl
theorem got_all {ns : List Nd} (hv : vnB ns = true) (c : List Int) : ∀ m : Nat, m < ns.length → gotT ns c (m + 1) ns.length = sumTo c (m + 1) - c.getD 0 0 := by
  intro m
  induction m with
  | zero =>
    intro h; rw [gotT_more, gotT_zero, vn_par0 hv, if_neg (by omega)]
    show (0 : Int) + 0 = 0 + c.getD 0 0 - c.getD 0 0; omega
  | succ m ih =>
    intro h; have p := vn_par hv h (by omega); rw [gotT_more, ih (by omega), if_pos (by omega), sumTo_succ c (m + 1)]; omega
theorem lost_leaves {ns : List Nd} (hv : vnB ns = true) {fl : Int} (hf : 0 ≤ fl ∧ fl ≤ 500) : ∀ k : Nat, k ≤ ns.length → lostTo ns fl k + atSum (passF ns fl) (leavesTo ns k) = sumTo (jjj ns fl) k - gotT ns (jjj ns fl) ns.length k := by
  intro k
  induction k with
  | zero => intro _; rfl
  | succ k ih =>
    intro hk; have a := ih (by omega); rw [lostTo_succ, loss_got hv hf (by omega), sumTo_succ, gotT_succ]; have hg : atSum (jjj ns fl) (jxi ns (k : Int) ns.length) = (gotL ns fl (k : Int)).sum := atSum_got ns fl (k : Int); rw [hg]
    by_cases hz : (jzj ns (k : Int)).length = 0
    · have h0 : (gotL ns fl (k : Int)).sum = 0 := by
        have : gotL ns fl (k : Int) = [] := List.eq_nil_of_length_eq_zero (by rw [gotL_len]; exact hz); rw [this]; rfl
      rw [if_pos hz, leavesTo_yes hz, atSum_append, h0]
      show _ + (atSum (passF ns fl) (leavesTo ns k) + ((passF ns fl).getD ((k : Int)).toNat 0 + 0)) = _
      rw [show ((k : Int)).toNat = k from by omega]; omega
    · rw [if_neg hz, leavesTo_no hz]; omega
theorem lost_all {ns : List Nd} (hv : vnB ns = true) {fl : Int} (hf : 0 ≤ fl ∧ fl ≤ 500) : lostTo ns fl ns.length + atSum (passF ns fl) (leavesTo ns ns.length) = fl := by
 obtain ⟨l1, _, _⟩ := vn_is hv; have a := lost_leaves hv hf ns.length (Nat.le_refl _); have b := got_all hv (jjj ns fl) (ns.length - 1) (by omega); rw [show ns.length - 1 + 1 = ns.length from by omega, come_spring hv] at b
 omega
theorem atSum_bd {c : List Int} (hc : ∀ i, 0 ≤ c.getD i 0 ∧ c.getD i 0 ≤ 500) : ∀ ls : List Int, 0 ≤ atSum c ls ∧ atSum c ls ≤ 500 * (ls.length : Int) := by
  intro ls
  induction ls with
  | nil => exact ⟨Int.le_refl _, by show (0 : Int) ≤ 500 * ((0 : Nat) : Int); omega⟩
  | cons z t ih =>
    have a := hc z.toNat
    show 0 ≤ c.getD z.toNat 0 + atSum c t ∧ c.getD z.toNat 0 + atSum c t ≤ 500 * ((t.length + 1 : Nat) : Int)
    omega
theorem passF_all {ns : List Nd} (hv : vnB ns = true) {fl : Int} (hf : 0 ≤ fl ∧ fl ≤ 500) (i : Nat) : 0 ≤ (passF ns fl).getD i 0 ∧ (passF ns fl).getD i 0 ≤ 500 := by
 by_cases h : i < ns.length
 ·have := passF_bd hv hf h; omega
 ·rw [List.getD_eq_getElem?_getD, List.getElem?_eq_none (by rw [passF_len]; omega)]
  exact ⟨Int.le_refl _, by show (0 : Int) ≤ 500; omega⟩

def stB (r h c w : Int) : Bool := vbB r h && (decide (0 ≤ c) && decide (c ≤ 500)) && (decide (0 ≤ w) && decide (w ≤ 500))
theorem stB_yes {r h c w : Int} (e : vbB r h = true) (a : 0 ≤ c ∧ c ≤ 500) (b : 0 ≤ w ∧ w ≤ 500) : stB r h c w = true := by
 unfold stB; rw [e, decide_eq_true a.1, decide_eq_true a.2, decide_eq_true b.1, decide_eq_true b.2]; rfl

def marks (n : Nat) : List Int := (List.range n).map fun (i : Nat) => (1 : Int) + (i : Int)

theorem fac_all {step x v : Int} (h : 1 ≤ step ∧ step ≤ 2) (hx : 0 ≤ x ∧ x ≤ 1000) (hv : 0 ≤ v ∧ v ≤ 1000) :
  0 ≤ step * v ∧ step * v ≤ 2000 ∧ 0 ≤ x * (step * v + 1) ∧ x * (step * v + 1) ≤ 2001000 := by
 have a := Int.mul_nonneg (a := step) (by omega) hv.1; have b : step * v ≤ 2 * 1000 := Int.mul_le_mul h.2 hv.2 hv.1 (by omega); have c := Int.mul_nonneg (b := step * v + 1) hx.1 (by omega); have d : x * (step * v + 1) ≤ 1000 * 2001 := Int.mul_le_mul hx.2 (by omega) (by omega) (by omega)
 omega
theorem wrap_of {z : Int} (h : -2000000000 ≤ z ∧ z ≤ 2000000000) : IntKind.i64.wrap z = z := by rw [IntKind.wrap_i64]; omega
theorem kp6 {W wq v : World} {p0 p1 p2 p3 p4 p5 : Addr} {u0 u1 u2 u3 u4 u5 : Value} (hb : Below W.heap.size W wq) (h : (W.cell? p0 = some u0 ∧ W.cell? p1 = some u1 ∧ W.cell? p2 = some u2 ∧ W.cell? p3 = some u3 ∧ W.cell? p4 = some u4 ∧ W.cell? p5 = some u5) ∧ Below v.heap.size v W) :
  (wq.cell? p0 = some u0 ∧ wq.cell? p1 = some u1 ∧ wq.cell? p2 = some u2 ∧ wq.cell? p3 = some u3 ∧ wq.cell? p4 = some u4 ∧ wq.cell? p5 = some u5) ∧ Below v.heap.size v wq := by
 obtain ⟨⟨a, b, c, d, e, f⟩, g⟩ := h
 have k : ∀ {p : Addr} {u : Value}, W.cell? p = some u → wq.cell? p = some u := fun hp => (hb.cell (World.block_lt_of_cell? W _ hp)).trans hp
 exact ⟨⟨k a, k b, k c, k d, k e, k f⟩, jq2 g hb⟩
theorem row_own {w : World} {base g : Nat} {zs : List Int} (h : Row w g zs) (hb : base ≤ g) (hn : zs.length ≤ 1048576) : OwnI w base (.slice (some ⟨g, 0, none⟩) zs.length zs.length) zs :=
 OwnI.of_row h rfl (fun j hj => rfl) hb hn


def unitsF (ns : List Nd) (k : Nat) (c : Int) : List Int := putTo (List.replicate ns.length 0) (jzj ns (k : Int)) (giveV ns (k : Int) (jj3 (ns.getD k nd0) c)) (giveV ns (k : Int) (jj3 (ns.getD k nd0) c)).length
def gE (ns : List Nd) (ms : List Int) (_ : List Int) (k j : Nat) : Int := (unitsF ns k (ms.getD k 0)).getD j 0







end Go.Proofs.Ytaehemmjemhgpaa
