/- A share that is inherited, by spec. Condition: at most 1048576 holdings and heirs. -/
import Derived.Test.YtaehemmjemhgpaaPBInherI
set_option maxRecDepth 100000
set_option maxHeartbeats 16000000
namespace Go.Proofs.Ytaehemmjemhgpaa
open Go.RowKit
set_option linter.unusedSimpArgs false

theorem keepT4 {W wq v : World} {x y u : Value} {k : Nat} {q : Addr} (hb : Below W.heap.size W wq) (h : W.cell? ⟨k, 0, none⟩ = some x ∧ W.cell? ⟨k, 1, none⟩ = some y ∧ W.cell? q = some u ∧ Below v.heap.size v W) : wq.cell? ⟨k, 0, none⟩ = some x ∧ wq.cell? ⟨k, 1, none⟩ = some y ∧ wq.cell? q = some u ∧ Below v.heap.size v wq :=
  ⟨cell_next hb h.1, cell_next hb h.2.1, cell_next hb h.2.2.1, bel_tr h.2.2.2 hb⟩
theorem T4B {W v : World} {x y u : Value} {k : Nat} {q : Addr} (h : W.cell? ⟨k, 0, none⟩ = some x ∧ W.cell? ⟨k, 1, none⟩ = some y ∧ W.cell? q = some u ∧ Below v.heap.size v W) : Below v.heap.size v W := h.2.2.2
theorem keepT4set {W v : World} {x y u s t : Value} {b k : Nat} {q : Addr} (h : W.cell? ⟨k, 0, none⟩ = some x ∧ W.cell? ⟨k, 1, none⟩ = some y ∧ W.cell? q = some u ∧ Below v.heap.size v W) (hlt : k < b) (hv : v.heap.size ≤ b) (hq : q.block < b) : ((W.setCell ⟨b, 0, none⟩ s).setCell ⟨b, 1, none⟩ t).cell? ⟨k, 0, none⟩ = some x ∧ ((W.setCell ⟨b, 0, none⟩ s).setCell ⟨b, 1, none⟩ t).cell? ⟨k, 1, none⟩ = some y ∧ ((W.setCell ⟨b, 0, none⟩ s).setCell ⟨b, 1, none⟩ t).cell? q = some u ∧ Below v.heap.size v ((W.setCell ⟨b, 0, none⟩ s).setCell ⟨b, 1, none⟩ t) := by
  have hf : ∀ (V : World) (i : Nat) (z : Value) (r : Addr), r.block < b → (V.setCell ⟨b, i, none⟩ z).cell? r = V.cell? r := fun V i z r hr => World.cell?_setCell_other V _ _ z (fun e => by subst e; exact Nat.lt_irrefl _ hr)
  exact ⟨by rw [hf _ _ _ _ hlt, hf _ _ _ _ hlt]; exact h.1, by rw [hf _ _ _ _ hlt, hf _ _ _ _ hlt]; exact h.2.1, by rw [hf _ _ _ _ hq, hf _ _ _ _ hq]; exact h.2.2.1, (h.2.2.2.setCell hv _).setCell hv _⟩
theorem keepT4R {W v : World} {x y u : Value} {o o' : Obj} {k : Nat} {q : Addr} (h : (W.alloc o).cell? ⟨k, 0, none⟩ = some x ∧ (W.alloc o).cell? ⟨k, 1, none⟩ = some y ∧ (W.alloc o).cell? q = some u ∧ Below v.heap.size v (W.alloc o)) (hB : Below v.heap.size v W) (hk : k < v.heap.size) (hq : q.block < v.heap.size) (hlt : v.heap.size ≤ W.heap.size) : (W.alloc o').cell? ⟨k, 0, none⟩ = some x ∧ (W.alloc o').cell? ⟨k, 1, none⟩ = some y ∧ (W.alloc o').cell? q = some u ∧ Below v.heap.size v (W.alloc o') := by
  have e : ∀ (r : Addr) (o : Obj), r.block < v.heap.size → (W.alloc o).cell? r = W.cell? r := fun r o hr => World.cell?_alloc_lt W o r (by omega)
  rw [e _ _ hk, e _ _ hk, e _ _ hq] at h
  exact ⟨by rw [e _ _ hk]; exact h.1, by rw [e _ _ hk]; exact h.2.1, by rw [e _ _ hq]; exact h.2.2.1, hB.alloc hlt _⟩
theorem keepT4R0 {v : World} {x y u : Value} {o o' : Obj} {k : Nat} {q : Addr} (hk : k < v.heap.size) (hq : q.block < v.heap.size) (h : (v.alloc o).cell? ⟨k, 0, none⟩ = some x ∧ (v.alloc o).cell? ⟨k, 1, none⟩ = some y ∧ (v.alloc o).cell? q = some u ∧ Below v.heap.size v (v.alloc o)) : (v.alloc o').cell? ⟨k, 0, none⟩ = some x ∧ (v.alloc o').cell? ⟨k, 1, none⟩ = some y ∧ (v.alloc o').cell? q = some u ∧ Below v.heap.size v (v.alloc o') := keepT4R h (Below.refl _ _) hk hq (Nat.le_refl _)

/-- the rounds of the model's loop -/
def InhRel (p : Rat) (L0 : Led) (zs : List Int) (owner : Int) (k : Nat) (c : Bool) (X : Led) : Prop := (c = true → X = gvTo p L0 zs k ∧ (∀ j, j < k → okH zs owner j = true) ∧ (∀ j, j < k → gvOk p L0 zs j = true) ∧ frB p = true) ∧ (c = false → frB p = false ∨ gvAll p L0 zs = false)

theorem ok_no1 {z : Int} {c d : Bool} (h : z < 1 ∨ 999 < z) : (decide (1 ≤ z) && decide (z ≤ 999) && c && d) = false := by
  rcases h with h | h
  · rw [decide_eq_false (by omega : ¬ 1 ≤ z)]; rfl
  · rw [decide_eq_false (by omega : ¬ z ≤ 999)]; simp
theorem inh_next {p : Rat} {L0 : Led} {zs : List Int} {owner : Int} {k : Nat} {c2 : Bool} (hk : k < zs.length) (h2 : ∀ j, j < k → okH zs owner j = true) (h3 : ∀ j, j < k → gvOk p L0 zs j = true) (h4 : frB p = true) (ho : okH zs owner k = true) (hc : gvOk p L0 zs k = c2) : InhRel p L0 zs owner (k + 1) c2 (setL (gvTo p L0 zs k) (zs.getD k 0) (if c2 then shareL (gvTo p L0 zs k) (zs.getD k 0) + p else 0)) := by
  refine ⟨fun e => ?_, fun e => .inr (rng_no hk (hc.trans e))⟩
  subst e
  exact ⟨by rw [gv_succ p L0 hk]; rfl, rng_more h2 ho, rng_more h3 hc, h4⟩

theorem sinherit (a : Option Addr) (cap : Nat) (hs : List Hd) (owner : Int) (A : Option Addr) (capz : Nat) (zs : List Int) (w : World) (h : IsHs w a hs) (hv : vlR hs = true) (hz : IsInts w A zs) (hzn : zs.length ≤ 1048576) (hzc : zs.length ≤ capz) :
    Calls Try.prog 115 #[.slice a hs.length cap, .int .i64 owner, .slice A zs.length capz] w (MoveV w (inhB hs owner zs) (inhL hs owner zs)) := by
  have hn := led_le hv
  have hVL := (vlR_is hv).2
  have hbd := (frB_iff _).1 (share_frA hVL.fr owner)
  have hdp := den_pos (shareL (ledOf hs) owner)
  have hz0 := num_zero (shareL (ledOf hs) owner)
  have hred := fun h1 => inh_red (hs := hs) owner (zs := zs) h1
  have HI := Lib.hid h
  have HZ := Lib.hid hz
  have HV := Lib.hid hv
  have HVL := Lib.hid hVL
  have HEq := Lib.hid (led_eq hv)
  have CV : ∀ W, IsHs W a hs → Calls Try.prog 107 #[.slice a hs.length cap, .int .i64 owner] W fun e w' => e = .returned (.agg #[.int .i64 (shareL (ledOf hs) owner).num, .int .i64 ((shareL (ledOf hs) owner).den : Int)]) ∧ Below W.heap.size W w' := fun W hW => sshareL a cap (ledOf hs) hs owner W hW (led_eq hv) (by omega)
  clear h hz hv hVL
  obtain ⟨n, hn'⟩ : ∃ n, n = (shareL (ledOf hs) owner).num := ⟨_, rfl⟩
  obtain ⟨d, hd'⟩ : ∃ d, d = ((shareL (ledOf hs) owner).den : Int) := ⟨_, rfl⟩
  rw [← hn', ← hd'] at CV hbd
  rw [← hd'] at hdp
  rw [← hn'] at hz0
  rw [← hn', ← hd'] at hred
  obtain ⟨hb0, hb1, hb2⟩ := hbd
  have HZ0 := Lib.hid hz0
  have HRED := Lib.hid hred
  have HCV := Lib.hid CV
  clear hz0 hred hn' hd' CV
  have hBx : ∀ w1, Below w.heap.size w w1 → Below w.heap.size w (w1.alloc (.cells #[.int .i64 n, .int .i64 d] 58)) := fun w1 hb => hb.alloc hb.size _
  have HBX := Lib.hid hBx
  clear hBx
  by_cases hnz : n = 0
  · have HN : Hid (inhB hs owner zs = false) := inh_no (.inr (.inl (HZ0.out.1 hnz)))
    have e0 : (n == 0) = true := by simpa using hnz
    clear hnz
    go_enter Try.func115, Try.ntmps115
    go_wp2_with fail
    refine (HCV.out _ HI.out).mono ?_
    rintro e w1 ⟨rfl, hb⟩
    go_wp2_with fail
    go_returns
    exact ⟨_, by rw [HN.out]; rfl, (fun _ => rfl), (fun c => by rw [HN.out] at c; cases c), HBX.out _ hb⟩
  · have e0 : (n == 0) = false := by simpa using hnz
    have HNZ : Hid (shareL (ledOf hs) owner ≠ 0) := fun c => hnz (HZ0.out.2 c)
    clear hnz
    by_cases hl0 : zs.length < 1 ∨ 12 < zs.length
    · have HN : Hid (inhB hs owner zs = false) := inh_no (.inr (.inr (.inl (heirs_no1 hl0))))
      by_cases hl1 : zs.length < 1
      · have e1 : ((zs.length : Int) == 0) = true := by rw [beq_iff_eq]; omega
        have e1' : zs.length = 0 := by omega
        clear hl0 hl1
        go_enter Try.func115, Try.ntmps115
        go_wp2_with fail
        refine (HCV.out _ HI.out).mono ?_
        rintro e w1 ⟨rfl, hb⟩
        go_wp2_with fail
        go_returns
        exact ⟨_, by rw [HN.out]; rfl, (fun _ => rfl), (fun c => by rw [HN.out] at c; cases c), HBX.out _ hb⟩
      · have e1 : ((zs.length : Int) == 0) = false := by rw [beq_eq_false_iff_ne]; omega
        have e2 : 12 < zs.length := by omega
        clear hl0
        go_enter Try.func115, Try.ntmps115
        go_wp2_with fail
        refine (HCV.out _ HI.out).mono ?_
        rintro e w1 ⟨rfl, hb⟩
        go_wp2_with fail
        go_returns
        exact ⟨_, by rw [HN.out]; rfl, (fun _ => rfl), (fun c => by rw [HN.out] at c; cases c), HBX.out _ hb⟩
    · have z1 : 1 ≤ zs.length := by omega
      have z2 : zs.length ≤ 12 := by omega
      have e1 : ((zs.length : Int) == 0) = false := by rw [beq_eq_false_iff_ne]; omega
      have e2 : decide (12 < (zs.length : Int)) = false := by simp; omega
      clear hl0
      by_cases hm0 : owner ∈ zs
      · have HN : Hid (inhB hs owner zs = false) := by
          obtain ⟨j, hj, hje⟩ := mem_get.1 hm0
          exact inh_no (.inr (.inr (.inl (heirs_no2 hj (by rw [okH_def, hje]; simp)))))
        have HM0 := Lib.hid hm0
        clear hm0
        go_enter Try.func115, Try.ntmps115
        go_wp2_with fail
        refine (HCV.out _ HI.out).mono ?_
        rintro e w1 ⟨rfl, hb⟩
        have hB1 := HBX.out _ hb
        go_wp2_with fail
        refine (splace A capz zs.length zs owner _ (ints_below HZ.out hB1) rfl (by omega)).mono ?_
        rintro e w' ⟨v, rfl, p1, p2, rfl⟩
        have pv := p1 HM0.out
        have pvd : decide (0 ≤ v) = true := by simpa using pv
        clear p1 p2
        go_wp2_with fail
        go_returns
        exact ⟨_, by rw [HN.out]; rfl, (fun _ => rfl), (fun c => by rw [HN.out] at c; cases c), hB1⟩
      · have HM0 : Hid (owner ∉ zs) := hm0
        clear hm0
        obtain ⟨r1, r2, r3⟩ := HRED.out z1
        have hdm : 1 ≤ d * (zs.length : Int) ∧ d * (zs.length : Int) ≤ 120000 := ⟨Int.mul_pos (by omega) (by omega), Int.le_trans (Int.mul_le_mul hb2 (by omega : (zs.length : Int) ≤ 12) (by omega) (by omega)) (by decide)⟩
        obtain ⟨dm0, dm1⟩ := hdm
        have IR := fun W => sred n (d * (zs.length : Int)) W hb0 (by omega) dm0 (by omega)
        rw [r1, r2, r3] at IR
        have HIR := Lib.hid IR
        obtain ⟨p, hp⟩ : ∃ p, inhQ hs owner zs = p := ⟨_, rfl⟩
        rw [hp] at HIR
        have HPQ := Lib.hid hp
        clear hp r1 r2 r3 IR
        obtain ⟨b, hb⟩ : ∃ b, frB p = b := ⟨_, rfl⟩
        rw [hb] at HIR
        have HBb := Lib.hid hb
        clear hb
        have hlen0 : (rawL (setL (ledOf hs) owner 0)).length ≤ 100 := by
          rw [raw_len]; have := set_len (L := ledOf hs) owner 0; rw [led_len] at this; omega
        have HF0 : Hid (∀ x ∈ setL (ledOf hs) owner 0, frB x.2 = true) := fr_set HVL.out.fr _ frB_zero
        go_enter Try.func115, Try.ntmps115
        go_wp2_with fail
        refine (HCV.out _ HI.out).mono ?_
        rintro e w1 ⟨rfl, hb⟩
        have hB1 := HBX.out _ hb
        clear hb
        go_wp2_with fail
        refine (splace A capz zs.length zs owner _ (ints_below HZ.out hB1) rfl (by omega)).mono ?_
        rintro e w' ⟨v, rfl, p1, p2, rfl⟩
        obtain rfl := p2 HM0.out
        clear p1 p2
        go_wp2_with fail
        refine (HIR.out _).mono ?_
        rintro e w2 ⟨rfl, hb⟩
        have hB2 := bel_tr hB1 hb
        clear hb
        have hB3 := hB2.alloc hB2.size (.cells #[.int .i64 (Wsh.qn b p.num), .int .i64 (Wsh.qn b (p.den : Int))] 58)
        have hK3 := Blk.new w2 58 #[.int .i64 (Wsh.qn b p.num), .int .i64 (Wsh.qn b (p.den : Int))]
        have hGw : w.heap.size ≤ w2.heap.size := hB2.size
        go_wp2_with fail
        refine (sset a cap (ledOf hs) hs owner _ _ 0 _ (hs_below HI.out hB3) HEq.out (by omega) share_no).mono ?_
        rintro e w3 ⟨v0, rfl, hO0, hb⟩
        have hB4 := bel_tr hB3 hb
        have hK4 := hK3.next hb
        have hO4 : OwnH w3 w.heap.size v0 (rawL (setL (ledOf hs) owner 0)) := own_le hO0 hB3.size
        obtain ⟨G, hG⟩ : ∃ G, G = w2.heap.size := ⟨_, rfl⟩
        rw [← hG] at hK4 ⊢
        obtain ⟨L0, hL0⟩ : ∃ L0, L0 = setL (ledOf hs) owner 0 := ⟨_, rfl⟩
        rw [← hL0] at hO4 hlen0 HF0
        have HL0 := Lib.hid hL0
        have hrel0 : InhRel p L0 zs owner 0 b L0 := ⟨fun c => ⟨rfl, (fun j hj => by omega), (fun j hj => by omega), HBb.out.trans c⟩, fun c => .inl (HBb.out.trans c)⟩
        clear hK3 hO0 hb hB3 hB1 hB2 hG hL0 hGw
        go_wp2_with fail
        go_loopw [10, 11, 12] (fun okv outv i wr => ∃ (k : Nat) (c : Bool), k ≤ zs.length ∧ i = .int .i64 k ∧ okv = .bool c ∧ ∃ X : Led, OwnH wr w.heap.size outv (rawL X) ∧ Hid (InhRel p L0 zs owner k c X) ∧ Blk wr G 58 #[.int .i64 (Wsh.qn b p.num), .int .i64 (Wsh.qn b (p.den : Int))] ∧ Below w.heap.size w wr) (fun _ _ i _ => zs.length - (intOf i).toNat)
        case atStart => exact ⟨0, b, Nat.zero_le _, rfl, rfl, L0, hO4, hrel0, hK4, hB4⟩
        case round =>
          clear hrel0 hO4 hK4 hB4
          obtain ⟨k, c, hk, rfl, rfl, X, hO, HR, hS, hB⟩ := hrel
          cases c with
          | false =>
            have HN : Hid (inhB hs owner zs = false) := by
              rcases HR.out.2 rfl with e | e
              · exact inh_no (.inr (.inr (.inr (.inl (by rw [HPQ.out]; exact e)))))
              · exact inh_no (.inr (.inr (.inr (.inr (.inl (by rw [HPQ.out, ← HL0.out]; exact e))))))
            have HB := Lib.hid hB
            clear HR hS hO hB
            go_wp2_with fail
            all_goals
              go_returns
              exact ⟨_, by rw [HN.out]; rfl, (fun _ => rfl), (fun c => by rw [HN.out] at c; cases c), HB.out⟩
          | true =>
            obtain ⟨hX, hok, hgv, hfp⟩ := HR.out.1 rfl
            subst hX
            obtain rfl : b = true := HBb.out.symm.trans hfp
            obtain ⟨b1, cp1, hv1, hI1, hc1⟩ := own_hs2 hO
            subst hv1
            have hS : Blk wr G 58 #[.int .i64 p.num, .int .i64 (p.den : Int)] := hS
            clear HR HIR HRED HCV HBX
            by_cases hlt : k < zs.length
            · have hczx : ∃ g o, A = some ⟨g, o, none⟩ ∧ g < wr.heap.size ∧ wr.cell? ⟨g, o + k, none⟩ = some (.int .i64 (zs.getD k 0)) := by
                rcases HZ.out with he | ⟨g, o, hA, hc⟩
                · rw [he] at hlt; simp at hlt
                · have hlt0 : g < w.heap.size := World.block_lt_of_cell? w _ (hc k hlt)
                  exact ⟨g, o, hA, Nat.lt_of_lt_of_le hlt0 hB.size, (hB.cell (p := ⟨g, o + k, none⟩) hlt0).trans (hc k hlt)⟩
              obtain ⟨gz, oz, rfl, hbz, hcz⟩ := hczx
              have HT : Hid (IsInts wr.drew (some ⟨gz, oz, none⟩) (zs.take k)) := by
                show IsInts _ _ _
                have := ints_below HZ.out (hB.drew)
                rcases this with he | ⟨g, o, hA, hc⟩
                · rw [he] at hlt; simp at hlt
                · exact .inr ⟨g, o, hA, fun j hj => by
                    rw [List.length_take] at hj
                    rw [List.getD_eq_getElem?_getD, List.getElem?_take, if_pos (by omega), ← List.getD_eq_getElem?_getD]
                    exact hc j (by omega)⟩
              have hl1 : (rawL (gvTo p L0 zs k)).length ≤ 1000 := by
                rw [raw_len] at hlen0 ⊢; have := gv_len (p := p) (L := L0) (zs := zs) k hk; omega
              have hfrk := gv_fr HF0.out k hk hgv
              obtain ⟨s4, s5, _, s1⟩ := sub_led2 hfrk (zs.getD k 0) hfp
              obtain ⟨_, s2, s3⟩ := add_led hfrk (zs.getD k 0) hfp
              have hgo : frB (shareL (gvTo p L0 zs k) (zs.getD k 0) + p) = gvOk p L0 zs k := rfl
              rw [hgo] at s1
              have HNx : ∀ c2, gvOk p L0 zs k = c2 → okH zs owner k = true → InhRel p L0 zs owner (k + 1) c2 (setL (gvTo p L0 zs k) (zs.getD k 0) (if c2 then shareL (gvTo p L0 zs k) (zs.getD k 0) + p else 0)) := fun c2 hc ho => inh_next hlt hok hgv hfp ho hc
              obtain ⟨c2, hc2⟩ : ∃ c2, gvOk p L0 zs k = c2 := ⟨_, rfl⟩
              have HNx2 := HNx c2 hc2
              rw [hc2] at s1
              have hnm : zs.getD k 0 ≠ owner := fun e => HM0.out (mem_get.2 ⟨k, hlt, e⟩)
              have hokd := okH_def zs owner k
              have hnoh : okH zs owner k = false → inhB hs owner zs = false := fun e => inh_no (.inr (.inr (.inl (heirs_no2 hlt e))))
              generalize zs.getD k 0 = z at *
              have C4 := Lib.hid s4
              have A5 := Lib.hid s5
              have C1 := Lib.hid s1
              have C2 := Lib.hid s2
              have C3 := Lib.hid s3
              have HI1 := Lib.hid hI1
              have HB := Lib.hid hB
              have HOK := Lib.hid hokd
              have HNH := Lib.hid hnoh
              have HNM := Lib.hid hnm
              have HNX := Lib.hid HNx2
              have HS := Lib.hid hS
              obtain ⟨t0, t1, t2, t3, t4⟩ := blk_two hS
              clear s1 s2 s3 s4 s5 hI1 hokd hnoh hnm HNx HNx2 hgo hc2 hfrk hok hgv hO hS hc1
              have hBd := hB.drew
              have hki : (k : Int) < (zs.length : Int) := by omega
              have hkc : k ≤ capz := by omega
              by_cases hr : z < 1 ∨ 999 < z
              · have HN : Hid (inhB hs owner zs = false) := HNH.out (by rw [HOK.out]; exact ok_no1 hr)
                clear hB
                go_wp2_with fail
                refine wp_region_held_drew (S := fun w' => w'.cell? ⟨gz, oz + k, none⟩ = some (.int .i64 z) ∧ Below w.heap.size w w') (by kernel_rfl) ?_ (fun hHeld => ?_)
                · exact ⟨hcz, hBd⟩
                refine wpAnyH_take (i := 0) (oi := ?ooa0) (v := ?vva0) ?hia0 (by kernel_rfl) ?h3a0 ?h4a0 ?h5a0 ?h6a0 (by assumption) ?h8a0
                case hia0 => (simp only [List.getElem?_toArray, List.getElem?_cons_succ, List.getElem?_cons_zero]; rfl)
                case h3a0 => kernel_rfl
                case h4a0 => kernel_rfl
                case h6a0 => (refine Or.inl ⟨by rfl, ?_⟩; intro w hSw; (try dsimp only at hSw); (go_simp <;> with_reducible rfl))
                case h5a0 => exact fun _ _ _ h => h
                try simp only [Act.put, List.setIfInBounds_toArray, List.set_cons_zero, List.set_cons_succ]
                refine wpAnyH_take (i := 1) (oi := ?ooa1) (v := ?vva1) ?hia1 (by kernel_rfl) ?h3a1 ?h4a1 ?h5a1 ?h6a1 (by assumption) ?h8a1
                case hia1 => (simp only [List.getElem?_toArray, List.getElem?_cons_succ, List.getElem?_cons_zero]; rfl)
                case h3a1 => kernel_rfl
                case h4a1 => kernel_rfl
                case h6a1 => (refine Or.inl ⟨by rfl, ?_⟩; intro w hSw; (try dsimp only at hSw); (go_simp <;> with_reducible rfl))
                case h5a1 => exact fun _ _ _ h => h
                try simp only [Act.put, List.setIfInBounds_toArray, List.set_cons_zero, List.set_cons_succ]
                refine wpAnyH_take (i := 2) (oi := ?ooa2) (v := ?vva2) ?hia2 (by kernel_rfl) ?h3a2 ?h4a2 ?h5a2 ?h6a2 (by assumption) ?h8a2
                case hia2 => (simp only [List.getElem?_toArray, List.getElem?_cons_succ, List.getElem?_cons_zero]; rfl)
                case h3a2 => kernel_rfl
                case h4a2 => kernel_rfl
                case h6a2 => (refine Or.inl ⟨by rfl, ?_⟩; intro w hSw; (try dsimp only at hSw); (go_simp <;> with_reducible rfl))
                case h5a2 => exact fun _ _ _ h => h
                try simp only [Act.put, List.setIfInBounds_toArray, List.set_cons_zero, List.set_cons_succ]
                refine wpAnyH_take (i := 3) (oi := ?ooa3) (v := ?vva3) ?hia3 (by kernel_rfl) ?h3a3 ?h4a3 ?h5a3 ?h6a3 (by assumption) ?h8a3
                case hia3 => (simp only [List.getElem?_toArray, List.getElem?_cons_succ, List.getElem?_cons_zero]; rfl)
                case h3a3 => kernel_rfl
                case h4a3 => kernel_rfl
                case h6a3 => (refine Or.inl ⟨by rfl, ?_⟩; intro w hSw; (try dsimp only at hSw); (go_simp <;> with_reducible rfl))
                case h5a3 => exact fun _ _ _ h => h
                try simp only [Act.put, List.setIfInBounds_toArray, List.set_cons_zero, List.set_cons_succ]
                refine wpAnyH_ready (rs := [4]) (by kernel_rfl) (by simp) (AllReadyH.cons (o := ?ooa4) ?hia4 (fun K hK => ?hka4) AllReadyH.nil)
                rotate_left
                case hia4 => (simp only [List.getElem?_toArray, List.getElem?_cons_succ, List.getElem?_cons_zero]; rfl)
                (rw [if_pos (by rfl)]; go_simp; refine (inRange_no z 1 999 _ hr).mono ?_; rintro e w3 ⟨rfl, rfl⟩; go_wp2_with fail; refine hK.out _ _ (by assumption) (fun hHeld => ?_); clear hK K)
                try simp only [Act.put, List.setIfInBounds_toArray, List.set_cons_zero, List.set_cons_succ]
                refine wpAnyH_take (i := 5) (oi := ?ooa5) (v := ?vva5) ?hia5 (by kernel_rfl) ?h3a5 ?h4a5 ?h5a5 ?h6a5 (by assumption) ?h8a5
                case hia5 => (simp only [List.getElem?_toArray, List.getElem?_cons_succ, List.getElem?_cons_zero]; rfl)
                case h3a5 => kernel_rfl
                case h4a5 => kernel_rfl
                case h6a5 => (refine Or.inl ⟨by rfl, ?_⟩; intro w hSw; (try dsimp only at hSw); (go_simp <;> with_reducible rfl))
                case h5a5 => exact fun _ _ _ h => h
                try simp only [Act.put, List.setIfInBounds_toArray, List.set_cons_zero, List.set_cons_succ]
                refine wpAnyH_take (i := 6) (oi := ?ooa6) (v := ?vva6) ?hia6 (by kernel_rfl) ?h3a6 ?h4a6 ?h5a6 ?h6a6 (by assumption) ?h8a6
                case hia6 => (simp only [List.getElem?_toArray, List.getElem?_cons_succ, List.getElem?_cons_zero]; rfl)
                case h3a6 => kernel_rfl
                case h4a6 => kernel_rfl
                case h6a6 => (refine Or.inl ⟨by rfl, ?_⟩; intro w hSw; (try dsimp only at hSw); (go_simp <;> with_reducible rfl))
                case h5a6 => exact fun _ _ _ h => h
                try simp only [Act.put, List.setIfInBounds_toArray, List.set_cons_zero, List.set_cons_succ]
                refine wpAnyH_take (i := 7) (oi := ?ooa7) (v := undef) ?hia7 (by kernel_rfl) ?h3a7 ?h4a7 ?h5a7 ?h6a7 (by assumption) ?h8a7
                case hia7 => (simp only [List.getElem?_toArray, List.getElem?_cons_succ, List.getElem?_cons_zero]; rfl)
                case h3a7 => kernel_rfl
                case h4a7 => kernel_rfl
                case h6a7 => exact Or.inr ⟨by rfl, rfl⟩
                case h5a7 => exact fun _ _ _ h => h
                try simp only [Act.put, List.setIfInBounds_toArray, List.set_cons_zero, List.set_cons_succ]
                refine wpAnyH_take (i := 8) (oi := ?ooa8) (v := undef) ?hia8 (by kernel_rfl) ?h3a8 ?h4a8 ?h5a8 ?h6a8 (by assumption) ?h8a8
                case hia8 => (simp only [List.getElem?_toArray, List.getElem?_cons_succ, List.getElem?_cons_zero]; rfl)
                case h3a8 => kernel_rfl
                case h4a8 => kernel_rfl
                case h6a8 => exact Or.inr ⟨by rfl, rfl⟩
                case h5a8 => exact fun _ _ _ h => h
                try simp only [Act.put, List.setIfInBounds_toArray, List.set_cons_zero, List.set_cons_succ]
                refine wpAnyH_take (i := 9) (oi := ?ooa9) (v := undef) ?hia9 (by kernel_rfl) ?h3a9 ?h4a9 ?h5a9 ?h6a9 (by assumption) ?h8a9
                case hia9 => (simp only [List.getElem?_toArray, List.getElem?_cons_succ, List.getElem?_cons_zero]; rfl)
                case h3a9 => kernel_rfl
                case h4a9 => kernel_rfl
                case h6a9 => exact Or.inr ⟨by rfl, rfl⟩
                case h5a9 => exact fun _ _ _ h => h
                try simp only [Act.put, List.setIfInBounds_toArray, List.set_cons_zero, List.set_cons_succ]
                refine wpAnyH_take (i := 10) (oi := ?ooa10) (v := undef) ?hia10 (by kernel_rfl) ?h3a10 ?h4a10 ?h5a10 ?h6a10 (by assumption) ?h8a10
                case hia10 => (simp only [List.getElem?_toArray, List.getElem?_cons_succ, List.getElem?_cons_zero]; rfl)
                case h3a10 => kernel_rfl
                case h4a10 => kernel_rfl
                case h6a10 => exact Or.inr ⟨by rfl, rfl⟩
                case h5a10 => exact fun _ _ _ h => h
                try simp only [Act.put, List.setIfInBounds_toArray, List.set_cons_zero, List.set_cons_succ]
                refine wpAnyH_take (i := 11) (oi := ?ooa11) (v := undef) ?hia11 (by kernel_rfl) ?h3a11 ?h4a11 ?h5a11 ?h6a11 (by assumption) ?h8a11
                case hia11 => (simp only [List.getElem?_toArray, List.getElem?_cons_succ, List.getElem?_cons_zero]; rfl)
                case h3a11 => kernel_rfl
                case h4a11 => kernel_rfl
                case h6a11 => exact Or.inr ⟨by rfl, rfl⟩
                case h5a11 => exact fun _ _ _ h => h
                try simp only [Act.put, List.setIfInBounds_toArray, List.set_cons_zero, List.set_cons_succ]
                refine wpAnyH_take (i := 12) (oi := ?ooa12) (v := undef) ?hia12 (by kernel_rfl) ?h3a12 ?h4a12 ?h5a12 ?h6a12 (by assumption) ?h8a12
                case hia12 => (simp only [List.getElem?_toArray, List.getElem?_cons_succ, List.getElem?_cons_zero]; rfl)
                case h3a12 => kernel_rfl
                case h4a12 => kernel_rfl
                case h6a12 => exact Or.inr ⟨by rfl, rfl⟩
                case h5a12 => exact fun _ _ _ h => h
                try simp only [Act.put, List.setIfInBounds_toArray, List.set_cons_zero, List.set_cons_succ]
                refine wpAnyH_take (i := 13) (oi := ?ooa13) (v := undef) ?hia13 (by kernel_rfl) ?h3a13 ?h4a13 ?h5a13 ?h6a13 (by assumption) ?h8a13
                case hia13 => (simp only [List.getElem?_toArray, List.getElem?_cons_succ, List.getElem?_cons_zero]; rfl)
                case h3a13 => kernel_rfl
                case h4a13 => kernel_rfl
                case h6a13 => exact Or.inr ⟨by rfl, rfl⟩
                case h5a13 => exact fun _ _ _ h => h
                try simp only [Act.put, List.setIfInBounds_toArray, List.set_cons_zero, List.set_cons_succ]
                refine wpAnyH_take (i := 14) (oi := ?ooa14) (v := undef) ?hia14 (by kernel_rfl) ?h3a14 ?h4a14 ?h5a14 ?h6a14 (by assumption) ?h8a14
                case hia14 => (simp only [List.getElem?_toArray, List.getElem?_cons_succ, List.getElem?_cons_zero]; rfl)
                case h3a14 => kernel_rfl
                case h4a14 => kernel_rfl
                case h6a14 => exact Or.inr ⟨by rfl, rfl⟩
                case h5a14 => exact fun _ _ _ h => h
                try simp only [Act.put, List.setIfInBounds_toArray, List.set_cons_zero, List.set_cons_succ]
                refine wpAnyH_take (i := 15) (oi := ?ooa15) (v := undef) ?hia15 (by kernel_rfl) ?h3a15 ?h4a15 ?h5a15 ?h6a15 (by assumption) ?h8a15
                case hia15 => (simp only [List.getElem?_toArray, List.getElem?_cons_succ, List.getElem?_cons_zero]; rfl)
                case h3a15 => kernel_rfl
                case h4a15 => kernel_rfl
                case h6a15 => exact Or.inr ⟨by rfl, rfl⟩
                case h5a15 => exact fun _ _ _ h => h
                try simp only [Act.put, List.setIfInBounds_toArray, List.set_cons_zero, List.set_cons_succ]
                refine wpAnyH_take (i := 16) (oi := ?ooa16) (v := ?vva16) ?hia16 (by kernel_rfl) ?h3a16 ?h4a16 ?h5a16 ?h6a16 (by assumption) ?h8a16
                case hia16 => (simp only [List.getElem?_toArray, List.getElem?_cons_succ, List.getElem?_cons_zero]; rfl)
                case h3a16 => kernel_rfl
                case h4a16 => kernel_rfl
                case h6a16 => (refine Or.inl ⟨by rfl, ?_⟩; intro w hSw; (try dsimp only at hSw); (go_simp <;> with_reducible rfl))
                case h5a16 => exact fun _ _ _ h => h
                try simp only [Act.put, List.setIfInBounds_toArray, List.set_cons_zero, List.set_cons_succ]
                refine wpAnyH_done (by kernel_rfl) ?_ _

                go_wp2_with fail
                go_returns
                exact ⟨_, by rw [HN.out]; rfl, (fun _ => rfl), (fun c => by rw [HN.out] at c; cases c), hBd⟩
              · have r1 : 1 ≤ z := by omega
                have r2 : z ≤ 999 := by omega
                clear hr
                by_cases hm : z ∈ zs.take k
                · have HN : Hid (inhB hs owner zs = false) := HNH.out (by rw [HOK.out, decide_eq_false (not_not_intro hm)]; simp)
                  clear hB
                  go_wp2_with fail
                  refine wp_region_held_drew (S := fun w' => w'.cell? ⟨gz, oz + k, none⟩ = some (.int .i64 z) ∧ Below w.heap.size w w') (by kernel_rfl) ?_ (fun hHeld => ?_)
                  · exact ⟨hcz, hBd⟩
                  refine wpAnyH_take (i := 0) (oi := ?oob0) (v := ?vvb0) ?hib0 (by kernel_rfl) ?h3b0 ?h4b0 ?h5b0 ?h6b0 (by assumption) ?h8b0
                  case hib0 => (simp only [List.getElem?_toArray, List.getElem?_cons_succ, List.getElem?_cons_zero]; rfl)
                  case h3b0 => kernel_rfl
                  case h4b0 => kernel_rfl
                  case h6b0 => (refine Or.inl ⟨by rfl, ?_⟩; intro w hSw; (try dsimp only at hSw); (go_simp <;> with_reducible rfl))
                  case h5b0 => exact fun _ _ _ h => h
                  try simp only [Act.put, List.setIfInBounds_toArray, List.set_cons_zero, List.set_cons_succ]
                  refine wpAnyH_take (i := 1) (oi := ?oob1) (v := ?vvb1) ?hib1 (by kernel_rfl) ?h3b1 ?h4b1 ?h5b1 ?h6b1 (by assumption) ?h8b1
                  case hib1 => (simp only [List.getElem?_toArray, List.getElem?_cons_succ, List.getElem?_cons_zero]; rfl)
                  case h3b1 => kernel_rfl
                  case h4b1 => kernel_rfl
                  case h6b1 => (refine Or.inl ⟨by rfl, ?_⟩; intro w hSw; (try dsimp only at hSw); (go_simp <;> with_reducible rfl))
                  case h5b1 => exact fun _ _ _ h => h
                  try simp only [Act.put, List.setIfInBounds_toArray, List.set_cons_zero, List.set_cons_succ]
                  refine wpAnyH_take (i := 2) (oi := ?oob2) (v := ?vvb2) ?hib2 (by kernel_rfl) ?h3b2 ?h4b2 ?h5b2 ?h6b2 (by assumption) ?h8b2
                  case hib2 => (simp only [List.getElem?_toArray, List.getElem?_cons_succ, List.getElem?_cons_zero]; rfl)
                  case h3b2 => kernel_rfl
                  case h4b2 => kernel_rfl
                  case h6b2 => (refine Or.inl ⟨by rfl, ?_⟩; intro w hSw; (try dsimp only at hSw); (go_simp <;> with_reducible rfl))
                  case h5b2 => exact fun _ _ _ h => h
                  try simp only [Act.put, List.setIfInBounds_toArray, List.set_cons_zero, List.set_cons_succ]
                  refine wpAnyH_take (i := 3) (oi := ?oob3) (v := ?vvb3) ?hib3 (by kernel_rfl) ?h3b3 ?h4b3 ?h5b3 ?h6b3 (by assumption) ?h8b3
                  case hib3 => (simp only [List.getElem?_toArray, List.getElem?_cons_succ, List.getElem?_cons_zero]; rfl)
                  case h3b3 => kernel_rfl
                  case h4b3 => kernel_rfl
                  case h6b3 => (refine Or.inl ⟨by rfl, ?_⟩; intro w hSw; (try dsimp only at hSw); (go_simp <;> with_reducible rfl))
                  case h5b3 => exact fun _ _ _ h => h
                  try simp only [Act.put, List.setIfInBounds_toArray, List.set_cons_zero, List.set_cons_succ]
                  refine wpAnyH_ready (rs := [4]) (by kernel_rfl) (by simp) (AllReadyH.cons (o := ?oob4) ?hib4 (fun K hK => ?hkb4) AllReadyH.nil)
                  rotate_left
                  case hib4 => (simp only [List.getElem?_toArray, List.getElem?_cons_succ, List.getElem?_cons_zero]; rfl)
                  (rw [if_pos (by rfl)]; go_simp; refine (inRange_yes z 1 999 _ r1 r2).mono ?_; rintro e w3 ⟨rfl, rfl⟩; go_wp2_with fail; refine hK.out _ _ (by assumption) (fun hHeld => ?_); clear hK K)
                  try simp only [Act.put, List.setIfInBounds_toArray, List.set_cons_zero, List.set_cons_succ]
                  refine wpAnyH_take (i := 5) (oi := ?oob5) (v := ?vvb5) ?hib5 (by kernel_rfl) ?h3b5 ?h4b5 ?h5b5 ?h6b5 (by assumption) ?h8b5
                  case hib5 => (simp only [List.getElem?_toArray, List.getElem?_cons_succ, List.getElem?_cons_zero]; rfl)
                  case h3b5 => kernel_rfl
                  case h4b5 => kernel_rfl
                  case h6b5 => (refine Or.inl ⟨by rfl, ?_⟩; intro w hSw; (try dsimp only at hSw); (go_simp <;> with_reducible rfl))
                  case h5b5 => exact fun _ _ _ h => h
                  try simp only [Act.put, List.setIfInBounds_toArray, List.set_cons_zero, List.set_cons_succ]
                  refine wpAnyH_take (i := 6) (oi := ?oob6) (v := ?vvb6) ?hib6 (by kernel_rfl) ?h3b6 ?h4b6 ?h5b6 ?h6b6 (by assumption) ?h8b6
                  case hib6 => (simp only [List.getElem?_toArray, List.getElem?_cons_succ, List.getElem?_cons_zero]; rfl)
                  case h3b6 => kernel_rfl
                  case h4b6 => kernel_rfl
                  case h6b6 => (refine Or.inl ⟨by rfl, ?_⟩; intro w hSw; (try dsimp only at hSw); (go_simp <;> with_reducible rfl))
                  case h5b6 => exact fun _ _ _ h => h
                  try simp only [Act.put, List.setIfInBounds_toArray, List.set_cons_zero, List.set_cons_succ]
                  refine wpAnyH_take (i := 7) (oi := ?oob7) (v := ?vvb7) ?hib7 (by kernel_rfl) ?h3b7 ?h4b7 ?h5b7 ?h6b7 (by assumption) ?h8b7
                  case hib7 => (simp only [List.getElem?_toArray, List.getElem?_cons_succ, List.getElem?_cons_zero]; rfl)
                  case h3b7 => kernel_rfl
                  case h4b7 => kernel_rfl
                  case h6b7 => (refine Or.inl ⟨by rfl, ?_⟩; intro w hSw; (try dsimp only at hSw); (go_simp <;> with_reducible rfl))
                  case h5b7 => exact fun _ _ _ h => h
                  try simp only [Act.put, List.setIfInBounds_toArray, List.set_cons_zero, List.set_cons_succ]
                  refine wpAnyH_take (i := 8) (oi := ?oob8) (v := ?vvb8) ?hib8 (by kernel_rfl) ?h3b8 ?h4b8 ?h5b8 ?h6b8 (by assumption) ?h8b8
                  case hib8 => (simp only [List.getElem?_toArray, List.getElem?_cons_succ, List.getElem?_cons_zero]; rfl)
                  case h3b8 => kernel_rfl
                  case h4b8 => kernel_rfl
                  case h6b8 => (refine Or.inl ⟨by rfl, ?_⟩; intro w hSw; (try dsimp only at hSw); (go_simp <;> with_reducible rfl))
                  case h5b8 => exact fun _ _ _ h => h
                  try simp only [Act.put, List.setIfInBounds_toArray, List.set_cons_zero, List.set_cons_succ]
                  refine wpAnyH_take (i := 9) (oi := ?oob9) (v := ?vvb9) ?hib9 (by kernel_rfl) ?h3b9 ?h4b9 ?h5b9 ?h6b9 (by assumption) ?h8b9
                  case hib9 => (simp only [List.getElem?_toArray, List.getElem?_cons_succ, List.getElem?_cons_zero]; rfl)
                  case h3b9 => kernel_rfl
                  case h4b9 => kernel_rfl
                  case h6b9 => (refine Or.inl ⟨by rfl, ?_⟩; intro w hSw; (try dsimp only at hSw); (go_simp <;> with_reducible rfl))
                  case h5b9 => exact fun _ _ _ h => h
                  try simp only [Act.put, List.setIfInBounds_toArray, List.set_cons_zero, List.set_cons_succ]
                  refine wpAnyH_take (i := 10) (oi := ?oob10) (v := ?vvb10) ?hib10 (by kernel_rfl) ?h3b10 ?h4b10 ?h5b10 ?h6b10 (by assumption) ?h8b10
                  case hib10 => (simp only [List.getElem?_toArray, List.getElem?_cons_succ, List.getElem?_cons_zero]; rfl)
                  case h3b10 => kernel_rfl
                  case h4b10 => kernel_rfl
                  case h6b10 => (refine Or.inl ⟨by rfl, ?_⟩; intro w hSw; (try dsimp only at hSw); (go_simp <;> with_reducible rfl))
                  case h5b10 => exact fun _ _ _ h => h
                  try simp only [Act.put, List.setIfInBounds_toArray, List.set_cons_zero, List.set_cons_succ]
                  refine wpAnyH_take (i := 11) (oi := ?oob11) (v := ?vvb11) ?hib11 (by kernel_rfl) ?h3b11 ?h4b11 ?h5b11 ?h6b11 (by assumption) ?h8b11
                  case hib11 => (simp only [List.getElem?_toArray, List.getElem?_cons_succ, List.getElem?_cons_zero]; rfl)
                  case h3b11 => kernel_rfl
                  case h4b11 => kernel_rfl
                  case h6b11 => (refine Or.inl ⟨by rfl, ?_⟩; intro w hSw; (try dsimp only at hSw); (go_simp <;> with_reducible rfl))
                  case h5b11 => exact fun _ _ _ h => h
                  try simp only [Act.put, List.setIfInBounds_toArray, List.set_cons_zero, List.set_cons_succ]
                  refine wpAnyH_take (i := 12) (oi := ?oob12) (v := ?vvb12) ?hib12 (by kernel_rfl) ?h3b12 ?h4b12 ?h5b12 ?h6b12 (by assumption) ?h8b12
                  case hib12 => (simp only [List.getElem?_toArray, List.getElem?_cons_succ, List.getElem?_cons_zero]; rfl)
                  case h3b12 => kernel_rfl
                  case h4b12 => kernel_rfl
                  case h6b12 => (refine Or.inl ⟨by rfl, ?_⟩; intro w hSw; (try dsimp only at hSw); (go_simp <;> with_reducible rfl))
                  case h5b12 => exact fun _ _ _ h => h
                  try simp only [Act.put, List.setIfInBounds_toArray, List.set_cons_zero, List.set_cons_succ]
                  refine wpAnyH_take (i := 13) (oi := ?oob13) (v := ?vvb13) ?hib13 (by kernel_rfl) ?h3b13 ?h4b13 ?h5b13 ?h6b13 (by assumption) ?h8b13
                  case hib13 => (simp only [List.getElem?_toArray, List.getElem?_cons_succ, List.getElem?_cons_zero]; rfl)
                  case h3b13 => kernel_rfl
                  case h4b13 => kernel_rfl
                  case h6b13 => (refine Or.inl ⟨by rfl, ?_⟩; intro w hSw; (try dsimp only at hSw); (go_simp <;> with_reducible rfl))
                  case h5b13 => exact fun _ _ _ h => h
                  try simp only [Act.put, List.setIfInBounds_toArray, List.set_cons_zero, List.set_cons_succ]
                  refine wpAnyH_ready (rs := [14]) (by kernel_rfl) (by simp) (AllReadyH.cons (o := ?oob14) ?hib14 (fun K hK => ?hkb14) AllReadyH.nil)
                  rotate_left
                  case hib14 => (simp only [List.getElem?_toArray, List.getElem?_cons_succ, List.getElem?_cons_zero]; rfl)
                  (rw [if_pos (by rfl)]; go_simp; refine (splace _ _ k (zs.take k) z _ HT.out (by rw [List.length_take]; omega) (by omega)).mono ?_; rintro e w3 ⟨v, rfl, p1, p2, rfl⟩; have pv := p1 hm; have pvd : decide (0 ≤ v) = true := (by simpa using pv); clear p1 p2; go_wp2_with fail; refine hK.out _ _ (by assumption) (fun hHeld => ?_); clear hK K)
                  try simp only [Act.put, List.setIfInBounds_toArray, List.set_cons_zero, List.set_cons_succ]
                  refine wpAnyH_take (i := 15) (oi := ?oob15) (v := ?vvb15) ?hib15 (by kernel_rfl) ?h3b15 ?h4b15 ?h5b15 ?h6b15 (by assumption) ?h8b15
                  case hib15 => (simp only [List.getElem?_toArray, List.getElem?_cons_succ, List.getElem?_cons_zero]; rfl)
                  case h3b15 => kernel_rfl
                  case h4b15 => kernel_rfl
                  case h6b15 => (refine Or.inl ⟨by rfl, ?_⟩; intro w hSw; (try dsimp only at hSw); (go_simp <;> with_reducible rfl))
                  case h5b15 => exact fun _ _ _ h => h
                  try simp only [Act.put, List.setIfInBounds_toArray, List.set_cons_zero, List.set_cons_succ]
                  refine wpAnyH_take (i := 16) (oi := ?oob16) (v := ?vvb16) ?hib16 (by kernel_rfl) ?h3b16 ?h4b16 ?h5b16 ?h6b16 (by assumption) ?h8b16
                  case hib16 => (simp only [List.getElem?_toArray, List.getElem?_cons_succ, List.getElem?_cons_zero]; rfl)
                  case h3b16 => kernel_rfl
                  case h4b16 => kernel_rfl
                  case h6b16 => (refine Or.inl ⟨by rfl, ?_⟩; intro w hSw; (try dsimp only at hSw); (go_simp <;> with_reducible rfl))
                  case h5b16 => exact fun _ _ _ h => h
                  try simp only [Act.put, List.setIfInBounds_toArray, List.set_cons_zero, List.set_cons_succ]
                  refine wpAnyH_done (by kernel_rfl) ?_ _

                  go_wp2_with fail
                  go_returns
                  exact ⟨_, by rw [HN.out]; rfl, (fun _ => rfl), (fun c => by rw [HN.out] at c; cases c), hBd⟩
                · have HRel : Hid (InhRel p L0 zs owner (k + 1) c2 (setL (gvTo p L0 zs k) z (if c2 then shareL (gvTo p L0 zs k) z + p else 0))) := HNX.out (by rw [HOK.out, decide_eq_true r1, decide_eq_true r2, decide_eq_true HNM.out, decide_eq_true hm]; rfl)
                  clear hB
                  go_wp2_with fail
                  refine wp_region_held_drew (S := fun w' => w'.cell? ⟨gz, oz + k, none⟩ = some (.int .i64 z) ∧ Below w.heap.size w w') (by kernel_rfl) ?_ (fun hHeld => ?_)
                  · exact ⟨hcz, hBd⟩
                  refine wpAnyH_take (i := 0) (oi := ?ooc0) (v := ?vvc0) ?hic0 (by kernel_rfl) ?h3c0 ?h4c0 ?h5c0 ?h6c0 (by assumption) ?h8c0
                  case hic0 => (simp only [List.getElem?_toArray, List.getElem?_cons_succ, List.getElem?_cons_zero]; rfl)
                  case h3c0 => kernel_rfl
                  case h4c0 => kernel_rfl
                  case h6c0 => (refine Or.inl ⟨by rfl, ?_⟩; intro w hSw; (try dsimp only at hSw); (go_simp <;> with_reducible rfl))
                  case h5c0 => exact fun _ _ _ h => h
                  try simp only [Act.put, List.setIfInBounds_toArray, List.set_cons_zero, List.set_cons_succ]
                  refine wpAnyH_take (i := 1) (oi := ?ooc1) (v := ?vvc1) ?hic1 (by kernel_rfl) ?h3c1 ?h4c1 ?h5c1 ?h6c1 (by assumption) ?h8c1
                  case hic1 => (simp only [List.getElem?_toArray, List.getElem?_cons_succ, List.getElem?_cons_zero]; rfl)
                  case h3c1 => kernel_rfl
                  case h4c1 => kernel_rfl
                  case h6c1 => (refine Or.inl ⟨by rfl, ?_⟩; intro w hSw; (try dsimp only at hSw); (go_simp <;> with_reducible rfl))
                  case h5c1 => exact fun _ _ _ h => h
                  try simp only [Act.put, List.setIfInBounds_toArray, List.set_cons_zero, List.set_cons_succ]
                  refine wpAnyH_take (i := 2) (oi := ?ooc2) (v := ?vvc2) ?hic2 (by kernel_rfl) ?h3c2 ?h4c2 ?h5c2 ?h6c2 (by assumption) ?h8c2
                  case hic2 => (simp only [List.getElem?_toArray, List.getElem?_cons_succ, List.getElem?_cons_zero]; rfl)
                  case h3c2 => kernel_rfl
                  case h4c2 => kernel_rfl
                  case h6c2 => (refine Or.inl ⟨by rfl, ?_⟩; intro w hSw; (try dsimp only at hSw); (go_simp <;> with_reducible rfl))
                  case h5c2 => exact fun _ _ _ h => h
                  try simp only [Act.put, List.setIfInBounds_toArray, List.set_cons_zero, List.set_cons_succ]
                  refine wpAnyH_take (i := 3) (oi := ?ooc3) (v := ?vvc3) ?hic3 (by kernel_rfl) ?h3c3 ?h4c3 ?h5c3 ?h6c3 (by assumption) ?h8c3
                  case hic3 => (simp only [List.getElem?_toArray, List.getElem?_cons_succ, List.getElem?_cons_zero]; rfl)
                  case h3c3 => kernel_rfl
                  case h4c3 => kernel_rfl
                  case h6c3 => (refine Or.inl ⟨by rfl, ?_⟩; intro w hSw; (try dsimp only at hSw); (go_simp <;> with_reducible rfl))
                  case h5c3 => exact fun _ _ _ h => h
                  try simp only [Act.put, List.setIfInBounds_toArray, List.set_cons_zero, List.set_cons_succ]
                  refine wpAnyH_ready (rs := [4]) (by kernel_rfl) (by simp) (AllReadyH.cons (o := ?ooc4) ?hic4 (fun K hK => ?hkc4) AllReadyH.nil)
                  rotate_left
                  case hic4 => (simp only [List.getElem?_toArray, List.getElem?_cons_succ, List.getElem?_cons_zero]; rfl)
                  (rw [if_pos (by rfl)]; go_simp; refine (inRange_yes z 1 999 _ r1 r2).mono ?_; rintro e w3 ⟨rfl, rfl⟩; go_wp2_with fail; refine hK.out _ _ (by assumption) (fun hHeld => ?_); clear hK K)
                  try simp only [Act.put, List.setIfInBounds_toArray, List.set_cons_zero, List.set_cons_succ]
                  refine wpAnyH_take (i := 5) (oi := ?ooc5) (v := ?vvc5) ?hic5 (by kernel_rfl) ?h3c5 ?h4c5 ?h5c5 ?h6c5 (by assumption) ?h8c5
                  case hic5 => (simp only [List.getElem?_toArray, List.getElem?_cons_succ, List.getElem?_cons_zero]; rfl)
                  case h3c5 => kernel_rfl
                  case h4c5 => kernel_rfl
                  case h6c5 => (refine Or.inl ⟨by rfl, ?_⟩; intro w hSw; (try dsimp only at hSw); (go_simp <;> with_reducible rfl))
                  case h5c5 => exact fun _ _ _ h => h
                  try simp only [Act.put, List.setIfInBounds_toArray, List.set_cons_zero, List.set_cons_succ]
                  refine wpAnyH_take (i := 6) (oi := ?ooc6) (v := ?vvc6) ?hic6 (by kernel_rfl) ?h3c6 ?h4c6 ?h5c6 ?h6c6 (by assumption) ?h8c6
                  case hic6 => (simp only [List.getElem?_toArray, List.getElem?_cons_succ, List.getElem?_cons_zero]; rfl)
                  case h3c6 => kernel_rfl
                  case h4c6 => kernel_rfl
                  case h6c6 => (refine Or.inl ⟨by rfl, ?_⟩; intro w hSw; (try dsimp only at hSw); (go_simp <;> with_reducible rfl))
                  case h5c6 => exact fun _ _ _ h => h
                  try simp only [Act.put, List.setIfInBounds_toArray, List.set_cons_zero, List.set_cons_succ]
                  refine wpAnyH_take (i := 7) (oi := ?ooc7) (v := ?vvc7) ?hic7 (by kernel_rfl) ?h3c7 ?h4c7 ?h5c7 ?h6c7 (by assumption) ?h8c7
                  case hic7 => (simp only [List.getElem?_toArray, List.getElem?_cons_succ, List.getElem?_cons_zero]; rfl)
                  case h3c7 => kernel_rfl
                  case h4c7 => kernel_rfl
                  case h6c7 => (refine Or.inl ⟨by rfl, ?_⟩; intro w hSw; (try dsimp only at hSw); (go_simp <;> with_reducible rfl))
                  case h5c7 => exact fun _ _ _ h => h
                  try simp only [Act.put, List.setIfInBounds_toArray, List.set_cons_zero, List.set_cons_succ]
                  refine wpAnyH_take (i := 8) (oi := ?ooc8) (v := ?vvc8) ?hic8 (by kernel_rfl) ?h3c8 ?h4c8 ?h5c8 ?h6c8 (by assumption) ?h8c8
                  case hic8 => (simp only [List.getElem?_toArray, List.getElem?_cons_succ, List.getElem?_cons_zero]; rfl)
                  case h3c8 => kernel_rfl
                  case h4c8 => kernel_rfl
                  case h6c8 => (refine Or.inl ⟨by rfl, ?_⟩; intro w hSw; (try dsimp only at hSw); (go_simp <;> with_reducible rfl))
                  case h5c8 => exact fun _ _ _ h => h
                  try simp only [Act.put, List.setIfInBounds_toArray, List.set_cons_zero, List.set_cons_succ]
                  refine wpAnyH_take (i := 9) (oi := ?ooc9) (v := ?vvc9) ?hic9 (by kernel_rfl) ?h3c9 ?h4c9 ?h5c9 ?h6c9 (by assumption) ?h8c9
                  case hic9 => (simp only [List.getElem?_toArray, List.getElem?_cons_succ, List.getElem?_cons_zero]; rfl)
                  case h3c9 => kernel_rfl
                  case h4c9 => kernel_rfl
                  case h6c9 => (refine Or.inl ⟨by rfl, ?_⟩; intro w hSw; (try dsimp only at hSw); (go_simp <;> with_reducible rfl))
                  case h5c9 => exact fun _ _ _ h => h
                  try simp only [Act.put, List.setIfInBounds_toArray, List.set_cons_zero, List.set_cons_succ]
                  refine wpAnyH_take (i := 10) (oi := ?ooc10) (v := ?vvc10) ?hic10 (by kernel_rfl) ?h3c10 ?h4c10 ?h5c10 ?h6c10 (by assumption) ?h8c10
                  case hic10 => (simp only [List.getElem?_toArray, List.getElem?_cons_succ, List.getElem?_cons_zero]; rfl)
                  case h3c10 => kernel_rfl
                  case h4c10 => kernel_rfl
                  case h6c10 => (refine Or.inl ⟨by rfl, ?_⟩; intro w hSw; (try dsimp only at hSw); (go_simp <;> with_reducible rfl))
                  case h5c10 => exact fun _ _ _ h => h
                  try simp only [Act.put, List.setIfInBounds_toArray, List.set_cons_zero, List.set_cons_succ]
                  refine wpAnyH_take (i := 11) (oi := ?ooc11) (v := ?vvc11) ?hic11 (by kernel_rfl) ?h3c11 ?h4c11 ?h5c11 ?h6c11 (by assumption) ?h8c11
                  case hic11 => (simp only [List.getElem?_toArray, List.getElem?_cons_succ, List.getElem?_cons_zero]; rfl)
                  case h3c11 => kernel_rfl
                  case h4c11 => kernel_rfl
                  case h6c11 => (refine Or.inl ⟨by rfl, ?_⟩; intro w hSw; (try dsimp only at hSw); (go_simp <;> with_reducible rfl))
                  case h5c11 => exact fun _ _ _ h => h
                  try simp only [Act.put, List.setIfInBounds_toArray, List.set_cons_zero, List.set_cons_succ]
                  refine wpAnyH_take (i := 12) (oi := ?ooc12) (v := ?vvc12) ?hic12 (by kernel_rfl) ?h3c12 ?h4c12 ?h5c12 ?h6c12 (by assumption) ?h8c12
                  case hic12 => (simp only [List.getElem?_toArray, List.getElem?_cons_succ, List.getElem?_cons_zero]; rfl)
                  case h3c12 => kernel_rfl
                  case h4c12 => kernel_rfl
                  case h6c12 => (refine Or.inl ⟨by rfl, ?_⟩; intro w hSw; (try dsimp only at hSw); (go_simp <;> with_reducible rfl))
                  case h5c12 => exact fun _ _ _ h => h
                  try simp only [Act.put, List.setIfInBounds_toArray, List.set_cons_zero, List.set_cons_succ]
                  refine wpAnyH_take (i := 13) (oi := ?ooc13) (v := ?vvc13) ?hic13 (by kernel_rfl) ?h3c13 ?h4c13 ?h5c13 ?h6c13 (by assumption) ?h8c13
                  case hic13 => (simp only [List.getElem?_toArray, List.getElem?_cons_succ, List.getElem?_cons_zero]; rfl)
                  case h3c13 => kernel_rfl
                  case h4c13 => kernel_rfl
                  case h6c13 => (refine Or.inl ⟨by rfl, ?_⟩; intro w hSw; (try dsimp only at hSw); (go_simp <;> with_reducible rfl))
                  case h5c13 => exact fun _ _ _ h => h
                  try simp only [Act.put, List.setIfInBounds_toArray, List.set_cons_zero, List.set_cons_succ]
                  refine wpAnyH_ready (rs := [14]) (by kernel_rfl) (by simp) (AllReadyH.cons (o := ?ooc14) ?hic14 (fun K hK => ?hkc14) AllReadyH.nil)
                  rotate_left
                  case hic14 => (simp only [List.getElem?_toArray, List.getElem?_cons_succ, List.getElem?_cons_zero]; rfl)
                  (rw [if_pos (by rfl)]; go_simp; refine (splace _ _ k (zs.take k) z _ HT.out (by rw [List.length_take]; omega) (by omega)).mono ?_; rintro e w3 ⟨v, rfl, p1, p2, rfl⟩; obtain rfl := p2 hm; clear p1 p2; go_wp2_with fail; refine hK.out _ _ (by assumption) (fun hHeld => ?_); clear hK K)
                  try simp only [Act.put, List.setIfInBounds_toArray, List.set_cons_zero, List.set_cons_succ]
                  refine wpAnyH_take (i := 15) (oi := ?ooc15) (v := ?vvc15) ?hic15 (by kernel_rfl) ?h3c15 ?h4c15 ?h5c15 ?h6c15 (by assumption) ?h8c15
                  case hic15 => (simp only [List.getElem?_toArray, List.getElem?_cons_succ, List.getElem?_cons_zero]; rfl)
                  case h3c15 => kernel_rfl
                  case h4c15 => kernel_rfl
                  case h6c15 => (refine Or.inl ⟨by rfl, ?_⟩; intro w hSw; (try dsimp only at hSw); (go_simp <;> with_reducible rfl))
                  case h5c15 => exact fun _ _ _ h => h
                  try simp only [Act.put, List.setIfInBounds_toArray, List.set_cons_zero, List.set_cons_succ]
                  refine wpAnyH_take (i := 16) (oi := ?ooc16) (v := ?vvc16) ?hic16 (by kernel_rfl) ?h3c16 ?h4c16 ?h5c16 ?h6c16 (by assumption) ?h8c16
                  case hic16 => (simp only [List.getElem?_toArray, List.getElem?_cons_succ, List.getElem?_cons_zero]; rfl)
                  case h3c16 => kernel_rfl
                  case h4c16 => kernel_rfl
                  case h6c16 => (refine Or.inl ⟨by rfl, ?_⟩; intro w hSw; (try dsimp only at hSw); (go_simp <;> with_reducible rfl))
                  case h5c16 => exact fun _ _ _ h => h
                  try simp only [Act.put, List.setIfInBounds_toArray, List.set_cons_zero, List.set_cons_succ]
                  refine wpAnyH_done (by kernel_rfl) ?_ _

                  obtain ⟨wz, hwz⟩ : ∃ wz, wz = wr.drew := ⟨_, rfl⟩
                  have hrz : Below wr.heap.size wr wr.drew := (Below.refl _ _).drew
                  have hIz := hs_below HI1.out hrz
                  have hSz := HS.out.next hrz
                  have hbz2 : gz < wr.drew.heap.size := Nat.lt_of_lt_of_le hbz hrz.size
                  have hcz2 := (hrz.cell (p := ⟨gz, oz + k, none⟩) hbz).trans hcz
                  clear hcz hbz t0 t1 t2 t3 t4 HI1 HS hrz HT
                  rw [← hwz] at hIz hSz hBd hbz2 hcz2 ⊢
                  have hcz := hcz2
                  have hbz := hbz2
                  have hBz := hBd
                  obtain ⟨t0, t1, t2, t3, hbG⟩ := blk_two hSz
                  have HI1 := Lib.hid hIz
                  have HSz := Lib.hid hSz
                  clear hcz2 hbz2 hIz hSz hwz
                  go_upto_region 11 with fail
                  go_cut [13, 14] from 52 to 96 (fun sx sy wx => ∃ m : Nat, sx = .pointer (some ⟨m, 0, none⟩) ∧ sy = .bool c2 ∧ Blk wx m 58 #[.int .i64 (Wsh.qn c2 (shareL (gvTo p L0 zs k) z + p).num), .int .i64 (Wsh.qn c2 ((shareL (gvTo p L0 zs k) z + p).den : Int))] ∧ Below wz.heap.size wz wx)
                  case first =>
                    go_region_held3 (fun w' => w'.cell? ⟨G, 0, none⟩ = some (.int .i64 p.num) ∧ w'.cell? ⟨G, 1, none⟩ = some (.int .i64 (p.den : Int)) ∧ w'.cell? ⟨gz, oz + k, none⟩ = some (.int .i64 z) ∧ Below wz.heap.size wz w') (first | (exact keepT4 hb (by assumption)) | (exact keepT4 ((Below.refl _ _).alloc (Nat.le_refl _) _) (by assumption)) | (exact keepT4R (by assumption) hBq hbG hbz (by omega)) | (exact keepT4R0 hbG hbz (by assumption)) | (exact keepT4set (by assumption) (by first | omega | (simp; omega)) (by first | omega | (simp; omega)) (by first | omega | (simp; omega))) | (refine ⟨?_, ?_, ?_, ?_⟩ <;> first | (go_keep; done) | (exact (Below.refl _ _).drew) | (go_grown; done)))
                      (first | (go_at_call 107; refine (sshareL b1 cp1 (gvTo p L0 zs k) _ z _ (hs_below HI1.out (T4B (by assumption))) rfl (by omega)).mono ?_; rintro e wq ⟨rfl, hb⟩; have hBq := T4B (keepT4 hb (by assumption)); obtain ⟨hc, hf⟩ := bcell hb; have hzz := hb.size; (try simp only [World.size_alloc] at hzz); (try simp only [World.size_drew] at hzz); (try simp only [World.size_alloc] at hzz); (try simp only [Nat.add_one_le_iff] at hzz); (try have hq : wz.heap.size + 1 < wq.heap.size := by omega); (try have hq3 : wz.heap.size < wq.heap.size := by omega); (try have hq4 : wz.heap.size ≤ wq.heap.size := by omega)) | (go_at_call 124; refine (saddQ _ C4.out A5.out C1.out C2.out C3.out).mono ?_; rintro e wq ⟨rfl, hb⟩; have hBq := T4B (keepT4 hb (by assumption)); obtain ⟨hc, hf⟩ := bcell hb; have hzz := hb.size; (try simp only [World.size_alloc] at hzz); (try simp only [World.size_drew] at hzz); (try simp only [World.size_alloc] at hzz); (try simp only [Nat.add_one_le_iff] at hzz); (try have hq : wz.heap.size + 1 < wq.heap.size := by omega); (try have hq3 : wz.heap.size < wq.heap.size := by omega); (try have hq4 : wz.heap.size ≤ wq.heap.size := by omega)))
                    all_goals
                      have hS := T4B (by assumption)
                      go_wp2_with fail
                      go_meet
                      first
                      | exact ⟨_, rfl, rfl, Blk.new _ _ _, hS⟩
                      | exact ⟨_, rfl, rfl, ((Blk.new _ _ _).next hb).two _ _, hS⟩
                      | exact ⟨_, rfl, rfl, (((Blk.new wz _ _).next (by assumption)).next hb).two _ _, hS⟩
                      | exact ⟨_, rfl, rfl, (((Blk.new wz _ _).drew.next (by assumption)).next hb).two _ _, hS⟩
                  case rest =>
                    obtain ⟨m, rfl, rfl, hblk, hBw⟩ := hcut
                    obtain ⟨r0, r1', r2', r3', r4'⟩ := blk_two hblk
                    have hcz2 := (hBw.cell (p := ⟨gz, oz + k, none⟩) hbz).trans hcz
                    have hBw2 := bel_tr hBz hBw
                    have hBd2 := hBw2.drew
                    have HI2 := Lib.hid (hs_below HI1.out hBw)
                    have HS2 := Lib.hid (HSz.out.next hBw)
                    go_wp2_with fail
                    go_region_held3 (fun w' => w'.cell? ⟨m, 0, none⟩ = some (.int .i64 (Wsh.qn c2 (shareL (gvTo p L0 zs k) z + p).num)) ∧ w'.cell? ⟨m, 1, none⟩ = some (.int .i64 (Wsh.qn c2 ((shareL (gvTo p L0 zs k) z + p).den : Int))) ∧ w'.cell? ⟨gz, oz + k, none⟩ = some (.int .i64 z) ∧ Below wc.heap.size wc w') (first | (exact keepT4 hb (by assumption)) | (refine ⟨?_, ?_, ?_, ?_⟩ <;> first | (go_keep; done) | exact (Below.refl _ _).drew))
                      (first | (go_at_call 161; refine (sset b1 cp1 (gvTo p L0 zs k) _ z _ _ (if c2 then shareL (gvTo p L0 zs k) z + p else 0) _ (hs_below HI2.out (T4B (by assumption))) rfl (by omega) (share_ok c2 _)).mono ?_; rintro e wq ⟨v1, rfl, hO, hb⟩; have hO := own_le hO (Nat.le_trans hBw2.size (T4B (by assumption)).size)))
                    have hBe : Below wc.heap.size wc wq := T4B (by assumption)
                    have HO := Lib.hid hO
                    clear hO hblk r0 r1' r2' r3' r4'
                    go_wp2_with fail
                    go_roundw
                    case rel => exact ⟨k + 1, c2, by omega, by go_num, rfl, _, HO.out, HRel.out, HS2.out.next hBe, bel_tr hBw2 hBe⟩
                    case measure => simp [intOf]; omega
            · obtain rfl : zs.length = k := by omega
              have HGA : Hid (gvAll (inhQ hs owner zs) (setL (ledOf hs) owner 0) zs = true) := by show _ = _; rw [HPQ.out, ← HL0.out]; exact rng_yes hgv
              have HHe : Hid (heirsB zs owner = true) := heirs_yes z1 z2 hok
              have HG2 : Hid (giveL p L0 zs = inhL hs owner zs) := by show _ = _; unfold inhL; rw [HPQ.out, HL0.out]
              have hlin : (rawL (gvTo p L0 zs zs.length)).length ≤ 1048576 := by
                rw [raw_len] at hlen0 ⊢; have := gv_len (p := p) (L := L0) (zs := zs) zs.length (Nat.le_refl _); omega
              rw [gv_end, HG2.out] at hO hI1 hc1 hlin ⊢
              have hv := svl b1 cp1 _ wr hI1 hlin
              rw [vlR_vl] at hv
              have HO3 := Lib.hid hO
              have HB := Lib.hid hB
              have HP := Lib.hid hfp
              clear hO hB hS hok hgv hfp
              cases hvl : vlB (inhL hs owner zs) with
              | false =>
                rw [hvl] at hv
                have HN : Hid (inhB hs owner zs = false) := inh_no (.inr (.inr (.inr (.inr (.inr hvl)))))
                clear hvl
                go_wp2_with fail
                refine hv.mono ?_
                rintro e w4 ⟨rfl, hb4⟩
                go_wp2_with fail
                go_returns
                exact ⟨_, by rw [HN.out]; rfl, (fun _ => rfl), (fun c => by rw [HN.out] at c; cases c), bel_tr HB.out hb4⟩
              | true =>
                rw [hvl] at hv
                have HN : Hid (inhB hs owner zs = true) := inh_yes HV.out HNZ.out HHe.out (by rw [HPQ.out]; exact HP.out) HGA.out hvl
                clear hvl
                go_wp2_with fail
                refine hv.mono ?_
                rintro e w4 ⟨rfl, hb4⟩
                go_wp2_with fail
                go_returns
                exact ⟨_, by rw [HN.out]; rfl, (fun c => by rw [HN.out] at c; cases c), (fun _ => own_next HO3.out hb4), bel_tr HB.out hb4⟩

end Go.Proofs.Ytaehemmjemhgpaa
