/- A part that is sold, by spec. Condition: at most 900 holdings. -/
import Derived.Test.YtaehemmjemhgpaaPCG3
import Derived.Test.YtaehemmjemhgpaaPCMove
import Derived.Test.YtaehemmjemhgpaaPCHoldW
set_option maxRecDepth 100000
set_option maxHeartbeats 16000000
namespace Go.Proofs.Ytaehemmjemhgpaa
open Go.RowKit

theorem keepQ {W wq v : World} {x y : Value} {k : Nat} (hb : Below W.heap.size W wq) (h : W.cell? ⟨k, 0, none⟩ = some x ∧ W.cell? ⟨k, 1, none⟩ = some y ∧ Below v.heap.size v W) : wq.cell? ⟨k, 0, none⟩ = some x ∧ wq.cell? ⟨k, 1, none⟩ = some y ∧ Below v.heap.size v wq :=
 ⟨(hb.cell (World.block_lt_of_cell? W _ h.1)).trans h.1, (hb.cell (World.block_lt_of_cell? W _ h.2.1)).trans h.2.1, jq2 h.2.2 hb⟩
theorem keepQset {W v : World} {x y u z : Value} {b k : Nat} (h : W.cell? ⟨k, 0, none⟩ = some x ∧ W.cell? ⟨k, 1, none⟩ = some y ∧ Below v.heap.size v W) (hlt : k < b) (hv : v.heap.size ≤ b) : ((W.setCell ⟨b, 0, none⟩ u).setCell ⟨b, 1, none⟩ z).cell? ⟨k, 0, none⟩ = some x ∧ ((W.setCell ⟨b, 0, none⟩ u).setCell ⟨b, 1, none⟩ z).cell? ⟨k, 1, none⟩ = some y ∧ Below v.heap.size v ((W.setCell ⟨b, 0, none⟩ u).setCell ⟨b, 1, none⟩ z) := by
 have hq : ∀ (V : World) (i l : Nat) (z : Value), (V.setCell ⟨b, i, none⟩ z).cell? ⟨k, l, none⟩ = V.cell? ⟨k, l, none⟩ := fun V i l z => World.cell?_setCell_other V _ _ z (fun e => by injection e with e; omega)
 exact ⟨by rw [hq, hq]; exact h.1, by rw [hq, hq]; exact h.2.1, (h.2.2.setCell hv _).setCell hv _⟩
theorem keepQR {W v : World} {x y : Value} {o o' : Obj} {k : Nat} (h : (W.alloc o).cell? ⟨k, 0, none⟩ = some x ∧ (W.alloc o).cell? ⟨k, 1, none⟩ = some y ∧ Below v.heap.size v (W.alloc o)) (hB : Below v.heap.size v W) (hk : k < v.heap.size) (hlt : v.heap.size ≤ W.heap.size) : (W.alloc o').cell? ⟨k, 0, none⟩ = some x ∧ (W.alloc o').cell? ⟨k, 1, none⟩ = some y ∧ Below v.heap.size v (W.alloc o') := by
 have e : ∀ (l : Nat) (o : Obj), (W.alloc o).cell? ⟨k, l, none⟩ = W.cell? ⟨k, l, none⟩ := fun l o => World.cell?_alloc_lt W o ⟨k, l, none⟩ (by show k < W.heap.size; omega)
 rw [e, e] at h; exact ⟨by rw [e]; exact h.1, by rw [e]; exact h.2.1, hB.alloc hlt _⟩
theorem keepQR0 {v : World} {x y : Value} {o o' : Obj} {k : Nat} (hk : k < v.heap.size) (h : (v.alloc o).cell? ⟨k, 0, none⟩ = some x ∧ (v.alloc o).cell? ⟨k, 1, none⟩ = some y ∧ Below v.heap.size v (v.alloc o)) : (v.alloc o').cell? ⟨k, 0, none⟩ = some x ∧ (v.alloc o').cell? ⟨k, 1, none⟩ = some y ∧ Below v.heap.size v (v.alloc o') := keepQR h (Below.refl _ _) hk (Nat.le_refl _)
theorem own_next {w w' : World} {base : Nat} {v : Value} {hs : List Hd} (h : OwnH w base v hs) (hb : Below w.heap.size w w') : OwnH w' base v hs := by
 refine ⟨h.1, ?_⟩
 rcases h.2 with h | ⟨g, cap, cur, a, b, c, d⟩
 ·exact .inl h
 ·exact .inr ⟨g, cap, cur, a, b, (hb.block g (Blk.lt c)).trans c, d⟩
theorem keepV {w W wq : World} {p q r s : Addr} {x y u v : Value} (hb : Below W.heap.size W wq) (h : W.cell? p = some x ∧ W.cell? q = some y ∧ W.cell? r = some u ∧ W.cell? s = some v ∧ Below w.heap.size w W) : wq.cell? p = some x ∧ wq.cell? q = some y ∧ wq.cell? r = some u ∧ wq.cell? s = some v ∧ Below w.heap.size w wq := by
 have n : ∀ {p : Addr} {v : Value}, W.cell? p = some v → wq.cell? p = some v := fun h => (hb.cell (World.block_lt_of_cell? W _ h)).trans h
 exact ⟨n h.1, n h.2.1, n h.2.2.1, n h.2.2.2.1, jq2 h.2.2.2.2 hb⟩
theorem keepVb {w W : World} {p q r s : Addr} {x y u v : Value} (h : W.cell? p = some x ∧ W.cell? q = some y ∧ W.cell? r = some u ∧ W.cell? s = some v ∧ Below w.heap.size w W) : Below w.heap.size w W := h.2.2.2.2
theorem ssubQ {an ad bn bd x y : Int} {b : Bool} (w : World) (ha : Wsh.vfB an ad = true) (hb : Wsh.vfB bn bd = true) (hr : Wsh.redB (an * bd - bn * ad) (ad * bd) = b) (hx : Wsh.rn (an * bd - bn * ad) (ad * bd) = x) (hy : Wsh.rd (an * bd - bn * ad) (ad * bd) = y) :
  Calls Try.prog 160 #[.agg #[.int .i64 an, .int .i64 ad], .agg #[.int .i64 bn, .int .i64 bd]] w fun e w' => e = .returned (.tuple #[.agg #[.int .i64 (Wsh.qn b x), .int .i64 (Wsh.qn b y)], .bool b]) ∧ Below w.heap.size w w' := by
 have := ssub an ad bn bd w ha hb; rw [hr, hx, hy] at this; exact this
theorem sshareL (a : Option Addr) (cap : Nat) (L : Led) (hs : List Hd) (o : Int) (w : World) (h : IsHs w a hs) (hh : hs = rawL L) (hn : hs.length ≤ 1048576) :
  Calls Try.prog 107 #[.slice a hs.length cap, .int .i64 o] w fun e w' => e = .returned (.agg #[.int .i64 (jq6 L o).num, .int .i64 ((jq6 L o).den : Int)]) ∧ Below w.heap.size w w' := by
 have := sshare a cap hs o w h hn; unfold ShareV at this; rw [hh, shR_raw] at this; rw [hh]; exact this
theorem sub_led2 {L : Led} (hf : ∀ x ∈ L, frB x.2 = true) (o : Int) {p : Rat} (hp : frB p = true) :
  Wsh.vfB (jq6 L o).num ((jq6 L o).den : Int) = true ∧ Wsh.vfB p.num (p.den : Int) = true ∧ Wsh.redB ((jq6 L o).num * (p.den : Int) - p.num * ((jq6 L o).den : Int)) (((jq6 L o).den : Int) * (p.den : Int)) = frB (jq6 L o - p) ∧ Wsh.redB ((jq6 L o).num * (p.den : Int) + p.num * ((jq6 L o).den : Int)) (((jq6 L o).den : Int) * (p.den : Int)) = frB (jq6 L o + p) :=
 ⟨q_vf (share_frA hf o), q_vf hp, (sub_red (jq6 L o) p).1, (add_red (jq6 L o) p).1⟩

theorem ssell (a : Option Addr) (cap : Nat) (L : Led) (hs : List Hd) (fr tt pn pd : Int) (p : Rat) (w : World) (hcc : IsHs w a hs) (hh : hs = rawL L) (hn : hs.length ≤ 900) (hf : ∀ x ∈ L, frB x.2 = true) (hp : frB p = true) (hpn : pn = p.num) (hpd : pd = (p.den : Int)) :
    Calls Try.prog 114 #[.slice a hs.length cap, .int .i64 fr, .int .i64 tt, .agg #[.int .i64 pn, .int .i64 pd]] w (MoveV w (sellB L fr tt p) (soldL L fr tt p)) := by
  obtain ⟨q4, q5, q1, r1⟩ := sub_led2 hf fr hp; obtain ⟨_, q2, q3⟩ := sub_led hf fr hp; obtain ⟨s4, _, _, s1⟩ := sub_led2 hf tt hp; obtain ⟨_, s2, s3⟩ := add_led hf tt hp; have A1 := Lib.hid q1; have A2 := Lib.hid q2; have A3 := Lib.hid q3; have A4 := Lib.hid q4; have A5 := Lib.hid q5; have C1 := Lib.hid s1; have C2 := Lib.hid s2; have C3 := Lib.hid s3; have C4 := Lib.hid s4; have HI := Lib.hid hcc; have HH := Lib.hid hh; have HF := Lib.hid hf; have HP := Lib.hid hp; have HPn := Lib.hid hpn; have HPd := Lib.hid hpd; rw [← hpn, ← hpd] at A1 A2 A3 A5 C1 C2 C3; clear q1 q2 q3 q4 q5 r1 s1 s2 s3 s4 hcc hh hf hp hpn hpd
  obtain ⟨b, hb⟩ : ∃ b, frB (jq6 L fr - p) = b := ⟨_, rfl⟩
  obtain ⟨c, hc⟩ : ∃ c, frB (jq6 L tt + p) = c := ⟨_, rfl⟩
  rw [hb] at A1; rw [hc] at C1; have HB := Lib.hid hb; have HC := Lib.hid hc; clear hb hc; go_enter Try.func114, Try.ntmps114
  go_upto_region 1 with fail
  go_cut [10, 11] (fun sx sy wx => ∃ k : Nat, sx = .pointer (some ⟨k, 0, none⟩) ∧ sy = .bool b ∧ Blk wx k 58 #[.int .i64 (Wsh.qn b (jq6 L fr - p).num), .int .i64 (Wsh.qn b ((jq6 L fr - p).den : Int))] ∧ w.heap.size < k ∧ wx.cell? ⟨w.heap.size, 0, none⟩ = some (.int .i64 pn) ∧ wx.cell? ⟨w.heap.size, 1, none⟩ = some (.int .i64 pd) ∧ Below w.heap.size w wx)
  case first =>
    go_region_held3 (fun w' => w'.cell? ⟨w.heap.size, 0, none⟩ = some (.int .i64 pn) ∧ w'.cell? ⟨w.heap.size, 1, none⟩ = some (.int .i64 pd) ∧ Below w.heap.size w w') (first | (exact keepM hb (by assumption)) | (exact keepM ((Below.refl _ _).alloc (Nat.le_refl _) _) (by assumption)) | (exact keepMR (by assumption) hBq (by omega)) | (exact keepMset (by assumption) (by first | omega | (simp; omega))) | (refine ⟨?_, ?_, ?_⟩ <;> first | (go_keep; done) | (go_grown; done)))
      (first | (go_at_call 107; refine (sshareL _ _ L hs fr _ (jx3 HI.out (And.right (And.right (by assumption)))) HH.out (by omega)).mono ?_; rintro e wq ⟨rfl, hb⟩; have hBq := (keepM hb (by assumption)).2.2; obtain ⟨hc, hf⟩ := bcell hb; have hzz := hb.size; (try simp only [World.size_alloc] at hzz); (try simp only [World.size_drew] at hzz); (try simp only [World.size_alloc] at hzz); (try simp only [Nat.add_one_le_iff] at hzz); (try have hq : w.heap.size + 1 < wq.heap.size := by omega); (try have hq3 : w.heap.size < wq.heap.size := by omega)) | (go_at_call 160; refine (ssubQ _ A4.out A5.out A1.out A2.out A3.out).mono ?_; rintro e wq ⟨rfl, hb⟩; have hBq := (keepM hb (by assumption)).2.2; obtain ⟨hc, hf⟩ := bcell hb; have hzz := hb.size; (try simp only [World.size_alloc] at hzz); (try simp only [World.size_drew] at hzz); (try simp only [World.size_alloc] at hzz); (try simp only [Nat.add_one_le_iff] at hzz); (try have hq : w.heap.size + 1 < wq.heap.size := by omega); (try have hq3 : w.heap.size < wq.heap.size := by omega)))
    all_goals
      have hS := ‹_ ∧ _›; go_wp2_with fail
      go_meet
      first
      | exact ⟨_, rfl, rfl, Blk.new _ _ _, by omega, hS.1, hS.2.1, hS.2.2⟩
      | exact ⟨_, rfl, rfl, ((Blk.new _ _ _).next hb).two _ _, by omega, hS.1, hS.2.1, hS.2.2⟩
      | exact ⟨_, rfl, rfl, (((blk_second w _ _ _).next (by assumption)).next hb).two _ _, by omega, hS.1, hS.2.1, hS.2.2⟩
      | exact ⟨_, rfl, rfl, (((blk_second w _ _ _).drew.next (by assumption)).next hb).two _ _, by omega, hS.1, hS.2.1, hS.2.2⟩
  case rest =>
    obtain ⟨k, rfl, rfl, hblk, hk, c0, c1, hB⟩ := hcut; have hbx : w.heap.size < wc.heap.size := World.block_lt_of_cell? wc _ c0; have HK := Lib.hid hblk; clear hblk
    go_upto_region 2 with fail
    go_cut [12, 13] (fun sx sy wx => ∃ k : Nat, sx = .pointer (some ⟨k, 0, none⟩) ∧ sy = .bool c ∧ Blk wx k 58 #[.int .i64 (Wsh.qn c (jq6 L tt + p).num), .int .i64 (Wsh.qn c ((jq6 L tt + p).den : Int))] ∧ wc.heap.size ≤ k ∧ wx.cell? ⟨w.heap.size, 0, none⟩ = some (.int .i64 pn) ∧ wx.cell? ⟨w.heap.size, 1, none⟩ = some (.int .i64 pd) ∧ Below wc.heap.size wc wx)
    case first =>
      go_region_held3 (fun w' => w'.cell? ⟨w.heap.size, 0, none⟩ = some (.int .i64 pn) ∧ w'.cell? ⟨w.heap.size, 1, none⟩ = some (.int .i64 pd) ∧ Below wc.heap.size wc w') (first | (exact keepQ hb (by assumption)) | (exact keepQ ((Below.refl _ _).alloc (Nat.le_refl _) _) (by assumption)) | (exact keepQR (by assumption) hBq hbx (by omega)) | (exact keepQR0 hbx (by assumption)) | (exact keepQset (by assumption) (by first | omega | (simp; omega)) (by first | omega | (simp; omega))) | (refine ⟨?_, ?_, ?_⟩ <;> first | (go_keep; done) | (exact (Below.refl _ _).drew) | (go_grown; done)))
        (first | (go_at_call 107; refine (sshareL _ _ L hs tt _ (jx3 (jx3 HI.out hB) (And.right (And.right (by assumption)))) HH.out (by omega)).mono ?_; rintro e wq ⟨rfl, hb⟩; have hBq := (keepQ hb (by assumption)).2.2; obtain ⟨hc, hf⟩ := bcell hb; have hzz := hb.size; (try simp only [World.size_alloc] at hzz); (try simp only [World.size_drew] at hzz); (try simp only [World.size_alloc] at hzz); (try simp only [Nat.add_one_le_iff] at hzz); (try have hq : wc.heap.size + 1 < wq.heap.size := by omega); (try have hq3 : wc.heap.size < wq.heap.size := by omega); (try have hq4 : wc.heap.size ≤ wq.heap.size := by omega)) | (go_at_call 124; refine (saddQ _ C4.out A5.out C1.out C2.out C3.out).mono ?_; rintro e wq ⟨rfl, hb⟩; have hBq := (keepQ hb (by assumption)).2.2; obtain ⟨hc, hf⟩ := bcell hb; have hzz := hb.size; (try simp only [World.size_alloc] at hzz); (try simp only [World.size_drew] at hzz); (try simp only [World.size_alloc] at hzz); (try simp only [Nat.add_one_le_iff] at hzz); (try have hq : wc.heap.size + 1 < wq.heap.size := by omega); (try have hq3 : wc.heap.size < wq.heap.size := by omega); (try have hq4 : wc.heap.size ≤ wq.heap.size := by omega)))
      all_goals
        have hS := ‹_ ∧ _›; go_wp2_with fail
        go_meet
        first
        | exact ⟨_, rfl, rfl, Blk.new _ _ _, by omega, hS.1, hS.2.1, hS.2.2⟩
        | exact ⟨_, rfl, rfl, ((Blk.new _ _ _).next hb).two _ _, by omega, hS.1, hS.2.1, hS.2.2⟩
        | exact ⟨_, rfl, rfl, (((Blk.new wc _ _).next (by assumption)).next hb).two _ _, by omega, hS.1, hS.2.1, hS.2.2⟩
        | exact ⟨_, rfl, rfl, (((Blk.new wc _ _).drew.next (by assumption)).next hb).two _ _, by omega, hS.1, hS.2.1, hS.2.2⟩
    case rest =>
      obtain ⟨k2, rfl, rfl, hblk2, hk2, d0, d1, hB2⟩ := hcut; obtain ⟨t0, t1, t2, t3, t4⟩ := jx1 (HK.out.next hB2); obtain ⟨r0, r1, r2, r3, r4⟩ := jx1 hblk2; have hBB := jq2 hB hB2; clear hblk2 c0 c1 HK hB2 hB
      have HE : Hid (sellB L fr tt p = (b && c && decide (p ≠ 0) && decide (fr ≠ tt) && decide (1 ≤ tt) && decide (tt ≤ 999) && vlB (soldL L fr tt p))) := by show _ = _; unfold sellB; rw [HB.out, HC.out]
      have HZ : Hid ((pn = 0) ↔ p = 0) := by show _ ↔ _; rw [HPn.out]; exact num_zero p
      cases b with
      | false =>
        have HN : Hid (sellB L fr tt p = false) := HE.out; go_wp2_with fail
        go_returns
        exact ⟨_, by rw [HN.out]; rfl, (fun _ => rfl), (fun c => by rw [HN.out] at c; cases c), hBB⟩
      | true =>
        cases c with
        | false =>
          have HN : Hid (sellB L fr tt p = false) := HE.out; go_wp2_with fail
          go_returns
          exact ⟨_, by rw [HN.out]; rfl, (fun _ => rfl), (fun c => by rw [HN.out] at c; cases c), hBB⟩
        | true =>
          rw [Wsh.qn_true] at t0 t1 r0 r1
          by_cases hp0 : pn = 0
          · have HN : Hid (sellB L fr tt p = false) := by show _ = _; rw [HE.out]; simp [HZ.out.1 hp0]
            have e : (pn == 0) = true := by simpa using hp0
            clear hp0; go_wp2_with fail
            go_returns
            exact ⟨_, by rw [HN.out]; rfl, (fun _ => rfl), (fun c => by rw [HN.out] at c; cases c), hBB⟩
          · have e : (pn == 0) = false := by simpa using hp0
            have HPz : Hid (p ≠ 0) := fun c => hp0 (HZ.out.2 c)
            clear hp0
            by_cases hft : fr = tt
            · have HN : Hid (sellB L fr tt p = false) := by show _ = _; rw [HE.out]; simp [hft]
              have e2 : (fr == tt) = true := by simpa using hft
              clear hft; go_wp2_with fail
              go_returns
              exact ⟨_, by rw [HN.out]; rfl, (fun _ => rfl), (fun c => by rw [HN.out] at c; cases c), hBB⟩
            · have e2 : (fr == tt) = false := by simpa using hft
              have HFT := Lib.hid hft; clear hft
              by_cases hr : tt < 1 ∨ 999 < tt
              · have HN : Hid (sellB L fr tt p = false) := by show _ = _; rw [HE.out]; simp; omega
                go_wp2_with fail; refine (jz6 tt 1 999 _ hr).mono ?_; rintro e w' ⟨rfl, rfl⟩; go_wp2_with fail
                go_returns
                exact ⟨_, by rw [HN.out]; rfl, (fun _ => rfl), (fun c => by rw [HN.out] at c; cases c), hBB⟩
              · have hE : sellB L fr tt p = vlB (soldL L fr tt p) := by
                  have h1 : 1 ≤ tt := by omega
                  have h2 : tt ≤ 999 := by omega
                  rw [HE.out]; simp [HPz.out, HFT.out, h1, h2]
                have HEE := Lib.hid hE; clear hE
                have hl1 : (rawL (setL L fr (jq6 L fr - p))).length ≤ 1000 := by
                  rw [jjb]; have := set_len (L := L) fr (jq6 L fr - p); have e := congrArg List.length HH.out; rw [jjb] at e
                  omega
                have hl2 : (rawL (soldL L fr tt p)).length ≤ 1048576 := by
                  rw [jjb]; have := set_len (L := setL L fr (jq6 L fr - p)) tt (jq6 L tt + p); rw [jjb] at hl1; unfold soldL
                  omega
                go_wp2_with fail; refine (jqh tt 1 999 _ (by omega) (by omega)).mono ?_; rintro e w' ⟨rfl, rfl⟩; go_wp2_with fail
                go_region_held3 (fun w' => w'.cell? ⟨k, 0, none⟩ = some (.int .i64 (jq6 L fr - p).num) ∧ w'.cell? ⟨k, 1, none⟩ = some (.int .i64 ((jq6 L fr - p).den : Int)) ∧ w'.cell? ⟨k2, 0, none⟩ = some (.int .i64 (jq6 L tt + p).num) ∧ w'.cell? ⟨k2, 1, none⟩ = some (.int .i64 ((jq6 L tt + p).den : Int)) ∧ Below w.heap.size w w') (first | (exact keepV hb (by assumption)) | (refine ⟨?_, ?_, ?_, ?_, ?_⟩ <;> first | (go_keep; done) | exact hBB.drew))
                  (first | (go_at_call_of 161 (Value.slice a hs.length cap); refine (sset a cap L hs fr _ _ (jq6 L fr - p) _ (jx3 HI.out (keepVb (by assumption))) HH.out (by omega) (.inl ⟨rfl, rfl⟩)).mono ?_; rintro e wq ⟨v1, rfl, hO, hb⟩; have hsz1 := hb.size; obtain ⟨b1, cp1, rfl, hI1, hc1⟩ := own_hs2 hO) | (go_at_call 161; refine (sset _ _ (setL L fr (jq6 L fr - p)) _ tt _ _ (jq6 L tt + p) _ hI1 rfl hl1 (.inl ⟨rfl, rfl⟩)).mono ?_; rintro e wq2 ⟨v2, rfl, hO2, hb⟩))
                have hBF : Below w.heap.size w wq2 := keepVb (by assumption); have hO3 : OwnH wq2 w.heap.size v2 (rawL (soldL L fr tt p)) := own_le hO2 (Nat.le_trans hBB.size hsz1); obtain ⟨b2, cp2, rfl, hI2, hc2⟩ := own_hs2 hO3; have hv := svl b2 cp2 _ wq2 hI2 hl2; rw [vlR_vl] at hv; have HO3 := Lib.hid hO3; clear hO3 hO2 hO
                cases hvl : vlB (soldL L fr tt p) with
                | false =>
                  rw [hvl] at hv
                  have HN : Hid (sellB L fr tt p = false) := by show _ = _; rw [HEE.out]; exact hvl
                  clear hvl; go_wp2_with fail; refine hv.mono ?_; rintro e w4 ⟨rfl, hb4⟩; go_wp2_with fail
                  go_returns
                  exact ⟨_, by rw [HN.out]; rfl, (fun _ => rfl), (fun c => by rw [HN.out] at c; cases c), jq2 hBF hb4⟩
                | true =>
                  rw [hvl] at hv
                  have HN : Hid (sellB L fr tt p = true) := by show _ = _; rw [HEE.out]; exact hvl
                  clear hvl; go_wp2_with fail; refine hv.mono ?_; rintro e w4 ⟨rfl, hb4⟩; go_wp2_with fail
                  go_returns
                  exact ⟨_, by rw [HN.out]; rfl, (fun c => by rw [HN.out] at c; cases c), (fun _ => own_next HO3.out hb4), jq2 hBF hb4⟩

def selB (hs : List Hd) (fr tt pn pd : Int) : Bool := vlR hs && Wsh.vfB pn pd && sellB (jqa hs) fr tt (Rat.divInt pn pd)
def selL (hs : List Hd) (fr tt pn pd : Int) : Led := soldL (jqa hs) fr tt (Rat.divInt pn pd)
theorem led_eq {hs : List Hd} (h : vlR hs = true) : hs = rawL (jqa hs) := (vlR_is h).1.symm
theorem led_le {hs : List Hd} (h : vlR hs = true) : hs.length ≤ 12 := by have := (vlR_is h).2.len; rwa [led_len] at this
end Go.Proofs.Ytaehemmjemhgpaa
