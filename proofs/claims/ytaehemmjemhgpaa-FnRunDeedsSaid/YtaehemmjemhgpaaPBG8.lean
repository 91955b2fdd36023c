/- Contracts and facts of functions of this program, in build order. Conditions: those stated in each. -/
import Derived.Test.YtaehemmjemhgpaaPBDrawDd
import Derived.Test.YtaehemmjemhgpaaPBG1
import Derived.Test.YtaehemmjemhgpaaPBHoldW
import Derived.Test.YtaehemmjemhgpaaPBG7
import Derived.Maps.AppendAt
set_option maxRecDepth 100000
set_option maxHeartbeats 16000000
namespace Go.Proofs.Ytaehemmjemhgpaa
open Go.RowKit
set_option linter.unusedSimpArgs false
set_option linter.unusedVariables false
theorem hs_grownE {w w' : World} {a : Option Addr} {hs : List Hd} {row : Option Nat} (h : IsHs w a hs) (hG : w.grownBy w' row) (hr : hs ≠ [] → ∀ ad, a = some ad → row ≠ some ad.block) : IsHs w' a hs := by
  rcases h with h | ⟨g, o, rfl, hc⟩
  · exact .inl h
  · by_cases hz : hs = []
    · exact .inl hz
    have hne := hr hz _ rfl
    refine .inr ⟨g, o, rfl, fun i hi => ?_⟩
    obtain ⟨c0, c1, c2⟩ := hc i hi
    exact ⟨hG.cell c0 (fun c => hne c.symm), hG.cell c1 (fun c => hne c.symm), hG.cell c2 (fun c => hne c.symm)⟩
theorem hs_lt {w : World} {a : Option Addr} {hs : List Hd} (h : IsHs w a hs) (hz : hs ≠ []) : ∀ ad, a = some ad → ad.block < w.heap.size := fun ad e => by
  rcases h with h | ⟨g, o, rfl, hc⟩
  · exact absurd h hz
  · injection e with e; subst e
    exact World.block_lt_of_cell? w _ (hc 0 (List.length_pos_iff.2 hz)).1
theorem ddzs_more {es : List Dd} {x : Dd} {m : Nat} (h : ∀ j, j < es.length → (es.getD j dd0).zs.length ≤ m) (hx : x.zs.length ≤ m) : ∀ j, j < (es ++ [x]).length → ((es ++ [x]).getD j dd0).zs.length ≤ m := fun j hj => by
  rw [getD_snocE]
  by_cases hl : j < es.length
  · rw [if_pos hl]; exact h j hl
  · have : j = es.length := by simp at hj; omega
    rw [if_neg hl, if_pos this]; exact hx
theorem edC_one (b2 : Option Addr) (c2 : Nat) (x : Dd) : ∀ u ∈ [Value.int .i64 x.k, Value.int .i64 x.o, Value.int .i64 x.t, Value.int .i64 x.n, Value.int .i64 x.d, Value.slice b2 x.zs.length c2], u.oneCell' = true := by
  intro u hu
  simp only [List.mem_cons, List.not_mem_nil, or_false] at hu
  rcases hu with rfl | rfl | rfl | rfl | rfl | rfl <;> rfl
def apartD (a : Option Addr) (hs : List Hd) (v : Value) : Prop := hs ≠ [] → ∀ ad, a = some ad → v.ownBlock ≠ some ad.block
theorem apartD.grow {w : World} {a : Option Addr} {hs : List Hd} {v v2 : Value} (h : apartD a hs v) (hi : IsHs w a hs) (hat : v2.ownBlock = v.ownBlock ∨ v2.ownBlock = some w.heap.size) : apartD a hs v2 := fun hz ad e => by
  rcases hat with q | q
  · rw [q]; exact h hz ad e
  · rw [q]; intro c; injection c with c; have := hs_lt hi hz ad e; omega
theorem own_hs3 {w : World} {base : Nat} {v : Value} {hs : List Hd} (h : OwnH w base v hs) : ∃ (b : Option Addr) (cap : Nat), v = .slice b hs.length cap ∧ IsHs w b hs ∧ hs.length ≤ cap ∧ ∀ ad, b = some ad → base ≤ ad.block := by
  obtain ⟨b, cap, rfl, hi, hk⟩ := own_hs2 h
  refine ⟨b, cap, rfl, hi, hk, fun ad e => ?_⟩
  subst e
  exact (World.ownsRow.lt h ad.block (by rfl)).1
theorem own_le2 {w : World} {base n size c : Nat} {t : TypeId} {a : Option Addr} {xs : List Value} (h : w.ownsRow base t size (.slice a n c) n xs) : n ≤ c := by
  obtain ⟨b, k, e, hk⟩ := own_form h
  injection e with _ _ e3; omega
theorem vlR_small {hs : List Hd} (h : vlR hs = true) : hs.length ≤ 12 := by
  have h2 := (vlR_is h).2.len
  have h1 := congrArg List.length (vlR_is h).1
  unfold rawL at h1
  rw [List.length_map] at h1
  omega
def DrawnRd (w : World) (e : Ending) (w' : World) : Prop := ∃ (a A : Option Addr) (cap capz : Nat) (hs : List Hd) (ds : List Dd), e = .returned (.tuple #[.slice a hs.length cap, .slice A ds.length capz]) ∧ hs.length ≤ 6 ∧ hs.length ≤ cap ∧ ds.length ≤ 5 ∧ ds.length ≤ capz ∧ IsHs w' a hs ∧ IsDds w' A ds ∧ Below w.heap.size w w'
theorem drawRd (a0 : Option Addr) (len cap0 : Nat) (zs : List Int) (w : World) (h : IsRow .u8 w a0 len cap0 zs) :
    Calls Try.prog 12 #[.slice a0 len cap0] w (DrawnRd w) := by
  obtain ⟨i0, hi0, hz0, hzz, hz2⟩ := info_parts infoDd
  go_enter Try.func12, Try.ntmps12
  go_wp2_with fail
  refine (newReader_any a0 len cap0 zs _ h).mono ?_
  rintro e W1 ⟨rfl, R1, B1, hb1⟩
  clear h
  obtain ⟨b, hbb⟩ : ∃ b, b = w.heap.size := ⟨_, rfl⟩
  rw [← hbb] at R1 hb1 ⊢
  have lb : w.heap.size ≤ b := by omega
  clear hbb
  go_wp2_with fail
  refine (anyHd b _ W1 R1 (by omega) hb1).mono ?_
  rintro e W2 ⟨a, cp, hs, rfl, hl6, hlc, hI, hbk, R2, hG⟩
  have B2 := B1.grown hG B1.size (fun q_ hq => by injection hq with hq; omega)
  have hb2 := Nat.lt_of_lt_of_le hb1 hG.size
  have lW0 := hG.size
  clear R1 B1 hG
  obtain ⟨U, hU⟩ : ∃ y, y = W2.alloc (.cells #[] 61) := ⟨_, rfl⟩
  have D2 : Below W2.heap.size W2 U := by subst hU; exact (Below.refl _ _).alloc (Nat.le_refl _) _
  have Ez : OwnDz U W2.heap.size (.slice (some ⟨W2.heap.size, 0, none⟩) 0 0) [] [] := by subst hU; exact ownDz_new (Below.refl W2.heap.size W2)
  have AP : apartD a hs (.slice (some ⟨W2.heap.size, 0, none⟩) 0 0) := fun hz ad e c => by
    have := hs_lt hI hz ad e
    have c2 : some W2.heap.size = some ad.block := c
    injection c2 with c2; omega
  replace hI := hs_below hI D2
  have R3 := rd_below R2 hb2 D2
  replace B2 := bel_tr B2 D2
  have hbU := Nat.lt_of_lt_of_le hb2 D2.size
  have l0 := D2.size
  have HU := Lib.hid hU
  clear R2 D2 hU
  go_upto_region 5 with fail
  rw [← HU.out]
  clear HU
  generalize W2.heap.size = B0 at *
  go_wp2_with fail
  refine (one_lit b 5 _ 0 4 [2, 3, 4, 1, 0] _ U R3 (by omega) hbU rfl (by omega) (by omega) (by simp)).mono ?_
  rintro e W3 ⟨c0, rfl, c1, c2, R4, hG⟩
  have B3 := B2.grown hG B2.size (fun q_ hq => by injection hq with hq; omega)
  have hb3 := Nat.lt_of_lt_of_le hbU hG.size
  replace hI := hs_grown hI hbk hb1 hG
  replace Ez := Ez.far hG hb2
  have l1 := Nat.le_trans l0 hG.size
  clear R3 B2 hG hbU l0
  have lW : W1.heap.size ≤ B0 := lW0
  have HBK := Lib.hid hbk
  have HLS : Hid (hs.length ≤ 6 ∧ hs.length ≤ cp) := ⟨hl6, hlc⟩
  clear hbk
  go_wp2_with fail
  go_loopw [6, 7, 8] (fun v y i wr => ∃ (es : List Dd) (V : List Value) (hs1 : List Hd) (a1 : Option Addr) (cp1 : Nat) (c : Int), 0 ≤ c ∧ (es.length : Int) + c ≤ 4 ∧ i = .int .i64 c ∧ y = .slice a1 hs1.length cp1 ∧ hs1.length ≤ 1048576 ∧ hs1.length ≤ cp1 ∧ Hid (∀ ad, a1 = some ad → W1.heap.size ≤ ad.block) ∧ Hid (∀ j, j < es.length → (es.getD j dd0).zs.length ≤ 4) ∧ OwnDz wr B0 v es V ∧ IsHs wr a hs ∧ apartD a hs v ∧ IsHs wr a1 hs1 ∧ apartD a1 hs1 v ∧ Rd wr b (100 + 70 * (5 - c)) ∧ Below w.heap.size w wr ∧ b < wr.heap.size ∧ B0 ≤ wr.heap.size) (fun _ _ i _ => (intOf i).toNat)
  case atStart => exact ⟨[], [], hs, a, cp, c0, c1, by simp; omega, rfl, rfl, by omega, hlc, HBK, (fun j hj => absurd hj (Nat.not_lt_zero _)), Ez, hI, AP, hI, AP, rd_up R4 (by omega), B3, hb3, l1⟩
  case round =>
    clear R4 Ez AP hI B3 hb3 l1 hl6 hlc
    obtain ⟨es, V, hs1, a1, cp1, c, hc, hxc, rfl, rfl, hn1, hk1, HB1, h4, Ez, hI, AP, hI1, AP1, hR, hB, hbr, lB⟩ := hrel
    obtain ⟨sb, sk, rfl⟩ := Ez.forms
    by_cases hc0 : 0 < c
    · have LZ := Lib.hid Ez.lt
      go_wp2_with fail
      refine (someDd b _ a1 cp1 W1.heap.size hs1 _ hR (by omega) hbr hI1 hn1 HB1.out hb1).mono ?_
      rintro e X ⟨A, cz, ⟨k, o, tt, n, d, zs⟩, rfl, z4, zc, zI, zab, hRX, hG⟩
      dsimp only at z4 zc zI zab ⊢
      have lX := hG.size
      have B5 := hB.grown hG hB.size (fun q_ hq => by injection hq with hq; omega)
      obtain ⟨U2, hU2⟩ : ∃ y, y = X.alloc (.cells #[.int .i64 k, .int .i64 o, .int .i64 tt, .int .i64 n, .int .i64 d, .slice A zs.length cz] 61) := ⟨_, rfl⟩
      have D2 : Below X.heap.size X U2 := by subst hU2; exact (Below.refl _ _).alloc (Nat.le_refl _) _
      have K8 : Blk U2 X.heap.size 61 #[.int .i64 k, .int .i64 o, .int .i64 tt, .int .i64 n, .int .i64 d, .slice A zs.length cz] := by subst hU2; exact Blk.new _ _ _
      replace Ez := (Ez.far hG hb2).next D2
      replace hI := hs_below (hs_grown hI HBK.out hb1 hG) D2
      replace hI1 := hs_below (hs_grown hI1 HB1.out hb1 hG) D2
      replace zI := ints_below zI D2
      have hbX := Nat.lt_of_lt_of_le hbr hG.size
      have R5 := rd_below hRX hbX D2
      have B6 := bel_tr B5 D2
      have hbU := Nat.lt_of_lt_of_le hbX D2.size
      have lXU := D2.size
      have HU2 := Lib.hid hU2
      clear hR hRX hG hB hbr B5 D2 hU2 hbX
      go_wp2_with (first | (show wpList _ _ _ ({ dst := some _, op := _, type := _, pos := _, after := _, guard := _ } :: _) _ (World.alloc _ _); rw [← HU2.out]) | fail)
      refine (svl a1 cp1 hs1 U2 hI1 hn1).mono ?_
      rintro e Y ⟨rfl, C⟩
      replace Ez := Ez.next C
      replace hI := hs_below hI C
      replace hI1 := hs_below hI1 C
      replace zI := ints_below zI C
      replace K8 := K8.next C
      replace R5 := rd_below R5 hbU C
      replace B6 := bel_tr B6 C
      replace hbU := Nat.lt_of_lt_of_le hbU C.size
      have lY : wr.heap.size ≤ Y.heap.size := Nat.le_trans lX (Nat.le_trans lXU C.size)
      clear C HU2
      cases hv : vlR hs1 with
      | false =>
        have HN : Hid (OwnDz Y B0 (.slice sb es.length sk) es V ∧ IsHs Y a hs ∧ apartD a hs (.slice sb es.length sk) ∧ IsHs Y a1 hs1 ∧ apartD a1 hs1 (.slice sb es.length sk) ∧ Rd Y b (100 + 70 * (5 - (c - 1))) ∧ Below w.heap.size w Y ∧ b < Y.heap.size ∧ B0 ≤ Y.heap.size) := ⟨Ez, hI, AP, hI1, AP1, rd_up R5 (by omega), B6, hbU, by omega⟩
        clear Ez hI hI1 zI K8 R5 B6 AP AP1 hv hbU lY lX
        go_wp2_with fail
        go_roundw
        case rel => exact ⟨es, V, hs1, a1, cp1, c - 1, by omega, by omega, by go_num, rfl, hn1, hk1, HB1, h4, HN.out⟩
        case measure => simp [intOf]; omega
      | true =>
        obtain ⟨e0_, e1_, e2_, e3_, e4_, e5_⟩ := cells6 K8
        go_wp2_with fail
        refine (sRunDeed a1 cp1 hs1 A cz ⟨k, o, tt, n, d, zs⟩ Y hI1 hn1 hk1 zI (by dsimp only; omega) zc hv).mono ?_
        rintro e Z ⟨v5, rfl, m1, m2, C⟩
        clear e0_ e1_ e2_ e3_ e4_ e5_
        replace Ez := Ez.next C
        replace hI := hs_below hI C
        replace hI1 := hs_below hI1 C
        replace zI := ints_below zI C
        replace K8 := K8.next C
        replace R5 := rd_below R5 hbU C
        replace B6 := bel_tr B6 C
        replace hbU := Nat.lt_of_lt_of_le hbU C.size
        have lZ := Nat.le_trans lY C.size
        cases hd : deedB hs1 ⟨k, o, tt, n, d, zs⟩ with
        | false =>
          obtain rfl := m1 hd
          have HN : Hid (OwnDz Z B0 (.slice sb es.length sk) es V ∧ IsHs Z a hs ∧ apartD a hs (.slice sb es.length sk) ∧ IsHs Z a1 hs1 ∧ apartD a1 hs1 (.slice sb es.length sk) ∧ Rd Z b (100 + 70 * (5 - (c - 1))) ∧ Below w.heap.size w Z ∧ b < Z.heap.size ∧ B0 ≤ Z.heap.size) := ⟨Ez, hI, AP, hI1, AP1, rd_up R5 (by omega), B6, hbU, by omega⟩
          clear Ez hI hI1 zI K8 R5 B6 AP AP1 hv hbU lY lX m1 m2 C lZ hd
          go_wp2_with fail
          go_roundw
          case rel => exact ⟨es, V, hs1, a1, cp1, c - 1, by omega, by omega, by go_num, rfl, hn1, hk1, HB1, h4, HN.out⟩
          case measure => simp [intOf]; omega
        | true =>
          have hO5 := m2 hd
          obtain ⟨nb, nk, rfl, hI5, hk5, hab5⟩ := own_hs3 hO5
          have hn5 : (rawL (deedL hs1 ⟨k, o, tt, n, d, zs⟩)).length ≤ 1048576 := by have := vlR_small (deed_vl hd); omega
          clear m1 m2 hO5 hI1 AP1 hn1 hk1 hd hv
          generalize rawL (deedL hs1 ⟨k, o, tt, n, d, zs⟩) = hs5 at hI5 hk5 hn5 ⊢
          have AP5 : apartD nb hs5 (.slice sb es.length sk) := fun hz ad e c => by
            have a := LZ.out ad.block c
            have b := hab5 ad e
            omega
          have D5 : Below Z.heap.size Z (Z.alloc (.cells #[.int .i64 k, .int .i64 o, .int .i64 tt, .int .i64 n, .int .i64 d, .slice A zs.length cz] 61)) := (Below.refl _ _).alloc (Nat.le_refl _) _
          have HA : Hid (OwnDz (Z.alloc (.cells #[.int .i64 k, .int .i64 o, .int .i64 tt, .int .i64 n, .int .i64 d, .slice A zs.length cz] 61)) B0 (.slice sb es.length sk) es V ∧ IsHs (Z.alloc (.cells #[.int .i64 k, .int .i64 o, .int .i64 tt, .int .i64 n, .int .i64 d, .slice A zs.length cz] 61)) a hs ∧ IsHs (Z.alloc (.cells #[.int .i64 k, .int .i64 o, .int .i64 tt, .int .i64 n, .int .i64 d, .slice A zs.length cz] 61)) nb hs5 ∧ Rd (Z.alloc (.cells #[.int .i64 k, .int .i64 o, .int .i64 tt, .int .i64 n, .int .i64 d, .slice A zs.length cz] 61)) b (100 + 70 * (5 - (c - 1))) ∧ Below w.heap.size w (Z.alloc (.cells #[.int .i64 k, .int .i64 o, .int .i64 tt, .int .i64 n, .int .i64 d, .slice A zs.length cz] 61)) ∧ b < (Z.alloc (.cells #[.int .i64 k, .int .i64 o, .int .i64 tt, .int .i64 n, .int .i64 d, .slice A zs.length cz] 61)).heap.size ∧ IsInts (Z.alloc (.cells #[.int .i64 k, .int .i64 o, .int .i64 tt, .int .i64 n, .int .i64 d, .slice A zs.length cz] 61)) A zs) := ⟨Ez.next D5, hs_below hI D5, hs_below hI5 D5, rd_up (rd_below R5 hbU D5) (by omega), bel_tr B6 D5, Nat.lt_of_lt_of_le hbU D5.size, ints_below zI D5⟩
          have HR5 := Lib.hid HA.out.1.row
          have NC := Lib.hid (new_cells Z [.int .i64 k, .int .i64 o, .int .i64 tt, .int .i64 n, .int .i64 d, .slice A zs.length cz] 61)
          have sz5 : B0 ≤ (Z.alloc (.cells #[.int .i64 k, .int .i64 o, .int .i64 tt, .int .i64 n, .int .i64 d, .slice A zs.length cz] 61)).heap.size := Nat.le_trans (by omega) D5.size
          have HNB : Hid (∀ ad, nb = some ad → W1.heap.size ≤ ad.block) := fun ad e => by have := hab5 ad e; have := hb2; exact Nat.le_trans lW (Nat.le_trans (by omega) (hab5 ad e))
          obtain ⟨e0_, e1_, e2_, e3_, e4_, e5_⟩ := cells6 K8
          clear Ez hI hI5 R5 B6 D5 hbU zI K8 C
          go_wp2_with (first | (at_builtin; refine wpList_append_own_at _ rfl (.tmp 38) (.tmp 40) _ rfl B0 61 i0 _ 6 64 Try.underlying24 hi0 hz0 hzz hz2 rfl (by decide) _ es.length (rowD V es) rfl HR5.out ⟨Z.heap.size, 0, none⟩ 1 1 [.int .i64 k, .int .i64 o, .int .i64 tt, .int .i64 n, .int .i64 d, .slice A zs.length cz] rfl rfl NC.out (edC_one A cz ⟨k, o, tt, n, d, zs⟩) (by unfold maxLen; omega) (by omega) sz5 ?_; intro v2 w2 hO2 hg2 hnil2 hat2))
          have HF : Hid (OwnDz w2 B0 v2 (es ++ [⟨k, o, tt, n, d, zs⟩]) (V ++ [.slice A zs.length cz]) ∧ IsHs w2 a hs ∧ apartD a hs v2 ∧ IsHs w2 nb hs5 ∧ apartD nb hs5 v2 ∧ Rd w2 b (100 + 70 * (5 - (c - 1))) ∧ Below w.heap.size w w2 ∧ b < w2.heap.size ∧ B0 ≤ w2.heap.size) := by
            obtain ⟨a1_, a2_, a3_, a4_, a5_, a6_, a7_⟩ := HA.out
            have r : Below (b + 1) (Z.alloc (.cells #[.int .i64 k, .int .i64 o, .int .i64 tt, .int .i64 n, .int .i64 d, .slice A zs.length cz] 61)) w2 := (Below.refl (b + 1) _).grown hg2 (by omega) (fun q_ hq => by have := (World.ownsRow.lt a1_.row q_ hq).1; omega)
            refine ⟨a1_.snocG (x := ⟨k, o, tt, n, d, zs⟩) (hrz_of (B := wr.heap.size) a7_ zc zab lB LZ.out) hO2 hg2 hat2, hs_grownE a2_ hg2 (fun hz ad e => AP hz ad e), AP.grow a2_ hat2, hs_grownE a3_ hg2 (fun hz ad e => AP5 hz ad e), AP5.grow a3_ hat2, rd_below a4_ (Nat.lt_succ_self _) r, a5_.grown hg2 a5_.size (fun q_ hq => by have := (World.ownsRow.lt a1_.row q_ hq).1; omega), Nat.lt_of_lt_of_le a6_ hg2.size, Nat.le_trans sz5 hg2.size⟩
          clear hO2 hg2 hnil2 hat2 HA HR5 NC e0_ e1_ e2_ e3_ e4_ e5_ AP AP5 LZ
          have HZ4 := Lib.hid (ddzs_more (x := ⟨k, o, tt, n, d, zs⟩) h4.out z4)
          go_roundw
          case rel => exact ⟨es ++ [⟨k, o, tt, n, d, zs⟩], V ++ [.slice A zs.length cz], hs5, nb, nk, c - 1, by omega, by rw [List.length_append]; show ((es.length + 1 : Nat) : Int) + (c - 1) ≤ 4; omega, by go_num, rfl, hn5, hk5, HNB, HZ4, HF.out⟩
          case measure => simp [intOf]; omega
    · obtain rfl : c = 0 := by omega
      go_wp2_with fail
      refine (pick_any b _ 6 _ hR (by omega)).mono ?_
      rintro e X ⟨m, rfl, hm, R6, hG⟩
      have B7 := hB.grown hG hB.size (fun q_ hq => by injection hq with hq; omega)
      replace Ez := Ez.far hG hb2
      replace hI := hs_grown hI HBK.out hb1 hG
      replace hI1 := hs_grown hI1 HB1.out hb1 hG
      have hbX := Nat.lt_of_lt_of_le hbr hG.size
      have lBX := Nat.le_trans lB hG.size
      clear hR hG hB hbr lB
      by_cases m0 : m = 0
      · have e0 : ((m : Int) == 0) = true := by simp [m0]
        have LZ := Lib.hid Ez.lt
        clear m0 hm
        go_wp2_with fail
        refine (someDd b _ a1 cp1 W1.heap.size hs1 _ R6 (by omega) hbX hI1 hn1 HB1.out hb1).mono ?_
        rintro e Z ⟨A, cz, ⟨k, o, tt, n, d, zs⟩, rfl, z4, zc, zI, zab, hRX, hG⟩
        dsimp only at z4 zc zI zab ⊢
        have B8 := B7.grown hG B7.size (fun q_ hq => by injection hq with hq; omega)
        replace Ez := Ez.far hG hb2
        replace hI := hs_grown hI HBK.out hb1 hG
        have lBZ := Nat.le_trans lBX hG.size
        have D5 : Below Z.heap.size Z (Z.alloc (.cells #[.int .i64 k, .int .i64 o, .int .i64 tt, .int .i64 n, .int .i64 d, .slice A zs.length cz] 61)) := (Below.refl _ _).alloc (Nat.le_refl _) _
        have HA : Hid (OwnDz (Z.alloc (.cells #[.int .i64 k, .int .i64 o, .int .i64 tt, .int .i64 n, .int .i64 d, .slice A zs.length cz] 61)) B0 (.slice sb es.length sk) es V ∧ IsHs (Z.alloc (.cells #[.int .i64 k, .int .i64 o, .int .i64 tt, .int .i64 n, .int .i64 d, .slice A zs.length cz] 61)) a hs ∧ Below w.heap.size w (Z.alloc (.cells #[.int .i64 k, .int .i64 o, .int .i64 tt, .int .i64 n, .int .i64 d, .slice A zs.length cz] 61)) ∧ IsInts (Z.alloc (.cells #[.int .i64 k, .int .i64 o, .int .i64 tt, .int .i64 n, .int .i64 d, .slice A zs.length cz] 61)) A zs) := ⟨Ez.next D5, hs_below hI D5, bel_tr B8 D5, ints_below zI D5⟩
        have HR5 := Lib.hid HA.out.1.row
        have NC := Lib.hid (new_cells Z [.int .i64 k, .int .i64 o, .int .i64 tt, .int .i64 n, .int .i64 d, .slice A zs.length cz] 61)
        have sz5 : B0 ≤ (Z.alloc (.cells #[.int .i64 k, .int .i64 o, .int .i64 tt, .int .i64 n, .int .i64 d, .slice A zs.length cz] 61)).heap.size := Nat.le_trans lBZ D5.size
        clear Ez hI hI1 hRX R6 B7 B8 hG D5 zI hbX
        go_wp2_with (first | (at_builtin; refine wpList_append_own_at _ rfl (.tmp 45) (.tmp 49) _ rfl B0 61 i0 _ 6 64 Try.underlying24 hi0 hz0 hzz hz2 rfl (by decide) _ es.length (rowD V es) rfl HR5.out ⟨Z.heap.size, 0, none⟩ 1 1 [.int .i64 k, .int .i64 o, .int .i64 tt, .int .i64 n, .int .i64 d, .slice A zs.length cz] rfl rfl NC.out (edC_one A cz ⟨k, o, tt, n, d, zs⟩) (by unfold maxLen; omega) (by omega) sz5 ?_; intro v2 w2 hO2 hg2 hnil2 hat2))
        have HF : Hid (OwnDz w2 B0 v2 (es ++ [⟨k, o, tt, n, d, zs⟩]) (V ++ [.slice A zs.length cz]) ∧ IsHs w2 a hs ∧ Below w.heap.size w w2) := by
          obtain ⟨a1_, a2_, a3_, a4_⟩ := HA.out
          exact ⟨a1_.snocG (x := ⟨k, o, tt, n, d, zs⟩) (hrz_of (B := X.heap.size) a4_ zc zab lBX LZ.out) hO2 hg2 hat2, hs_grownE a2_ hg2 (fun hz ad e => AP hz ad e), a3_.grown hg2 a3_.size (fun q_ hq => by have := (World.ownsRow.lt a1_.row q_ hq).1; omega)⟩
        have HZ4 := Lib.hid (ddzs_more (x := ⟨k, o, tt, n, d, zs⟩) h4.out z4)
        clear hO2 hg2 hnil2 hat2 HA HR5 NC AP AP1 LZ
        obtain ⟨vb, vk, rfl⟩ := HF.out.1.forms
        go_returns
        refine ⟨a, vb, cp, vk, hs, es ++ [⟨k, o, tt, n, d, zs⟩], rfl, HLS.out.1, HLS.out.2, by rw [List.length_append]; show es.length + 1 ≤ 5; omega, own_le2 HF.out.1.row, HF.out.2.1, HF.out.1.isb (fun j hj => Nat.le_trans (HZ4.out j hj) (by decide)), HF.out.2.2⟩
      · have e0 : ((m : Int) == 0) = false := by simp; omega
        clear m0 hm
        have HF : Hid (OwnDz X B0 (.slice sb es.length sk) es V ∧ IsHs X a hs ∧ Below w.heap.size w X) := ⟨Ez, hI, B7⟩
        clear Ez hI hI1 R6 B7 hbX
        go_wp2_with fail
        go_returns
        exact ⟨a, sb, cp, sk, hs, es, rfl, HLS.out.1, HLS.out.2, by omega, own_le2 HF.out.1.row, HF.out.2.1, HF.out.1.isb (fun j hj => Nat.le_trans (h4.out j hj) (by decide)), HF.out.2.2⟩
end Go.Proofs.Ytaehemmjemhgpaa
