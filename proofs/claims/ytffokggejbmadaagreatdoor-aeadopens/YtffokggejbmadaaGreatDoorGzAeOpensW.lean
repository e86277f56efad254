/-
  AeadOpens' walk.
-/
import Derived.Test.YtffokggejbmadaaGreatDoorGzAeTwin
import Derived.Test.YtffokggejbmadaaGreatDoorGzAeBook
import Derived.Test.YtffokggejbmadaaGreatDoorGzAeRefOpen
import Derived.Test.YtffokggejbmadaaGreatDoorGzChaSame
import Derived.Test.YtffokggejbmadaaGreatDoorGz6
namespace Go.Proofs.YtffokggejbmadaaGreatDoor
open Go Go.RowKit

theorem apart_three (S B : Nat) (n n0 : Nat) (c0 c1 c2 : Nat) (a0 a1 a2 : Option Addr) (V : Value) (E : Nat → Value) (N : Nat → Nat) (X : Nat → List Value) (x0 x1 x2 : List Value) (w0 W : World) (hn : n ≤ 5000000) (hn0 : n0 ≤ 5000000) (bk : Bk S B 3 3 V (upd (upd (upd E 0 (.slice a0 n c0)) 1 (.slice a1 n0 c1)) 2 (.slice a2 n0 c2)) (upd (upd (upd N 0 n) 1 n0) 2 n0) (upd (upd (upd X 0 x0) 1 x1) 2 x2) w0 W) :
    Calls Tryz.prog 14 #[.pointer (some ⟨B, 0, none⟩)] W fun e w' => e = .returned (.bool true) ∧ Below S w0 w' :=
  apart_book S B 3 V _ _ _ w0 W (by decide) (by decide) (fun i hi => by
    have : i = 0 ∨ i = 1 ∨ i = 2 := by omega
    rcases this with rfl | rfl | rfl
    · exact hn
    · exact hn0
    · exact hn0) bk
theorem great_not {k n b p : Nat} (h : greatB k n b p = false) : b + p ≤ 4194304 ∧ k + n ≤ 100000 := by
  unfold greatB at h
  simp only [Bool.or_eq_false_iff, decide_eq_false_iff_not] at h
  omega
theorem code_any (k n p b : SL) (w : World) (hg : Glob w) (hk : k.Ok w) (hn : n.Ok w) (hp : p.Ok w) (hb : b.Ok w) (_hl : p.len ≤ 140737488355328) (kb nb pb bb : List By) (ek : k.b = kb) (en : n.b = nb) (ep : p.b = pb) (eb : b.b = bb) (xs : List By) (n0 : Nat) (E : Int) (hE : openE kb nb pb bb = E) (hO : openO kb nb pb bb = xs) (h0 : xs.length = n0) :
    Calls Tryz.prog 15 #[.slice k.a k.len k.cap, .slice n.a n.len n.cap, .slice p.a p.len p.cap, .slice b.a b.len b.cap] w fun e w' => ∃ a c, e = .returned (.tuple #[.slice a n0 c, .int .i64 E]) ∧ w'.ownsRow w.heap.size 5 1 (.slice a n0 c) n0 (vb xs) ∧ Below w.heap.size w w' := by
  subst ek en ep eb hE hO h0
  exact open_any k n p b w hg hk hn hp hb _hl
theorem out_len (k n p b : List By) : (openO k n p b).length ≤ 1048592 := by
  unfold openO
  split
  · rename_i h
    rw [xorL_length]
    unfold hidO
    rw [List.length_take]
    unfold openE at h
    split at h
    · split at h
      · cases h
      · split at h
        · omega
        · cases h
    · cases h
  · exact Nat.zero_le _

set_option maxRecDepth 20000 in
set_option maxHeartbeats 4000000 in
theorem opens_walk (k n b p : SL) (w : World) (hg : Glob w) (hk : k.Ok w) (hn : n.Ok w) (hb : b.Ok w) (hp : p.Ok w) (lk : k.len ≤ 140737488355328) (ln : n.len ≤ 140737488355328) (lb : b.len ≤ 140737488355328) (lp : p.len ≤ 140737488355328) :
    Calls Tryz.prog 4 #[.agg (withC k n b), .slice p.a p.len p.cap] w fun e w' => e = .returned (.bool true) ∧ Below w.heap.size w w' := by
  obtain ⟨E, hE⟩ : ∃ E, E = openE k.b n.b p.b b.b := ⟨_, rfl⟩
  obtain ⟨xs, hxs⟩ : ∃ xs, xs = openO k.b n.b p.b b.b := ⟨_, rfl⟩
  obtain ⟨n0, hn0⟩ : ∃ n0, n0 = xs.length := ⟨_, rfl⟩
  have HN0B : Hid (n0 ≤ 1048592) := show _ ≤ _ by rw [hn0, hxs]; exact out_len _ _ _ _
  have HE := veil hE.symm
  have HXS := veil hxs.symm
  have HN0 := veil hn0.symm
  clear hE hxs hn0
  have HG := veil hg
  have HK := veil hk
  have HN := veil hn
  have HB := veil hb
  have HP := veil hp
  have HLK := veil lk
  have HLN := veil ln
  have HLB := veil lb
  have HLP := veil lp
  have hpb := hp.hb
  have hkb := hk.hb
  have hnb := hn.hb
  have hbb := hb.hb
  have hee : (E != E) = false := by simp
  clear hg hk hn hb hp lk ln lb lp
  have hz3 : (withC k n b).size = 3 := rfl
  have r0 : Row (w.alloc (.cells (withC k n b) 24)) w.heap.size 24 (withC k n b) := Row.new _ _ _
  have b0 : Below w.heap.size w (w.alloc (.cells (withC k n b) 24)) := (Below.refl _ w).alloc (Nat.le_refl _) _
  go_enter Tryz.func4, Tryz.ntmps4
  go_wp2_with (with_reducible (show wpList _ _ _ (⟨_, Op.load 24 _, _, _, _, _⟩ :: _) _ _)
               refine load_part6 rfl 24 _ rfl w.heap.size 0 rfl (withC k n b) _ Tryz.underlying24 rfl 3 (by kernel_rfl) hz3 (lock_whole r0) ?_)
  refine (great_any k n b p HLK.out HLN.out HLB.out HLP.out _).mono ?_
  rintro e1 w1 ⟨rfl, hb1⟩
  have r1 := r0.below hb1 r0.lt
  have b1 := b0.trans (hb1.mono b0.size)
  clear hb1 r0 b0
  cases hG : greatB k.len n.len b.len p.len with
  | true =>
    go_wp2_with fail
    go_ret
    exact ⟨rfl, b1⟩
  | false =>
  have HGN := veil (great_not hG)
  clear hG
  go_wp2_with (with_reducible (show wpList _ _ _ (⟨_, Op.load 24 _, _, _, _, _⟩ :: _) _ _)
               refine load_part6 rfl 24 _ rfl w.heap.size 0 rfl (withC k n b) _ Tryz.underlying24 rfl 3 (by kernel_rfl) hz3 (lock_whole r1) ?_)
  refine (lawTwin_any k n b w1 (HK.out.below b1) (HN.out.below b1) (HB.out.below b1) (by have := HGN.out; omega) (by have := HGN.out; omega) (by have := HGN.out; omega)).mono ?_
  rintro e2 w2 ⟨g1, g2, g3, rfl, t1, t2, t3, hb2⟩
  have r2 := r1.below hb2 r1.lt
  have b2 := b1.trans (hb2.mono b1.size)
  have hs2 := b2.size
  have hlr := r2.lt
  have hzt : (twinC g1 g2 g3 k n b).size = 3 := rfl
  have b3 := b2.alloc b2.size (.cells (twinC g1 g2 g3 k n b) 24)
  have r3 := r2.alloc (.cells (twinC g1 g2 g3 k n b) 24)
  have y3 : Row (w2.alloc (.cells (twinC g1 g2 g3 k n b) 24)) w2.heap.size 24 (twinC g1 g2 g3 k n b) := Row.new _ _ _
  have u1 := t1.below ((Below.refl _ w2).alloc (Nat.le_refl _) (.cells (twinC g1 g2 g3 k n b) 24))
  have u2 := t2.below ((Below.refl _ w2).alloc (Nat.le_refl _) (.cells (twinC g1 g2 g3 k n b) 24))
  have u3 := t3.below ((Below.refl _ w2).alloc (Nat.le_refl _) (.cells (twinC g1 g2 g3 k n b) 24))
  clear hb2 r1 b1 t1 t2 t3 r2 b2
  go_wp2_with (first
    | (with_reducible (show wpList _ _ _ (⟨_, Op.alloc 24, _, _, _, _⟩ :: _) _ _)
       refine alloc_row rfl 24 rfl #[.slice none 0 0, .slice none 0 0, .slice none 0 0] (by kernel_rfl) ?_)
    | (with_reducible (show wpList _ _ _ (⟨_, Op.store 24 _ _, _, _, _, _⟩ :: _) _ _)
       refine store_new (w := w2) (by rfl) 24 _ _ (by rfl) w2.heap.size (twinC g1 g2 g3 k n b) (by rfl) (by rfl) 24 #[.slice none 0 0, .slice none 0 0, .slice none 0 0] (by rfl) 3 (by kernel_rfl) (by rfl) hzt (by simp [twinC, withC, twinS, Value.oneCell']) ?_))
  obtain ⟨W3, hW3⟩ : ∃ W3, W3 = w2.alloc (.cells (twinC g1 g2 g3 k n b) 24) := ⟨_, rfl⟩
  rw [← hW3] at b3 r3 y3 u1 u2 u3 ⊢
  have hs3 := b3.size
  have hly := y3.lt
  have hlw := r3.lt
  clear hW3
  refine (twin_own p W3 (HP.out.below b3) (by have := HGN.out; omega)).mono ?_
  rintro e4 w4 ⟨gt, rfl, ht, hot, hb4⟩
  have HR4 := veil (r3.below hb4 hlw)
  have HY4 := veil (y3.below hb4 hly)
  have HU1 := veil (u1.below hb4)
  have HU2 := veil (u2.below hb4)
  have HU3 := veil (u3.below hb4)
  have HT4 := veil ht
  have HOT4 := veil hot
  have HB4 := veil (b3.trans (hb4.mono hs3))
  have hs34 := hb4.size
  have hs4 := HB4.out.size
  have hltg := hot.lt gt rfl
  clear ht hot hb4 r3 y3 u1 u2 u3 b3
  obtain ⟨x0, x1, x2⟩ := withW_cells HY4.out
  simp only [twinS] at x0 x1 x2
  go_wp2_with fail
  refine (code_any (twinS g1 k.len k.b) (twinS g2 n.len n.b) (twinS gt p.len p.b) (twinS g3 b.len b.b) w4 (HG.out.below HB4.out (Nat.le_refl _)) (HU1.out.ok hkb) (HU2.out.ok hnb) (HT4.out.ok hpb) (HU3.out.ok hbb) HLP.out _ _ _ _ rfl rfl rfl rfl xs n0 E HE.out HXS.out HN0.out).mono ?_
  rintro e5 w5 ⟨a1, c1, rfl, ho1, hb5⟩
  have HR5 := veil (HR4.out.below hb5 HR4.out.lt)
  have HY5 := veil (HY4.out.below hb5 HY4.out.lt)
  have HV1 := veil (HU1.out.below hb5)
  have HV2 := veil (HU2.out.below hb5)
  have HV3 := veil (HU3.out.below hb5)
  have HT5 := veil (HT4.out.below hb5)
  have HOT5 := veil (own_below HOT4.out hb5)
  have HO15 := veil ho1
  have HB5 := veil (HB4.out.trans (hb5.mono hs4))
  have hs45 := hb5.size
  have hs5 := HB5.out.size
  clear ho1 hb5 HR4 HY4 HU1 HU2 HU3 HT4 HOT4 HB4 x0 x1 x2
  obtain ⟨x0, x1, x2⟩ := withW_cells HY5.out
  simp only [twinS] at x0 x1 x2
  go_wp2_with fail
  refine (code_any (twinS g1 k.len k.b) (twinS g2 n.len n.b) (twinS gt p.len p.b) (twinS g3 b.len b.b) w5 (HG.out.below HB5.out (Nat.le_refl _)) (HV1.out.ok hkb) (HV2.out.ok hnb) (HT5.out.ok hpb) (HV3.out.ok hbb) HLP.out _ _ _ _ rfl rfl rfl rfl xs n0 E HE.out HXS.out HN0.out).mono ?_
  rintro e6 w6 ⟨a2, c2, rfl, ho2, hb6⟩
  have HTY : Hid ((Value.slice (some ⟨gt, 0, none⟩) p.len (p.len + 1)).ownBlock ≠ (Value.slice a1 n0 c1).ownBlock) := show _ ≠ _ from fun e => by
    have := (HO15.out.lt gt e.symm).1
    omega
  have HTZ : Hid ((Value.slice (some ⟨gt, 0, none⟩) p.len (p.len + 1)).ownBlock ≠ (Value.slice a2 n0 c2).ownBlock) := show _ ≠ _ from fun e => by
    have := (ho2.lt gt e.symm).1
    omega
  have HYZ : Hid ((Value.slice a1 n0 c1).ownBlock = none ∨ (Value.slice a1 n0 c1).ownBlock ≠ (Value.slice a2 n0 c2).ownBlock) := by
    cases e : (Value.slice a1 n0 c1).ownBlock with
    | none => exact .inl rfl
    | some z =>
      right
      intro e2
      have := (HO15.out.lt z e).2
      have := (ho2.lt z e2.symm).1
      omega
  have HR6 := veil (HR5.out.below hb6 HR5.out.lt)
  have HY6 := veil (HY5.out.below hb6 HY5.out.lt)
  have HU1 := veil (HV1.out.below hb6)
  have HU2 := veil (HV2.out.below hb6)
  have HU3 := veil (HV3.out.below hb6)
  have HT6 := veil (HT5.out.below hb6)
  have HOT6 := veil (own_below HOT5.out hb6)
  have HO16 := veil (own_below HO15.out hb6)
  have HO26 := veil ho2
  have HB6 := veil (HB5.out.trans (hb6.mono hs5))
  have hs56 := hb6.size
  have hs6 := HB6.out.size
  clear ho2 hb6 HR5 HY5 HV1 HV2 HV3 HT5 HOT5 HO15 HB5 x0 x1 x2
  obtain ⟨x0, x1, x2⟩ := withW_cells HR6.out
  go_wp2_with fail
  refine (refOpen_any k n p b w6 (HK.out.below HB6.out) (HN.out.below HB6.out) (HP.out.below HB6.out) (HB.out.below HB6.out) HLP.out).mono ?_
  rintro e7 w7 ⟨s, rfl, hs, hsb, hb7⟩
  rw [HE.out]
  have HR7 := veil (HR6.out.below hb7 HR6.out.lt)
  have HY7 := veil (HY6.out.below hb7 HY6.out.lt)
  have HV1 := veil (HU1.out.below hb7)
  have HV2 := veil (HU2.out.below hb7)
  have HV3 := veil (HU3.out.below hb7)
  have HT7 := veil (HT6.out.below hb7)
  have HOT7 := veil (own_below HOT6.out hb7)
  have HO17 := veil (own_below HO16.out hb7)
  have HO27 := veil (own_below HO26.out hb7)
  have HB7 := veil (HB6.out.trans (hb7.mono hs6))
  have hs67 := hb7.size
  have hs7 := HB7.out.size
  have hlr7 := HR7.out.lt
  have hly7 := HY7.out.lt
  rw [HXS.out] at hsb
  have HS1 : Hid (∀ W, Below w7.heap.size w7 W → Calls Tryz.prog 10 #[.slice a1 n0 c1, .slice s.a s.len s.cap] W fun e w' => e = .returned (.bool true) ∧ Below W.heap.size W w') := fun W hW => by
    obtain ⟨s1, hv1, hl1, hsb1, hok1, _⟩ := SL.of_own HO17.out
    have hv' : (.slice a1 n0 c1 : Value) = .slice s1.a s1.len s1.cap := hv1.symm
    rw [hv']
    exact same_sl s1 s W (hok1.below hW) (hs.below hW) (by rw [hsb1, hsb]) (by have := HN0B.out; omega)
  have HS2 : Hid (∀ W, Below w7.heap.size w7 W → Calls Tryz.prog 10 #[.slice a2 n0 c2, .slice s.a s.len s.cap] W fun e w' => e = .returned (.bool true) ∧ Below W.heap.size W w') := fun W hW => by
    obtain ⟨s1, hv1, hl1, hsb1, hok1, _⟩ := SL.of_own HO27.out
    have hv' : (.slice a2 n0 c2 : Value) = .slice s1.a s1.len s1.cap := hv1.symm
    rw [hv']
    exact same_sl s1 s W (hok1.below hW) (hs.below hW) (by rw [hsb1, hsb]) (by have := HN0B.out; omega)
  clear hb7 hs hsb HR6 HY6 HU1 HU2 HU3 HT6 HOT6 HO16 HO26 HB6 x0 x1 x2
  go_wp2_with fail
  refine (HS1.out w7 (Below.refl _ _)).mono ?_
  rintro e8 w8 ⟨rfl, hb8⟩
  go_wp2_with fail
  refine (HS2.out w8 hb8).mono ?_
  rintro e9 w9 ⟨rfl, hb9⟩
  have hb79 := hb8.trans (hb9.mono hb8.size)
  have HB79 := veil hb79
  have hs79 := hb79.size
  have y9 := HY7.out.below hb79 hly7
  have r9 := HR7.out.below hb79 hlr7
  clear hb8 hb9 HS1 HS2 hb79
  go_wp2_with (first
    | (with_reducible (show wpList _ _ _ (⟨some 70, Op.load 24 _, _, _, _, _⟩ :: _) _ _)
       refine value_G (by rfl) (.agg (twinC g1 g2 g3 k n b)) (run_mid 24 _ w2.heap.size 0 (twinC g1 g2 g3 k n b) _ rfl rfl Tryz.underlying24 rfl (by rw [hzt]; kernel_rfl) _ (lock_whole y9)) ?_)
    | (with_reducible (show wpList _ _ _ (⟨some 71, Op.load 24 _, _, _, _, _⟩ :: _) _ _)
       refine value_G (by rfl) (.agg (withC k n b)) (run_mid 24 _ w.heap.size 0 (withC k n b) _ rfl rfl Tryz.underlying24 rfl (by rw [hz3]; kernel_rfl) _ (lock_whole r9)) ?_))
  have bw9 := HB7.out.trans (HB79.out.mono hs7)
  refine (lawLeft_any g1 g2 g3 k n b w9 (HK.out.below bw9) (HN.out.below bw9) (HB.out.below bw9) (by have := HGN.out; omega) (by have := HGN.out; omega) (by have := HGN.out; omega) (HV1.out.below HB79.out) (HV2.out.below HB79.out) (HV3.out.below HB79.out)).mono ?_
  rintro e10 w10 ⟨rfl, hb10⟩
  have hb710 := HB79.out.trans (hb10.mono hs79)
  have HB710 := veil hb710
  have hs710 := hb710.size
  have bw10 := HB7.out.trans (hb710.mono hs7)
  clear hb10 hb710 y9 r9 bw9
  go_wp2_with fail
  refine (left_sl p gt w10 (HP.out.below bw10) (by have := HGN.out; omega) (HT7.out.below HB710.out)).mono ?_
  rintro e11 w11 ⟨rfl, hb11⟩
  have hb59 := HB710.out.trans (hb11.mono hs710)
  have HP0 := veil (own_low (own_below HOT7.out hb59) (show w.heap.size ≤ _ from hs3))
  have HP1 := veil (own_low (own_below HO17.out hb59) (show w.heap.size ≤ _ from hs4))
  have HP2 := veil (own_low (own_below HO27.out hb59) (show w.heap.size ≤ _ from hs5))
  have HB9 := veil (HB7.out.trans (hb59.mono hs7))
  clear hb11 hb59 HB79 HB710 HOT7 HO17 HO27 HB7 HT7 HV1 HV2 HV3 HR7 HY7 bw10
  go_wp2_with fail
  have HBk := Bk.new w.heap.size (fun _ => .slice none 0 0) (fun _ => 0) (fun _ => []) w w11 HB9.out.size HB9.out 46
  refine (bytes_any w.heap.size w11.heap.size 0 _ _ _ _ w _ (.slice (some ⟨gt, 0, none⟩) p.len (p.len + 1)) p.len _ (by decide) HBk (HP0.out.alloc _) (fun z e => (HP0.out.lt z e).2) (fun i hi => absurd hi (Nat.not_lt_zero _))).mono ?_
  rintro e12 w12 ⟨rfl, V6, bk6, hold6⟩
  have HK6 := veil bk6
  have HP16 := veil (hold6 _ _ _ (HP1.out.alloc _) (fun z e => (HP1.out.lt z e).2))
  have HP26 := veil (hold6 _ _ _ (HP2.out.alloc _) (fun z e => (HP2.out.lt z e).2))
  have HA1 : ∀ i, i < 1 → (upd (fun _ => Value.slice none 0 0) 0 (Value.slice (some ⟨gt, 0, none⟩) p.len (p.len + 1)) i).ownBlock = none ∨ (upd (fun _ => Value.slice none 0 0) 0 (Value.slice (some ⟨gt, 0, none⟩) p.len (p.len + 1)) i).ownBlock ≠ (Value.slice a1 n0 c1).ownBlock := by
    intro i hi
    obtain rfl : i = 0 := Nat.lt_one_iff.1 hi
    exact .inr HTY.out
  clear HBk bk6 hold6
  go_wp2_with fail
  refine (bytes_any w.heap.size w11.heap.size 1 _ _ _ _ w _ (.slice a1 n0 c1) n0 _ (by decide) HK6.out HP16.out (fun z e => (HP1.out.lt z e).2) (fun i hi => HA1 i hi)).mono ?_
  rintro e13 w13 ⟨rfl, V7, bk7, hold7⟩
  have HK7 := veil bk7
  have HP27 := veil (hold7 _ _ _ HP26.out (fun z e => (HP2.out.lt z e).2))
  have HA2 : ∀ i, i < 2 → (upd (upd (fun _ => Value.slice none 0 0) 0 (Value.slice (some ⟨gt, 0, none⟩) p.len (p.len + 1))) 1 (Value.slice a1 n0 c1) i).ownBlock = none ∨ (upd (upd (fun _ => Value.slice none 0 0) 0 (Value.slice (some ⟨gt, 0, none⟩) p.len (p.len + 1))) 1 (Value.slice a1 n0 c1) i).ownBlock ≠ (Value.slice a2 n0 c2).ownBlock := by
    intro i hi
    have : i = 0 ∨ i = 1 := by omega
    rcases this with rfl | rfl
    · exact .inr HTZ.out
    · exact HYZ.out
  clear bk7 hold7 HK6 HP26 HP16
  go_wp2_with fail
  refine (bytes_any w.heap.size w11.heap.size 2 _ _ _ _ w _ (.slice a2 n0 c2) n0 _ (by decide) HK7.out HP27.out (fun z e => (HP2.out.lt z e).2) (fun i hi => HA2 i hi)).mono ?_
  rintro e14 w14 ⟨rfl, V8, bk8, hold8⟩
  have HK8 := veil bk8
  clear bk8 hold8 HK7 HP27
  go_wp2_with fail
  refine (apart_three w.heap.size w11.heap.size p.len n0 (p.len + 1) c1 c2 (some ⟨gt, 0, none⟩) a1 a2 _ _ _ _ _ _ _ w w14 (by have := HGN.out; omega) (by have := HN0B.out; omega) HK8.out).mono ?_
  rintro e15 w15 ⟨rfl, hb15⟩
  go_wp2_with fail
  go_ret
  exact ⟨rfl, hb15⟩
end Go.Proofs.YtffokggejbmadaaGreatDoor
