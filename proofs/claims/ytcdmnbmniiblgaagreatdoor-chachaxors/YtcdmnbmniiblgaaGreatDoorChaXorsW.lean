/-
  ChachaXors' walk.
-/
import Derived.Test.YtcdmnbmniiblgaaGreatDoorChaTwinO
import Derived.Test.YtcdmnbmniiblgaaGreatDoorChaBook
import Derived.Test.YtcdmnbmniiblgaaGreatDoorChaRefXor
import Derived.Test.YtcdmnbmniiblgaaGreatDoorChaSame
import Derived.Test.YtcdmnbmniiblgaaGreatDoorChaFrom
namespace Go.Proofs.YtcdmnbmniiblgaaGreatDoor
open Go Go.RowKit

theorem load_part (P : Program) {ops : Array Oper} {rest : List Oper} {o : Oper} {a : Act} {w : World} {Q : Exit → Act → World → Prop} (hgd : o.guard = none) (ty : TypeId) (x : Operand) (ho : o.op = .load ty x) (g off : Nat) (hx : a.eval x = .pointer (some ⟨g, off, none⟩)) (cs : Array Value) (d : TypeDesc) (hu : P.underlying ty = some d) (hd : d.isRow = true) (n : Nat) (hi : (P.info? ty).map (·.size) = some n) (hn : cs.size = n) (hc : w.rangeAt g off cs.toList)
    (h : wpList P ops Q rest (a.put o.dst (.agg cs)) w) : wpList P ops Q (o :: rest) a w :=
  wpList_plain hgd fun _ hK => by unfold Oper.wp; rw [run_mid ty x g off cs d ho hx hu hd (by rw [hn]; exact hi) w hc, Oper.upon_value]; exact hK _ _ h

theorem xors_cases (key : List By) (count : Wd) (nonce : List By) (hk : key.length = 32) (hn : nonce.length = 12) (bb : List By) (L : Nat) (hL : L ≤ 140737488355328) (hbb : bb.length = L) : ∃ (xs : List By) (n0 : Nat) (E : Int), n0 ≤ 1048576 ∧ xs.length = n0 ∧
    (∀ (s : SL) (w : World), s.Ok w → s.b = bb → s.len = L → Glob w → Calls Tryz.prog 5 #[.agg (bs key), .int .u32 (u count), .agg (bs nonce), .slice s.a s.len s.cap] w fun e w' => ∃ a c, e = .returned (.tuple #[.slice a n0 c, .int .i64 E]) ∧ w'.ownsRow w.heap.size 5 1 (.slice a n0 c) n0 (vb xs) ∧ Below w.heap.size w w') ∧
    (∀ (s : SL) (w : World), s.Ok w → s.b = bb → s.len = L → Calls Tryz.prog 6 #[.agg (bs key), .int .u32 (u count), .agg (bs nonce), .slice s.a s.len s.cap] w fun e w' => ∃ q : SL, e = .returned (.tuple #[.slice q.a q.len q.cap, .int .i64 E]) ∧ q.Ok w' ∧ q.b = xs ∧ Below w.heap.size w w') := by
  by_cases h : Great count L
  · refine ⟨[], 0, 3, by omega, rfl, fun s w hs h1 h2 hg => ?_, fun s w hs h1 h2 => ?_⟩
    · subst h2
      exact (xor_limit key count nonce s w h).mono fun e w' ⟨a1, a2⟩ => ⟨none, 0, a1, World.ownsRow_nil _ _ _ _, a2⟩
    · subst h2
      exact (refXor_limit key count nonce s w hL h).mono fun e w' ⟨a1, a2⟩ => ⟨⟨none, 0, 0, 0, 0, []⟩, a1, ⟨rfl, Nat.le_refl _, fun _ => ⟨rfl, rfl⟩, fun h => absurd h (Nat.lt_irrefl _), fun h => absurd h (Nat.lt_irrefl _), fun _ h => absurd h (Nat.not_lt_zero _)⟩, rfl, a2⟩
  · have hL1 : L ≤ 1048576 := by unfold Great at h; omega
    refine ⟨xorL key count nonce bb, L, 0, hL1, by rw [xorL_length, hbb], fun s w hs h1 h2 hg => ?_, fun s w hs h1 h2 => ?_⟩
    · subst h1 h2
      exact (xor_ok key count nonce hk hn s w hg hs hL1 (by unfold Great at h; omega)).mono fun e w' ⟨g, a1, a2, a3⟩ => ⟨_, _, a1, a2, a3⟩
    · subst h1 h2
      exact (refXor_ok key count nonce hk hn s w hs h).mono fun e w' ⟨v, a1, a2, a3⟩ => by
        obtain ⟨q, hv, _, hb, hok, _⟩ := SL.of_own a2
        exact ⟨q, by rw [a1, ← hv]; rfl, hok, hb, a3⟩

theorem apart_three (S B : Nat) (n n0 : Nat) (c0 c1 c2 : Nat) (a0 a1 a2 : Option Addr) (V : Value) (E : Nat → Value) (N : Nat → Nat) (X : Nat → List Value) (x0 x1 x2 : List Value) (w0 W : World) (hn : n ≤ 3000000) (hn0 : n0 ≤ 3000000) (bk : Bk S B 3 3 V (upd (upd (upd E 0 (.slice a0 n c0)) 1 (.slice a1 n0 c1)) 2 (.slice a2 n0 c2)) (upd (upd (upd N 0 n) 1 n0) 2 n0) (upd (upd (upd X 0 x0) 1 x1) 2 x2) w0 W) :
    Calls Tryz.prog 10 #[.pointer (some ⟨B, 0, none⟩)] W fun e w' => e = .returned (.bool true) ∧ Below S w0 w' :=
  apart_book S B 3 V _ _ _ w0 W (by decide) (by decide) (fun i hi => by
    have : i = 0 ∨ i = 1 ∨ i = 2 := by omega
    rcases this with rfl | rfl | rfl
    · exact hn
    · exact hn0
    · exact hn0) bk

set_option maxRecDepth 20000 in
set_option maxHeartbeats 4000000 in
theorem xors_walk (key : List By) (count : Wd) (nonce : List By) (hk : key.length = 32) (hn : nonce.length = 12) (b : SL) (w : World) (hg : Glob w) (hb : b.Ok w) (hl : b.len ≤ 140737488355328) :
    Calls Tryz.prog 3 #[.agg (fromC key count nonce), .slice b.a b.len b.cap] w fun e w' => e = .returned (.bool true) ∧ Below w.heap.size w w' := by
  obtain ⟨xs, n0, E, hx, hxl, hX, hR⟩ := xors_cases key count nonce hk hn b.b b.len hl hb.hb
  have HX := veil hX
  have HR := veil hR
  have HK := veil hk
  have HG := veil hg
  have HB := veil hb
  have hbb := hb.hb
  have hkz : (bs key).size = 32 := by rw [bs_size, hk]
  have hnz : (bs nonce).size = 12 := by rw [bs_size, hn]
  have hee : (E != E) = false := by simp
  clear hX hR hk hn hg hb
  have r0 : Row (w.alloc (.cells (fromC key count nonce) 26)) w.heap.size 26 (fromC key count nonce) := Row.new _ _ _
  have b0 : Below w.heap.size w (w.alloc (.cells (fromC key count nonce) 26)) := (Below.refl _ w).alloc (Nat.le_refl _) _
  have hs0 := b0.size
  go_enter Tryz.func3, Tryz.ntmps3
  by_cases hbig : (2097152 : Int) < (b.len : Int)
  · go_wp2_with fail
    go_ret
    exact ⟨rfl, b0⟩
  have hd : decide ((2097152 : Int) < (b.len : Int)) = false := by rw [decide_eq_false_iff_not]; exact hbig
  go_wp2_with fail
  refine (twin_own b _ (HB.out.below b0) (by omega)).mono ?_
  rintro e1 w1 ⟨gt, rfl, ht, hot, hb1⟩
  have RF := veil (r0.below hb1 r0.lt)
  have B1 := veil (b0.trans (hb1.mono hs0))
  have BO1 := veil (HB.out.below B1.out)
  have TW1 := veil ht
  have OT1 := veil hot
  have hgt := (hot.lt gt rfl)
  have hs1 := B1.out.size
  clear ht hot hb1 r0 b0
  have c32 := from_count RF.out HK.out
  go_wp2_with (first
    | (with_reducible (show wpList _ _ _ (⟨_, Op.load 22 _, _, _, _, _⟩ :: _) _ _)
       refine load_part _ rfl 22 _ rfl w.heap.size 0 rfl (bs key) _ Tryz.underlying22 rfl 32 (by kernel_rfl) hkz (from_key RF.out) ?_)
    | (with_reducible (show wpList _ _ _ (⟨_, Op.load 24 _, _, _, _, _⟩ :: _) _ _)
       refine load_part _ rfl 24 _ rfl w.heap.size 33 rfl (bs nonce) _ Tryz.underlying24 rfl 12 (by kernel_rfl) hnz (from_nonce RF.out HK.out) ?_))
  refine (HX.out (twinS gt b.len b.b) w1 (TW1.out.ok hbb) rfl rfl (HG.out.below B1.out (Nat.le_refl _))).mono ?_
  rintro e2 w2 ⟨a1, c1, rfl, ho1, hb2⟩
  have RF2 := veil (RF.out.below hb2 RF.out.lt)
  have B2 := veil (B1.out.trans (hb2.mono hs1))
  have TW2 := veil (TW1.out.below hb2)
  have OT2 := veil (own_below OT1.out hb2)
  have O12 := veil ho1
  have hs2 := hb2.size
  clear ho1 hb2 c32 RF B1 TW1 OT1 BO1
  have RF := RF2
  clear RF2
  have c32 := from_count RF.out HK.out
  go_wp2_with (first
    | (with_reducible (show wpList _ _ _ (⟨_, Op.load 22 _, _, _, _, _⟩ :: _) _ _)
       refine load_part _ rfl 22 _ rfl w.heap.size 0 rfl (bs key) _ Tryz.underlying22 rfl 32 (by kernel_rfl) hkz (from_key RF.out) ?_)
    | (with_reducible (show wpList _ _ _ (⟨_, Op.load 24 _, _, _, _, _⟩ :: _) _ _)
       refine load_part _ rfl 24 _ rfl w.heap.size 33 rfl (bs nonce) _ Tryz.underlying24 rfl 12 (by kernel_rfl) hnz (from_nonce RF.out HK.out) ?_))
  refine (HX.out (twinS gt b.len b.b) w2 (TW2.out.ok hbb) rfl rfl (HG.out.below B2.out (Nat.le_refl _))).mono ?_
  rintro e3 w3 ⟨a2, c2, rfl, ho2, hb3⟩
  have RF3 := veil (RF.out.below hb3 RF.out.lt)
  have B3 := veil (B2.out.trans (hb3.mono (by omega)))
  have BO3 := veil (HB.out.below B3.out)
  have TW3 := veil (TW2.out.below hb3)
  have OT3 := veil (own_below OT2.out hb3)
  have O13 := veil (own_below O12.out hb3)
  have O23 := veil ho2
  have hs3 := hb3.size
  have HTY : Hid ((Value.slice (some ⟨gt, 0, none⟩) b.len (b.len + 1)).ownBlock ≠ (Value.slice a1 n0 c1).ownBlock) := show _ ≠ _ from fun e => by
    have := (O12.out.lt gt e.symm).1
    omega
  have HTZ : Hid ((Value.slice (some ⟨gt, 0, none⟩) b.len (b.len + 1)).ownBlock ≠ (Value.slice a2 n0 c2).ownBlock) := show _ ≠ _ from fun e => by
    have := (ho2.lt gt e.symm).1
    omega
  have HYZ : Hid ((Value.slice a1 n0 c1).ownBlock = none ∨ (Value.slice a1 n0 c1).ownBlock ≠ (Value.slice a2 n0 c2).ownBlock) := by
    cases e : (Value.slice a1 n0 c1).ownBlock with
    | none => exact .inl rfl
    | some z =>
      right
      intro e2
      have := (O12.out.lt z e).2
      have := (ho2.lt z e2.symm).1
      omega
  clear ho2 hb3 c32 RF B2 TW2 OT2 O12
  have RF := RF3
  clear RF3
  have c32 := from_count RF.out HK.out
  go_wp2_with (first
    | (with_reducible (show wpList _ _ _ (⟨_, Op.load 22 _, _, _, _, _⟩ :: _) _ _)
       refine load_part _ rfl 22 _ rfl w.heap.size 0 rfl (bs key) _ Tryz.underlying22 rfl 32 (by kernel_rfl) hkz (from_key RF.out) ?_)
    | (with_reducible (show wpList _ _ _ (⟨_, Op.load 24 _, _, _, _, _⟩ :: _) _ _)
       refine load_part _ rfl 24 _ rfl w.heap.size 33 rfl (bs nonce) _ Tryz.underlying24 rfl 12 (by kernel_rfl) hnz (from_nonce RF.out HK.out) ?_))
  refine (HR.out b w3 BO3.out rfl rfl).mono ?_
  rintro e5 w5 ⟨s, rfl, hs, hsb, hb5⟩
  have B5 := veil (B3.out.trans (hb5.mono (by omega)))
  have BO5 := veil (BO3.out.below hb5)
  have TW5 := veil (TW3.out.below hb5)
  have OT5 := veil (own_below OT3.out hb5)
  have O15 := veil (own_below O13.out hb5)
  have O25 := veil (own_below O23.out hb5)
  have hs5 := hb5.size
  have HS1 : Hid (∀ W, Below w5.heap.size w5 W → Calls Tryz.prog 7 #[.slice a1 n0 c1, .slice s.a s.len s.cap] W fun e w' => e = .returned (.bool true) ∧ Below W.heap.size W w') := fun W hW => by
    obtain ⟨s1, hv1, hl1, hsb1, hok1, _⟩ := SL.of_own O15.out
    have hv' : (.slice a1 n0 c1 : Value) = .slice s1.a s1.len s1.cap := hv1.symm
    rw [hv']
    exact same_sl s1 s W (hok1.below hW) (hs.below hW) (by rw [hsb1, hsb]) (by omega)
  have HS2 : Hid (∀ W, Below w5.heap.size w5 W → Calls Tryz.prog 7 #[.slice a2 n0 c2, .slice s.a s.len s.cap] W fun e w' => e = .returned (.bool true) ∧ Below W.heap.size W w') := fun W hW => by
    obtain ⟨s1, hv1, hl1, hsb1, hok1, _⟩ := SL.of_own O25.out
    have hv' : (.slice a2 n0 c2 : Value) = .slice s1.a s1.len s1.cap := hv1.symm
    rw [hv']
    exact same_sl s1 s W (hok1.below hW) (hs.below hW) (by rw [hsb1, hsb]) (by omega)
  clear hb5 hs hsb c32 RF B3 BO3 TW3 OT3 O13 O23
  go_wp2_with fail
  refine (HS1.out w5 (Below.refl _ _)).mono ?_
  rintro e6 w6 ⟨rfl, hb6⟩
  go_wp2_with fail
  refine (HS2.out w6 hb6).mono ?_
  rintro e7 w7 ⟨rfl, hb7⟩
  have hb57 := hb6.trans (hb7.mono hb6.size)
  have HB57 := veil hb57
  clear hb6 hb7 HS1 HS2
  have hs57 := hb57.size
  clear hb57
  go_wp2_with fail
  refine (left_sl b gt w7 (BO5.out.below HB57.out) (by omega) (TW5.out.below HB57.out)).mono ?_
  rintro e9 w9 ⟨rfl, hb9⟩
  have hb59 := HB57.out.trans (hb9.mono hs57)
  have HP0 := veil (own_low (own_below OT5.out hb59) (show w.heap.size ≤ _ by simp))
  have HP1 := veil (own_low (own_below O15.out hb59) (show w.heap.size ≤ w1.heap.size by omega))
  have HP2 := veil (own_low (own_below O25.out hb59) (show w.heap.size ≤ w2.heap.size by omega))
  have HB9 := veil (B5.out.trans (hb59.mono (by omega)))
  clear hb9 hb59 HB57 OT5 O15 O25 B5 BO5 TW5
  go_wp2_with fail
  have HBk := Bk.new w.heap.size (fun _ => .slice none 0 0) (fun _ => 0) (fun _ => []) w w9 HB9.out.size HB9.out 46
  refine (bytes_any w.heap.size w9.heap.size 0 _ _ _ _ w _ (.slice (some ⟨gt, 0, none⟩) b.len (b.len + 1)) b.len _ (by decide) HBk (HP0.out.alloc _) (fun z e => (HP0.out.lt z e).2) (fun i hi => absurd hi (Nat.not_lt_zero _))).mono ?_
  rintro e10 w10 ⟨rfl, V6, bk6, hold6⟩
  have HK6 := veil bk6
  have HP16 := veil (hold6 _ _ _ (HP1.out.alloc _) (fun z e => (HP1.out.lt z e).2))
  have HP26 := veil (hold6 _ _ _ (HP2.out.alloc _) (fun z e => (HP2.out.lt z e).2))
  have HA1 : ∀ i, i < 1 → (upd (fun _ => Value.slice none 0 0) 0 (Value.slice (some ⟨gt, 0, none⟩) b.len (b.len + 1)) i).ownBlock = none ∨ (upd (fun _ => Value.slice none 0 0) 0 (Value.slice (some ⟨gt, 0, none⟩) b.len (b.len + 1)) i).ownBlock ≠ (Value.slice a1 n0 c1).ownBlock := by
    intro i hi
    obtain rfl : i = 0 := Nat.lt_one_iff.1 hi
    exact .inr HTY.out
  clear HBk bk6 hold6
  go_wp2_with fail
  refine (bytes_any w.heap.size w9.heap.size 1 _ _ _ _ w _ (.slice a1 n0 c1) n0 _ (by decide) HK6.out HP16.out (fun z e => (HP1.out.lt z e).2) (fun i hi => HA1 i hi)).mono ?_
  rintro e11 w11 ⟨rfl, V7, bk7, hold7⟩
  have HK7 := veil bk7
  have HP27 := veil (hold7 _ _ _ HP26.out (fun z e => (HP2.out.lt z e).2))
  have HA2 : ∀ i, i < 2 → (upd (upd (fun _ => Value.slice none 0 0) 0 (Value.slice (some ⟨gt, 0, none⟩) b.len (b.len + 1))) 1 (Value.slice a1 n0 c1) i).ownBlock = none ∨ (upd (upd (fun _ => Value.slice none 0 0) 0 (Value.slice (some ⟨gt, 0, none⟩) b.len (b.len + 1))) 1 (Value.slice a1 n0 c1) i).ownBlock ≠ (Value.slice a2 n0 c2).ownBlock := by
    intro i hi
    have : i = 0 ∨ i = 1 := by omega
    rcases this with rfl | rfl
    · exact .inr HTZ.out
    · exact HYZ.out
  clear bk7 hold7 HK6 HP26 HP16
  go_wp2_with fail
  refine (bytes_any w.heap.size w9.heap.size 2 _ _ _ _ w _ (.slice a2 n0 c2) n0 _ (by decide) HK7.out HP27.out (fun z e => (HP2.out.lt z e).2) (fun i hi => HA2 i hi)).mono ?_
  rintro e12 w12 ⟨rfl, V8, bk8, hold8⟩
  have HK8 := veil bk8
  clear bk8 hold8 HK7 HP27
  go_wp2_with fail
  refine (apart_three w.heap.size w9.heap.size b.len n0 (b.len + 1) c1 c2 (some ⟨gt, 0, none⟩) a1 a2 _ _ _ _ _ _ _ w w12 (by omega) (by omega) HK8.out).mono ?_
  rintro e13 w13 ⟨rfl, hb13⟩
  go_wp2_with fail
  go_ret
  exact ⟨rfl, hb13⟩
end Go.Proofs.YtcdmnbmniiblgaaGreatDoor
