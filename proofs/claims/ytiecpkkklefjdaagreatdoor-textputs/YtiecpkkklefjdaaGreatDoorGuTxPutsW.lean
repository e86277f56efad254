/-
  TextPuts, walked. Written by mktxputs.py.
-/
import Derived.Test.YtiecpkkklefjdaaGreatDoorGuTxRefPut
import Derived.Test.YtiecpkkklefjdaaGreatDoorGuHfBook
namespace Go.Proofs.YtiecpkkklefjdaaGreatDoor
open Go Go.RowKit

theorem SL.of_wide {w : World} {B n : Nat} {a : Option Addr} {c : Nat} {b : List By} (h : RowW w B 5 1 (.slice a n c) n (vb b)) : ∃ s : SL, s.a = a ∧ s.len = n ∧ s.cap = c ∧ s.b = b ∧ s.Ok w := by
  have hl : b.length = n := by have := h.1; rw [vb_length] at this; omega
  rcases h.2 with ⟨e, rfl⟩ | ⟨g, cap, cur, e, hg, hh, hn, _, _, _⟩
  · injection e with e1 e2 e3
    subst e1 e3
    exact ⟨⟨none, 0, 0, 0, 0, b⟩, rfl, rfl, rfl, rfl, ⟨hl, Nat.le_refl _, fun _ => ⟨rfl, rfl⟩, fun h => absurd h (Nat.lt_irrefl _), fun h => absurd h (Nat.lt_irrefl _), fun _ h => absurd h (Nat.not_lt_zero _)⟩⟩
  · injection e with e1 e2 e3
    subst e1 e3
    refine ⟨⟨some ⟨g, 0, none⟩, n, c, g, 0, b⟩, rfl, rfl, rfl, rfl, ⟨hl, hn, (fun e => by cases e), fun _ => rfl, fun _ => (Array.getElem?_eq_some_iff.1 hh).1, fun j hj => ?_⟩⟩
    have hj' : j < n := hj
    show w.cell? ⟨g, 0 + j, none⟩ = _
    rw [Nat.zero_add, h.cellAt j (by omega), vb_get _ _ (by omega)]
/-- What both puts answer, whatever is put. -/
theorem xputs_cases (first B : Int) (s : ByteArray) (f0 : 0 ≤ first) (f1 : first ≤ 255) (hs : s.size ≤ 1048576) : ∃ (b : List By) (E : Int), b.length ≤ 1000000 ∧
    (∀ w : World, Calls Tryz.prog 5 #[.int .u8 first, .int .i64 B, .string s] w fun e w' => ∃ a c, e = .returned (.tuple #[.slice a b.length c, .int .i64 E]) ∧ RowW w' w.heap.size 5 1 (.slice a b.length c) b.length (vb b) ∧ Below w.heap.size w w') ∧
    (∀ w : World, Calls Tryz.prog 6 #[.int .u8 first, .int .i64 B, .string s] w fun e w' => ∃ q : SL, e = .returned (.tuple #[.slice q.a q.len q.cap, .int .i64 E]) ∧ q.Ok w' ∧ q.b = b ∧ Below w.heap.size w w') := by
  have no : ∀ E : Int, (∀ w : World, Calls Tryz.prog 5 #[.int .u8 first, .int .i64 B, .string s] w fun e w' => e = .returned (.tuple #[.slice none 0 0, .int .i64 E]) ∧ Below w.heap.size w w') →
      (∀ w : World, Calls Tryz.prog 6 #[.int .u8 first, .int .i64 B, .string s] w fun e w' => e = .returned (.tuple #[.slice none 0 0, .int .i64 E]) ∧ Below w.heap.size w w') → ∃ (b : List By) (E : Int), b.length ≤ 1000000 ∧
    (∀ w : World, Calls Tryz.prog 5 #[.int .u8 first, .int .i64 B, .string s] w fun e w' => ∃ a c, e = .returned (.tuple #[.slice a b.length c, .int .i64 E]) ∧ RowW w' w.heap.size 5 1 (.slice a b.length c) b.length (vb b) ∧ Below w.heap.size w w') ∧
    (∀ w : World, Calls Tryz.prog 6 #[.int .u8 first, .int .i64 B, .string s] w fun e w' => ∃ q : SL, e = .returned (.tuple #[.slice q.a q.len q.cap, .int .i64 E]) ∧ q.Ok w' ∧ q.b = b ∧ Below w.heap.size w w') := fun E h1 h2 => by
    refine ⟨[], E, by simp, fun w => ?_, fun w => ?_⟩
    · exact (h1 w).mono fun e w' ⟨a1, a2⟩ => ⟨none, 0, a1, RowW.of_own (World.ownsRow_nil _ _ _ _), a2⟩
    · exact (h2 w).mono fun e w' ⟨a1, a2⟩ => ⟨⟨none, 0, 0, 0, 0, []⟩, a1, ⟨rfl, Nat.le_refl _, fun _ => ⟨rfl, rfl⟩, fun h => absurd h (Nat.lt_irrefl _), fun h => absurd h (Nat.lt_irrefl _), fun _ h => absurd h (Nat.not_lt_zero _)⟩, rfl, a2⟩
  by_cases hb : 2 ≤ B ∧ B ≤ 8
  · obtain ⟨M, hM⟩ := Tx.Bt.of B hb.1 hb.2
    by_cases hf : first % (2 * M + 2) = 0
    · by_cases hl : s.size ≤ 65536
      · have hfour := Tx.put_four hM first (s := bOf s) (by rw [bOf_length]; exact hl)
        rw [bOf_length] at hfour
        refine ⟨Tx.putX first M (bOf s), 0, by omega, fun w => ?_, fun w => ?_⟩
        · refine (xput_any first B M s w hM f0 f1 hf hl).mono ?_
          rintro e w' ⟨v, rfl, ho, hb⟩
          obtain ⟨a, c, rfl⟩ := own_ptr ho
          exact ⟨a, c, rfl, RowW.of_own ho, hb⟩
        · refine (xrput_any first B M s w hM f0 f1 hf hl).mono ?_
          rintro e w' ⟨v, rfl, ho, hb⟩
          obtain ⟨a, c, rfl⟩ := own_ptr ho
          obtain ⟨q, rfl, h2, rfl, h4, h5⟩ := SL.of_wide (RowW.of_own ho)
          exact ⟨q, by rw [h2], h5, h4, hb⟩
      · exact no 3 (fun w => xput_limit first B M s w hM f0 f1 hf (by omega) (by omega)) (fun w => xrput_limit first B M s w hM f0 f1 hf (by omega) (by omega))
    · exact no 1 (fun w => xput_first first B M s w hM f0 f1 hf) (fun w => xrput_first first B M s w hM f0 f1 hf)
  · exact no 1 (fun w => xput_bits first B s w (by omega)) (fun w => xrput_bits first B s w (by omega))
theorem apart_pair (S B : Nat) (n : Nat) (c0 c1 : Nat) (a0 a1 : Option Addr) (V : Value) (E : Nat → Value) (N : Nat → Nat) (X : Nat → List Value) (x0 x1 : List Value) (w0 W : World) (hn : n ≤ 3000000) (bk : Bk S B 2 2 V (upd (upd E 0 (.slice a0 n c0)) 1 (.slice a1 n c1)) (upd (upd N 0 n) 1 n) (upd (upd X 0 x0) 1 x1) w0 W) :
    Calls Tryz.prog 9 #[.pointer (some ⟨B, 0, none⟩)] W fun e w' => e = .returned (.bool true) ∧ Below S w0 w' :=
  apart_book S B 2 V _ _ _ w0 W (by decide) (by decide) (fun i hi => by
    have : i = 0 ∨ i = 1 := by omega
    rcases this with rfl | rfl
    · exact hn
    · exact hn) bk

set_option maxRecDepth 20000 in
set_option maxHeartbeats 1000000 in
theorem puts_walk (first B : Int) (s : ByteArray) (w : World) (f0 : 0 ≤ first) (f1 : first ≤ 255) (hs : s.size ≤ 9223372036854775807) : Calls Tryz.prog 3 #[.int .u8 first, .int .i64 B, .string s] w fun e w' => e = .returned (.bool true) ∧ Below w.heap.size w w' := by
  go_enter Tryz.func3, Tryz.ntmps3
  go_wp2_with fail
  refine (beyond_len w s.size hs).mono ?_
  rintro e0 w1 ⟨rfl, b1⟩
  by_cases hbig : 1048576 < s.size
  · rw [decide_eq_true hbig]
    go_wp2_with fail
    go_ret
    exact ⟨rfl, b1⟩
  · rw [decide_eq_false hbig]
    obtain ⟨b, E, hbl, hP, hR⟩ := xputs_cases first B s f0 f1 (by omega)
    have HP := veil hP
    have HR := veil hR
    have hee : (E != E) = false := by simp
    obtain ⟨n, hn⟩ : ∃ n, n = b.length := ⟨_, rfl⟩
    rw [← hn] at HP hbl
    have HB1 := veil b1
    have hs1 := b1.size
    have HN := veil hn
    clear hP hR b1 hn
    go_wp2_with fail
    refine (HP.out w1).mono ?_
    rintro e2 w2 ⟨a1, c1, rfl, ho1, hb2⟩
    have HB2 := veil (HB1.out.trans (hb2.mono hs1))
    have HO1 := veil ho1
    have hs2 := hb2.size
    clear ho1 hb2 HB1
    go_wp2_with fail
    refine (HP.out w2).mono ?_
    rintro e3 w3 ⟨a2, c2, rfl, ho2, hb3⟩
    have HB3 := veil (HB2.out.trans (hb3.mono (by omega)))
    have HO13 := veil (HO1.out.below hb3)
    have HO2 := veil ho2
    have hs3 := hb3.size
    have HYZ : Hid ((Value.slice a1 n c1).ownBlock = none ∨ (Value.slice a1 n c1).ownBlock ≠ (Value.slice a2 n c2).ownBlock) := by
      cases e : (Value.slice a1 n c1).ownBlock with
      | none => exact .inl rfl
      | some z =>
        right
        intro e2
        have := (HO1.out.lt z e).2
        have := (ho2.lt z e2.symm).1
        omega
    clear ho2 hb3 HB2 HO1
    go_wp2_with fail
    refine (HR.out w3).mono ?_
    rintro e5 w5 ⟨q, rfl, hq, hqb, hb5⟩
    have HB5 := veil (HB3.out.trans (hb5.mono (by omega)))
    have HO15 := veil (HO13.out.below hb5)
    have HO25 := veil (HO2.out.below hb5)
    have hs5 := hb5.size
    have hql : q.len = n := by rw [← hq.hb, hqb, HN.out]
    have HS1 : Hid (∀ W, Below w5.heap.size w5 W → Calls Tryz.prog 7 #[.slice a1 n c1, .slice q.a q.len q.cap] W fun e w' => e = .returned (.bool true) ∧ Below W.heap.size W w') := fun W hW => by
      obtain ⟨s1, r1, r2, r3, r4, r5⟩ := SL.of_wide HO15.out
      subst r1 r2 r3
      refine (same_bool s1 q W (r5.below hW) (hq.below hW) (by omega) (by omega)).mono ?_
      rintro e w' ⟨rfl, hb⟩
      exact ⟨by rw [decide_eq_true (by rw [r4, hqb])], hb⟩
    have HS2 : Hid (∀ W, Below w5.heap.size w5 W → Calls Tryz.prog 7 #[.slice a2 n c2, .slice q.a q.len q.cap] W fun e w' => e = .returned (.bool true) ∧ Below W.heap.size W w') := fun W hW => by
      obtain ⟨s1, r1, r2, r3, r4, r5⟩ := SL.of_wide HO25.out
      subst r1 r2 r3
      refine (same_bool s1 q W (r5.below hW) (hq.below hW) (by omega) (by omega)).mono ?_
      rintro e w' ⟨rfl, hb⟩
      exact ⟨by rw [decide_eq_true (by rw [r4, hqb])], hb⟩
    clear hb5 hq hqb HB3 HO13 HO2 hql
    go_wp2_with fail
    refine (HS1.out w5 (Below.refl _ _)).mono ?_
    rintro e6 w6 ⟨rfl, hb6⟩
    go_wp2_with fail
    refine (HS2.out w6 hb6).mono ?_
    rintro e7 w7 ⟨rfl, hb7⟩
    have hb57 := hb6.trans (hb7.mono hb6.size)
    clear hb6 hb7 HS1 HS2
    have hb59 := hb57
    have HP1 := veil ((HO15.out.below hb59).low (show w.heap.size ≤ w1.heap.size by omega))
    have HP2 := veil ((HO25.out.below hb59).low (show w.heap.size ≤ w2.heap.size by omega))
    have HB9 := veil (HB5.out.trans (hb59.mono (by omega)))
    clear hb57 hb59 HO15 HO25 HB5
    go_wp2_with fail
    have HBk := Bk.new w.heap.size (fun _ => .slice none 0 0) (fun _ => 0) (fun _ => []) w w7 HB9.out.size HB9.out 41
    refine (bytes_any w.heap.size w7.heap.size 0 _ _ _ _ w _ (.slice a1 n c1) n _ (by decide) HBk (HP1.out.alloc _) (fun z e => (HP1.out.lt z e).2) (fun i hi => absurd hi (Nat.not_lt_zero _))).mono ?_
    rintro e10 w10 ⟨rfl, V6, bk6, hold6⟩
    have HK6 := veil bk6
    have HP26 := veil (hold6 _ _ _ (HP2.out.alloc _) (fun z e => (HP2.out.lt z e).2))
    have HA1 : ∀ i, i < 1 → (upd (fun _ => Value.slice none 0 0) 0 (Value.slice a1 n c1) i).ownBlock = none ∨ (upd (fun _ => Value.slice none 0 0) 0 (Value.slice a1 n c1) i).ownBlock ≠ (Value.slice a2 n c2).ownBlock := by
      intro i hi
      obtain rfl : i = 0 := Nat.lt_one_iff.1 hi
      exact HYZ.out
    clear HBk bk6 hold6
    go_wp2_with fail
    refine (bytes_any w.heap.size w7.heap.size 1 _ _ _ _ w _ (.slice a2 n c2) n _ (by decide) HK6.out HP26.out (fun z e => (HP2.out.lt z e).2) (fun i hi => HA1 i hi)).mono ?_
    rintro e11 w11 ⟨rfl, V7, bk7, hold7⟩
    have HK7 := veil bk7
    clear bk7 hold7 HK6 HP26
    go_wp2_with fail
    refine (apart_pair w.heap.size w7.heap.size n c1 c2 a1 a2 _ _ _ _ _ _ w w11 (by omega) HK7.out).mono ?_
    rintro e13 w13 ⟨rfl, hb13⟩
    go_wp2_with fail
    go_ret
    exact ⟨rfl, hb13⟩
end Go.Proofs.YtiecpkkklefjdaaGreatDoor
