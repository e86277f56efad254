/-
  HelloPuts: the walk.
-/
import Derived.Test.YtjccjlhnjihfjaaDoorGhHeRefPut
import Derived.Test.YtjccjlhnjihfjaaDoorGh7
import Derived.Test.YtjccjlhnjihfjaaDoorGhKyTwin
namespace Go.Proofs.YtjccjlhnjihfjaaDoor
open Go Go.RowKit

theorem own_apartH {W0 W1 : World} {B n m : Nat} {e f : TypeId} {u v : Value} {xs ys : List Value} (h : W0.ownsRow B e 1 u n xs) (k : W1.ownsRow W0.heap.size f 1 v m ys) : u.ownBlock = none ∨ u.ownBlock ≠ v.ownBlock := by
  cases q : u.ownBlock with
  | none => exact .inl rfl
  | some z =>
    right
    intro e2
    have := (h.lt z q).2
    have := (k.lt z e2.symm).1
    omega
theorem sl_of_wideH {w : World} {B n : Nat} {a : Option Addr} {c : Nat} {b : List By} (h : RowW w B 5 1 (.slice a n c) n (vb b)) : ∃ s : SL, s.a = a ∧ s.len = n ∧ s.cap = c ∧ s.b = b ∧ s.Ok w := by
  have hl : b.length = n := by have := h.1; rw [vb_length] at this; omega
  rcases h.2 with ⟨e, rfl⟩ | ⟨g, cap, cur, e, hg, hh, hn, _, _, _⟩
  · injection e with e1 e2 e3
    subst e1 e3
    exact ⟨⟨none, 0, 0, 0, 0, b⟩, rfl, rfl, rfl, rfl, ⟨hl, Nat.le_refl _, fun _ => ⟨rfl, rfl⟩, fun h => absurd h (Nat.lt_irrefl _), fun h => absurd h (Nat.lt_irrefl _), fun _ h => absurd h (Nat.not_lt_zero _)⟩⟩
  · injection e with e1 e2 e3
    subst e1 e3
    refine ⟨⟨some ⟨g, 0, none⟩, n, c, g, 0, b⟩, rfl, rfl, rfl, rfl, ⟨hl, hn, (fun e => by cases e), fun _ => rfl, fun _ => (Array.getElem?_eq_some_iff.1 hh.choose_spec).1, fun j hj => ?_⟩⟩
    have hj' : j < n := hj
    show w.cell? ⟨g, 0 + j, none⟩ = _
    rw [Nat.zero_add, h.cellAt j (by omega), vb_get _ _ (by omega)]
/-- What both puts answer, within the limit or above. -/
theorem KB.belowH {S B : Nat} {w0 W W' : World} {L : LV} (kb : KB S B w0 L W) (h : Below W.heap.size W W') : KB S B w0 L W' := by
  obtain ⟨V, X, bk⟩ := kb
  have hB := bk.bB
  have hSB := bk.SB
  exact ⟨V, X, ⟨bk.SB, Nat.lt_of_lt_of_le hB h.size, (h.cell (p := ⟨B, 0, none⟩) hB).trans bk.n, (h.cell (p := ⟨B, 1, none⟩) hB).trans bk.b, fun j h1 h2 => (h.cell (p := ⟨B, j, none⟩) hB).trans (bk.em j h1 h2), fun j => (h.frozen (p := ⟨B, j, none⟩) hB).trans (bk.fz j), (bk.ent.kept (row := none) ⟨h.os, h.tape, h.output, h.size, fun k hk _ => h.block k hk⟩ (Classical.em _)), bk.vB, bk.eB, bk.ee, fun i hi => (bk.rows i hi).below h, bk.below.trans (h.mono (by omega))⟩⟩
theorem KB.kbx {S B k : Nat} {w0 W : World} {L : LV} (kb : KB S B w0 L W) (hk : k < B) : KBX S B w0 L k W := by
  obtain ⟨V, X, bk⟩ := kb
  exact ⟨V, X, bk, fun e => by have := bk.vB k e; omega⟩
theorem putO_le {h : He.H} (hf : h.Fine) : (He.putO h).length ≤ 97 := by
  unfold He.putO
  split
  · exact bytes_le hf
  · exact Nat.zero_le _

set_option maxRecDepth 20000 in
set_option maxHeartbeats 4000000 in
theorem puts_walkH (h : He.H) (hf : h.Fine) (w : World) (hL : Lens w) :
    Calls Tryd.prog 3 #[.agg (heC h)] w fun e w' => e = .returned (.bool true) ∧ Below w.heap.size w w' := by
  obtain ⟨xs, hxs⟩ : ∃ xs, xs = He.putO h := ⟨_, rfl⟩
  obtain ⟨E, hE⟩ : ∃ E, E = He.putE h := ⟨_, rfl⟩
  obtain ⟨n0, hn0⟩ : ∃ n, n = xs.length := ⟨_, rfl⟩
  have hle : n0 ≤ 97 := by rw [hn0, hxs]; exact putO_le hf
  have HP := veil (fun W hLW => put_any h hf W hLW)
  have HR := veil (fun W => refPut_any h hf W)
  rw [← hxs, ← hE] at HP HR
  unfold PutR at HP
  rw [← hn0] at HP
  have HOF := veil (of_anyH h hf)
  obtain ⟨W0, hW0⟩ : ∃ W0, W0 = w.alloc (.cells (heC h) 27) := ⟨_, rfl⟩
  have b0 : Below w.heap.size w W0 := by rw [hW0]; exact (Below.refl _ w).alloc (Nat.le_refl _) _
  have r0 : Row W0 w.heap.size 27 (heC h) := by rw [hW0]; exact Row.new _ _ _
  have B0 := veil b0
  have R0 := veil r0
  have HL := veil hL
  have HF := veil hf
  have HLE := veil hle
  have hee : ((E : Int) == (E : Int)) = true := by simp
  have hlt := r0.lt
  rw [hW0] at R0
  clear hf hL b0 r0 hxs hE hn0 hle
  go_enter Tryd.func3, Tryd.ntmps3
  go_wp2_with (with_reducible (show wpList _ _ _ (⟨some 11, Op.load 27 _, _, _, _, _⟩ :: _) _ _)
               refine load_strL rfl 27 _ rfl w.heap.size rfl _ _ R0.out 69 _ Tryd.underlying27 (by kernel_rfl) (heC_size HF.out) ?_)
  rw [← hW0]
  rw [← hW0] at R0
  clear hW0
  refine (HP.out W0 (HL.out.step B0.out)).mono ?_
  rintro e1 w1 ⟨a1, c1, rfl, o1, bb1⟩
  have B1 := veil (B0.out.trans (bb1.mono B0.out.size))
  have R1 := veil (R0.out.below bb1 hlt)
  have O11 := veil (own_low o1 B0.out.size)
  have hlt1 := R1.out.lt
  clear o1 bb1 R0 B0
  go_wp2_with (with_reducible (show wpList _ _ _ (⟨some 16, Op.load 27 _, _, _, _, _⟩ :: _) _ _)
               refine load_strL rfl 27 _ rfl w.heap.size rfl _ _ R1.out 69 _ Tryd.underlying27 (by kernel_rfl) (heC_size HF.out) ?_)
  refine (HP.out w1 (HL.out.step B1.out)).mono ?_
  rintro e2 w2 ⟨a2, c2, rfl, o2, bb2⟩
  have B2 := veil (B1.out.trans (bb2.mono B1.out.size))
  have R2 := veil (R1.out.below bb2 hlt1)
  have A12 := veil (own_apartH O11.out o2)
  have O12 := veil (own_below O11.out bb2)
  have O22 := veil (own_low o2 B1.out.size)
  have hlt2 := R2.out.lt
  clear o2 bb2 R1 B1 O11
  go_wp2_with (with_reducible (show wpList _ _ _ (⟨some 21, Op.load 27 _, _, _, _, _⟩ :: _) _ _)
               refine load_strL rfl 27 _ rfl w.heap.size rfl _ _ R2.out 69 _ Tryd.underlying27 (by kernel_rfl) (heC_size HF.out) ?_)
  refine (HOF.out w2).mono ?_
  rintro e3 w3 ⟨rfl, bb3⟩
  have B3 := veil (B2.out.trans (bb3.mono B2.out.size))
  have O13 := veil (own_below O12.out bb3)
  have O23 := veil (own_below O22.out bb3)
  have HS3 := veil bb3.size
  clear bb3 R2 B2 O12 O22
  go_wp2_with fail
  refine (HR.out w3).mono ?_
  rintro e4 w4 ⟨z, rfl, hz, hzb, bb4⟩
  have B4 := veil (B3.out.trans (bb4.mono B3.out.size))
  have O14 := veil (own_below O13.out bb4)
  have O24 := veil (own_below O23.out bb4)
  have HZ := veil hz
  have HZB := veil hzb
  have RW1 := veil (RowW.of_own O14.out)
  have RW2 := veil (RowW.of_own O24.out)
  have KB0 := veil (KB.new w.heap.size w w4 B4.out.size B4.out 49)
  have HBS := veil B4.out.size
  obtain ⟨kz, hkz, hkg⟩ : ∃ k, k < w4.heap.size ∧ (0 < z.len → k = z.g) := by
    rcases Nat.eq_zero_or_pos z.len with h0 | h0
    · exact ⟨w.heap.size, Nat.lt_of_lt_of_le hlt2 (Nat.le_trans HS3.out bb4.size), fun h => by omega⟩
    · exact ⟨z.g, hz.lt h0, fun _ => rfl⟩
  clear hz hzb bb4 B3 O13 O23 HP HR HOF
  go_wp2_with fail
  refine (((KB0.out.kbx hkz).tell (by simp; omega) (by omega) (.slice a1 n0 c1) n0 _ (by simp) (RW1.out.alloc _) (fun k e => (RW1.out.lt k e).2) (fun p hp => by simp at hp))).mono ?_
  rintro e5 w5 ⟨rfl, kb5, hh5, hz5⟩
  have KB5 := veil kb5.kb
  have HH5 := veil ((Holds.alloc w.heap.size w4.heap.size w4 (.cells bookZ 49)).trans hh5)
  have Z5 := veil (show 0 < z.len → w5.heap[z.g]? = w4.heap[z.g]? from fun h0 => by
    have e := hkg h0
    rw [e] at hz5 hkz
    exact hz5.trans (Below.heap_alloc w4 _ z.g hkz))
  have S5 := veil (show w4.heap.size < w5.heap.size from KB5.out.bel.2.1)
  clear kb5 hh5 hz5 KB0
  go_wp2_with fail
  refine (((KB5.out.kbx hkz).tell (by have := S5.out; omega) (by omega) (.slice a2 n0 c2) n0 _ (by simp) (HH5.out _ _ _ RW2.out (fun k e => (RW2.out.lt k e).2)) (fun k e => (RW2.out.lt k e).2) (fun p hp => by
    simp only [List.nil_append, List.mem_cons, List.not_mem_nil, or_false] at hp
    subst hp
    exact A12.out))).mono ?_
  rintro e6 w6 ⟨rfl, kb6, hh6, hz6⟩
  have KB6 := veil kb6.kb
  have HH6 := veil (HH5.out.trans hh6)
  have Z6 := veil (show 0 < z.len → w6.heap[z.g]? = w4.heap[z.g]? from fun h0 => by
    have e := hkg h0
    rw [e] at hz6
    exact hz6.trans (Z5.out h0))
  have hs6 : w4.heap.size ≤ w6.heap.size := Nat.le_of_lt KB6.out.bel.2.1
  have HZ6 := veil (HZ.out.same Z6.out hs6)
  have RA := veil (HH6.out _ _ _ RW1.out (fun k e => (RW1.out.lt k e).2))
  have HSM : Hid (Calls Tryd.prog 12 #[.slice a1 n0 c1, .slice z.a z.len z.cap] w6 fun e w' => e = .returned (.bool true) ∧ Below w6.heap.size w6 w') := by
    obtain ⟨q1, hv1, hl1, hc1, hb1, hok1⟩ := sl_of_wideH RA.out
    rw [show (.slice a1 n0 c1 : Value) = .slice q1.a q1.len q1.cap by rw [hv1, hl1, hc1]]
    exact same_yesK q1 z w6 hok1 HZ6.out (by have := HLE.out; omega) (by rw [hb1, HZB.out])
  clear kb6 hh6 hz6 KB5 HH5 Z5 S5 HZ HZ6 RA
  go_wp2_with fail
  refine HSM.out.mono ?_
  rintro e7 w7 ⟨rfl, bb7⟩
  have KB7 := veil (KB6.out.belowH bb7)
  clear bb7 HSM KB6
  go_wp2_with fail
  refine (KB7.out.apart (by simp) (by simp) (fun p hp => by
    simp only [List.nil_append, List.cons_append, List.mem_cons, List.not_mem_nil, or_false] at hp
    have := HLE.out
    rcases hp with rfl | rfl
    · show n0 ≤ _; omega
    · show n0 ≤ _; omega)).mono ?_
  rintro e8 w8 ⟨rfl, hb8⟩
  have B8 := veil hb8
  clear hb8 KB7
  go_wp2_with fail
  refine (lives_any w8 (HL.out.step B8.out)).mono ?_
  rintro e9 w9 ⟨rfl, hb9⟩
  have B9 := veil (B8.out.trans (hb9.mono B8.out.size))
  clear hb9
  go_wp2_with fail
  go_ret
  exact ⟨rfl, B9.out⟩
end Go.Proofs.YtjccjlhnjihfjaaDoor
