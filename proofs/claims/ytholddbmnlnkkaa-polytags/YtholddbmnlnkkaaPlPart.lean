/-
  What poly.partNumber answers.
-/
import Derived.Test.YtholddbmnlnkkaaPlCleared
import Derived.Test.YtholddbmnlnkkaaPlHeld
namespace Go.Proofs.Ytholddbmnlnkkaa
open Go Go.RowKit

/-- The number of a part. -/
def partN (b : List By) : Nat := leN b + 256 ^ b.length
theorem leK_marked (m b : List By) (h1 : ∀ i, i < b.length → gb m i = gb b i) (h2 : gb m b.length = 1) (h3 : ∀ i, b.length < i → gb m i = 0) (k : Nat) : leK m k = if k ≤ b.length then leK b k else partN b := by
  induction k with
  | zero => rw [if_pos (Nat.zero_le _)]; rfl
  | succ k ih =>
    rw [show leK m (k + 1) = leK m k + (gb m k).toNat * 256 ^ k from rfl, ih]
    by_cases hk : k < b.length
    · rw [if_pos (by omega), if_pos (by omega), h1 k hk]
      rfl
    · by_cases he : k = b.length
      · subst he
        rw [if_pos (Nat.le_refl _), if_neg (by omega), h2]
        show leK b b.length + 1 * 256 ^ b.length = _
        rw [Nat.one_mul]
        rfl
      · rw [if_neg (by omega), if_neg (by omega), h3 k (by omega)]
        show _ + 0 * _ = _
        rw [Nat.zero_mul, Nat.add_zero]
theorem partN_lt (b : List By) (h : b.length ≤ 16) : partN b < 680564733841876926926749214863536422912 := by
  unfold partN leN
  have h1 := leK_lt b b.length
  have h2 : 256 ^ b.length ≤ 256 ^ 16 := Nat.pow_le_pow_right (by omega) h
  have h3 : (256 : Nat) ^ 16 = 340282366920938463463374607431768211456 := by decide
  omega
theorem gb_app_left (a b : List By) (i : Nat) (h : i < a.length) : gb (a ++ b) i = gb a i := by
  unfold gb
  rw [List.getElem?_append_left h]
theorem gb_app_right (a b : List By) (i : Nat) (h : a.length ≤ i) : gb (a ++ b) i = gb b (i - a.length) := by
  unfold gb
  rw [List.getElem?_append_right h]
theorem gb_zeros (n i : Nat) : gb (List.replicate n (0 : By)) i = 0 := by
  unfold gb
  rw [List.getElem?_replicate]
  split <;> rfl

set_option maxRecDepth 20000 in
set_option maxHeartbeats 1000000 in
theorem partNumber_any (q : SL) (w : World) (hq : q.Ok w) (hlen : q.len ≤ 16) :
    Calls Try.prog 30 #[.slice q.a q.len q.cap] w fun e w' => ∃ ys, e = .returned (.agg (ns ys)) ∧ Sm ys ∧ V5 ys = partN q.b ∧ Below w.heap.size w w' := by
  obtain ⟨w0, hw0⟩ : ∃ w0, w0 = (w.alloc (.cells (ns (List.replicate 5 0)) 39)).alloc (.cells (bs (List.replicate 17 0)) 57) := ⟨_, rfl⟩
  have b0 : Below w.heap.size w w0 := by rw [hw0]; exact ((Below.refl _ w).alloc (Nat.le_refl _) _).alloc (by simp) _
  have p0 : Row w0 w.heap.size 39 (ns (List.replicate 5 0)) := by rw [hw0]; exact (Row.new _ _ _).alloc _
  have p1 : Row w0 (w.heap.size + 1) 57 (bs (List.replicate 17 0)) := by rw [hw0]; exact Row.new1 _ _ _ _
  obtain ⟨w2, hc2, rk, hk2⟩ := copy_sl w0 (w.heap.size + 1) _ (List.replicate 17 0) 17 q p1 rfl (hq.below b0) (by omega)
  have m0 := hk2.row p0 (by omega)
  have hs0 := b0.size
  have b2 := b0.trans (hk2.below (B := w.heap.size) (by omega) (by omega))
  obtain ⟨n, hn⟩ : ∃ n, n = q.len := ⟨_, rfl⟩
  have hbl : q.b.length = n := by rw [hq.hb, hn]
  have hl17 : (q.b ++ (List.replicate 17 (0 : By)).drop q.len).length = 17 := by
    rw [List.length_append, List.length_drop, List.length_replicate, hq.hb]
    omega
  have cx := rk.cellB (j := n) (by rw [hl17]; omega)
  have fx := rk.frozen n
  have r1 := rk.set n (.int .u8 (v8 1))
  rw [bs_set] at r1
  have HL : Hid (((q.b ++ (List.replicate 17 (0 : By)).drop q.len).set n 1).length = 17) := show _ = _ by rw [List.length_set]; exact hl17
  have HE : Hid (leN ((q.b ++ (List.replicate 17 (0 : By)).drop q.len).set n 1) = partN q.b) := show _ = _ by
    unfold leN
    rw [HL.out, leK_marked _ q.b ?_ ?_ ?_, if_neg (by omega)]
    · intro i hi
      rw [gb_set _ (by rw [hl17]; omega), if_neg (by omega), gb_app_left _ _ _ hi]
    · rw [gb_set _ (by rw [hl17]; omega), if_pos (by omega)]
    · intro i hi
      rw [gb_set _ (by rw [hl17]; omega), if_neg (by omega), gb_app_right _ _ _ (by omega), List.drop_replicate, gb_zeros]
  have HQL := veil hlen
  have hni : (n : Int) ≤ 16 := by omega
  generalize (q.b ++ (List.replicate 17 (0 : By)).drop q.len).set n 1 = m at *
  have m2 : Row (w2.setCell ⟨w.heap.size + 1, n, none⟩ (.int .u8 (v8 1))) w.heap.size 39 (ns (List.replicate 5 0)) := m0.other (by show w.heap.size ≠ w.heap.size + 1; omega) _
  have b3 : Below w.heap.size w (w2.setCell ⟨w.heap.size + 1, n, none⟩ (.int .u8 (v8 1))) := b2.setCell (p := ⟨w.heap.size + 1, n, none⟩) (by show w.heap.size ≤ w.heap.size + 1; omega) _
  have HP : Hid (partN q.b < 680564733841876926926749214863536422912) := show _ < _ from partN_lt q.b (by omega)
  rw [← hn] at hc2
  rw [hw0] at hc2
  generalize v8 (gb _ n) = v0 at cx
  rw [show v8 1 = 1 by decide] at r1 m2 b3
  have hok : (rowN (w.heap.size + 1) 17 m).Ok (w2.setCell ⟨w.heap.size + 1, n, none⟩ (.int .u8 1)) := rowN_ok r1 HL.out
  have HOK := veil hok
  have HLT : Hid (leN m < 1361129467683753853853498429727072845824) := show _ < _ by rw [HE.out]; exact Nat.lt_trans HP.out (by decide)
  rw [← hn]
  clear hn hw0 hk2 p0 p1 b0 m0 b2 hlen hbl hl17 hq hok hs0
  go_enter Try.func30, Try.ntmps30
  go_wp2_with (first
    | (with_reducible (show wpList _ _ _ (⟨some 7, Op.call _, _, _, _, _⟩ :: _) _ _)
       refine wpList_copy rfl _ _ _ _ rfl _ _ rfl rfl _ w2 hc2 ?_))
  refine (numberOf_any (rowN (w.heap.size + 1) 17 m) _ HOK.out (by show 17 ≤ 17; omega) HLT.out).mono ?_
  rintro e1 w1 ⟨ys, rfl, hsm, hv5, hb1⟩
  have HS := veil hsm
  have HC := veil (show V5 ys = leN m from hv5)
  have hs1 := b3.size
  have q1 := m2.below hb1 m2.lt
  have bel2 : Below w.heap.size w w1 := b3.trans (hb1.mono hs1)
  clear hsm hv5
  go_wp2_with (with_reducible (show wpList _ _ _ (⟨_, Op.store 39 _ _, _, _, _, _⟩ :: _) _ _)
               refine store_row rfl 39 _ _ rfl w.heap.size (ns ys) rfl rfl _ _ q1 5 (by kernel_rfl) (by rw [ns_size, List.length_replicate]) (by rw [ns_size, HS.out.len]) (ns_one _) ?_)
  refine bodyPost_ret (result_row rfl _ _ w.heap.size _ _ (q1.put _) 5 37 rfl Try.underlying39 (by kernel_rfl) (by rw [ns_size, HS.out.len])) rfl ⟨ys, rfl, HS.out, by rw [HC.out]; exact HE.out, bSetRow bel2 (Nat.le_refl _) _⟩
end Go.Proofs.Ytholddbmnlnkkaa
