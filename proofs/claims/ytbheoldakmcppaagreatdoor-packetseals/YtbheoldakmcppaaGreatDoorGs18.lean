/-
  Out of HkMac, HkKey, HkTwo, HkMacW.
-/
import Derived.Test.YtbheoldakmcppaaGreatDoorGs15

/-! What hkdf.sumOf, pad and asMacKey answer. -/
namespace Go.Proofs.YtbheoldakmcppaaGreatDoor
open Go Go.RowKit

set_option maxRecDepth 20000 in
set_option maxHeartbeats 1000000 in
theorem sumOf_any (L o m c : Nat) (ls : List SL) (w : World) (hm : ls.length = m) (hm2 : m ≤ 1000) (hok : ∀ s ∈ ls, s.Ok w) (htot : (joinB ls).length ≤ 1048576) (hL : L < w.heap.size)
    (hc : ∀ (j : Nat) (s : SL), ls[j]? = some s → w.cell? ⟨L, o + j, none⟩ = some (.slice s.a s.len s.cap)) :
    Calls Tryz.prog 189 #[.slice (some ⟨L, o, none⟩) m c] w fun e w' => e = .returned (.agg (bs (sumL (joinB ls)))) ∧ Below w.heap.size w w' := by
  have HM := veil hm
  have HOK := veil hok
  have HC := veil hc
  have HT := veil htot
  clear hm hok hc htot
  go_enter Tryz.func189, Tryz.ntmps189
  go_wp2_with (with_reducible (show wpList _ _ _ (⟨_, Op.alloc 78, _, _, _, _⟩ :: _) _ _)
               refine alloc_row rfl 78 rfl (bs z32) (by kernel_rfl) ?_)
  have hb0 : Below w.heap.size w (w.alloc (.cells (bs z32) 78)) := (Below.refl _ w).alloc (Nat.le_refl _) _
  refine (concat_any L o m c ls _ HM.out hm2 (fun s hs => (HOK.out s hs).alloc _) (by have := HT.out; omega) (by simp; omega) (fun j s hs => (hb0.cell (p := ⟨L, o + j, none⟩) hL).trans (HC.out j s hs))).mono ?_
  rintro e1 w1 ⟨s, rfl, hok1, hsb, hb1⟩
  have q0 : Row w1 w.heap.size 78 (bs z32) := Row.below (Row.new _ _ _) hb1 (by simp)
  have hbel1 : Below w.heap.size w w1 := hb0.trans (hb1.mono (by simp))
  clear hb0 hb1
  go_wp2_with fail
  refine (sum_any s.g s.off s.a s.len s.cap s.b w1 hok1.hb (by rw [← hok1.hb, hsb]; exact HT.out) hok1.hcap hok1.at_ hok1.lt hok1.cell).mono ?_
  rintro e2 w2 ⟨rfl, hb2⟩
  have q1 := q0.below hb2 q0.lt
  have hbel2 := hbel1.trans (hb2.mono hbel1.size)
  rw [hsb]
  clear hb2 hbel1 q0 hok1 hsb
  have hsum : (bs (sumL (joinB ls))).size = 32 := by rw [bs_size, sumL_length]
  obtain ⟨T, hT⟩ : ∃ T, T = sumL (joinB ls) := ⟨_, rfl⟩
  have HTT := veil hT
  rw [← hT] at hsum ⊢
  clear hT
  have hq1 := q1.lt
  have q2 := q1.alloc (.cells (bs T) 78)
  go_wp2_with (first
    | (with_reducible (show wpList _ _ _ (⟨_, Op.alloc 78, _, _, _, _⟩ :: _) _ _)
       refine alloc_row rfl 78 rfl (bs z32) (by kernel_rfl) ?_)
    | (with_reducible (show wpList _ _ _ (⟨_, Op.store 78 (.tmp 3) _, _, _, _, _⟩ :: _) _ _)
       refine store_new (w := w2) (by rfl) 78 _ _ (by rfl) w2.heap.size (bs T) (by rfl) (by rfl) 78 (bs z32) (by rfl) 32 (by kernel_rfl) (by rfl) hsum (bs_one _) ?_)
    | (with_reducible (show wpList _ _ _ (⟨_, Op.load 78 _, _, _, _, _⟩ :: _) _ _)
       refine load_row rfl 78 _ rfl w2.heap.size rfl _ _ (Row.new _ _ _) 32 5 Tryz.underlying78 (by kernel_rfl) hsum ?_)
    | (with_reducible (show wpList _ _ _ (⟨_, Op.store 78 (.tmp 2) _, _, _, _, _⟩ :: _) _ _)
       refine store_row rfl 78 _ _ rfl w.heap.size (bs T) rfl rfl _ _ q2 32 (by kernel_rfl) (by rfl) hsum (bs_one _) ?_))
  refine bodyPost_ret (result_row rfl _ _ w.heap.size _ _ (q2.put _) 32 5 rfl Tryz.underlying78 (by kernel_rfl) hsum) rfl ⟨by rw [HTT.out], bSetRow (hbel2.alloc hbel2.size _) (Nat.le_refl _) _⟩

theorem b8x (a b : By) : bits .xor .u8 (v8 a) (v8 b) = v8 (a ^^^ b) := by
  rw [u8_xor _ _ (v8_nn a) (by have := v8_le a; omega) (v8_nn b) (by have := v8_le b; omega)]
  unfold v8
  rw [BitVec.toNat_xor]
  simp
/-- A key whose first bytes were taken against a byte. -/
def padTo (k : List By) (x : By) (i : Nat) : List By := (padX k x).take i ++ k.drop i
theorem padTo_length (k : List By) (x : By) (i : Nat) (h : i ≤ k.length) : (padTo k x i).length = k.length := by
  unfold padTo
  rw [List.length_append, List.length_take, List.length_drop, padX_length]
  omega
theorem padTo_get (k : List By) (x : By) (i : Nat) (h : i < k.length) : gb (padTo k x i) i = gb k i := by
  unfold padTo gb
  rw [List.getElem?_append_right (by rw [List.length_take, padX_length]; omega), List.length_take, padX_length, Nat.min_eq_left (by omega), Nat.sub_self, List.getElem?_drop, Nat.add_zero]
theorem padTo_set (k : List By) (x : By) (i : Nat) (h : i < k.length) : (padTo k x i).set i (gb k i ^^^ x) = padTo k x (i + 1) := by
  unfold padTo
  have hl : ((padX k x).take i).length = i := by rw [List.length_take, padX_length]; omega
  rw [List.drop_eq_getElem_cons h, List.set_append_right _ _ (by omega), hl, Nat.sub_self, List.set_cons_zero, List.take_add_one]
  have e : (padX k x)[i]? = some (gb k i ^^^ x) := by
    unfold padX gb
    rw [List.getElem?_map, List.getElem?_eq_getElem h]
    rfl
  rw [e]
  simp

set_option maxRecDepth 20000 in
set_option maxHeartbeats 1000000 in
theorem pad_any (k : List By) (x : By) (hk : k.length = 64) (w : World) :
    Calls Tryz.prog 196 #[.agg (bs k), .int .u8 (v8 x)] w fun e w' => e = .returned (.agg (bs (padX k x))) ∧ Below w.heap.size w w' := by
  have HK := veil hk
  have hx0 := v8_nn x
  have hx1 := v8_le x
  clear hk
  go_enter Tryz.func196, Tryz.ntmps196
  go_wp2_with (with_reducible (show wpList _ _ _ (⟨_, Op.alloc 187, _, _, _, _⟩ :: _) _ _)
               refine alloc_row rfl 187 rfl (bs zB) (by kernel_rfl) ?_)
  go_loopw [6] (fun i wr => ∃ t : Nat, t ≤ 64 ∧ i = .int .i64 t ∧ Row wr w.heap.size 253 (bs (padTo k x t)) ∧ Row wr (w.heap.size + 1) 187 (bs zB) ∧ Below w.heap.size w wr)
    (fun i _ => 64 - (intOf i).toNat)
  case atStart => exact ⟨0, by omega, rfl, (Row.new _ _ _).alloc _, Row.new1 _ _ _ _, ((Below.refl _ w).alloc (Nat.le_refl _) _).alloc (by simp) _⟩
  case round =>
    obtain ⟨t, ht, rfl, r0, r1, hbel⟩ := hrel
    by_cases hlt : t < 64
    · have c0 := r0.cellB (j := t) (by rw [padTo_length _ _ _ (by rw [HK.out]; exact ht), HK.out]; exact hlt)
      have HG := veil (padTo_get k x t (by rw [HK.out]; exact hlt))
      have HSt := veil (padTo_set k x t (by rw [HK.out]; exact hlt))
      rw [HG.out] at c0
      have f0 := r0.frozen t
      have hy0 := v8_nn (gb k t)
      have hy1 := v8_le (gb k t)
      generalize gb k t = y at *
      have hbx := b8x y x
      go_wp2
      go_roundw
      case rel =>
        refine ⟨t + 1, by omega, by go_num, ?_, r1.other (by show w.heap.size + 1 ≠ w.heap.size; omega) _, hbel.setCell (p := ⟨w.heap.size, t, none⟩) (Nat.le_refl _) _⟩
        have := r0.set t (.int .u8 (v8 (y ^^^ x)))
        rw [bs_set, HSt.out] at this
        exact this
      case measure => simp [intOf]; omega
    · obtain rfl : t = 64 := by omega
      have e : padTo k x 64 = padX k x := by
        unfold padTo
        rw [List.take_of_length_le (by rw [padX_length, HK.out]; exact Nat.le_refl _), List.drop_eq_nil_of_le (by rw [HK.out]; exact Nat.le_refl _), List.append_nil]
      rw [e] at r0
      have hsz : (bs (padX k x)).size = 64 := by rw [bs_size, padX_length, HK.out]
      go_wp2_with (first
        | (with_reducible (show wpList _ _ _ (⟨_, Op.load 253 _, _, _, _, _⟩ :: _) _ _)
           refine load_row rfl 253 _ rfl w.heap.size rfl _ _ r0 64 5 Tryz.underlying253 (by kernel_rfl) hsz ?_)
        | (with_reducible (show wpList _ _ _ (⟨_, Op.store 187 _ _, _, _, _, _⟩ :: _) _ _)
           refine store_row rfl 187 _ _ rfl (w.heap.size + 1) (bs (padX k x)) rfl rfl _ _ r1 64 (by kernel_rfl) (by rfl) hsz (bs_one _) ?_))
      refine bodyPost_ret (result_row rfl _ _ (w.heap.size + 1) _ _ (r1.put _) 64 5 rfl Tryz.underlying187 (by kernel_rfl) hsz) rfl ⟨rfl, bSetRow hbel (by omega) _⟩
end Go.Proofs.YtbheoldakmcppaaGreatDoor

/-! What hkdf.asMacKey answers. -/
namespace Go.Proofs.YtbheoldakmcppaaGreatDoor
open Go Go.RowKit

theorem keyL_long (b : List By) (h : 64 < b.length) : keyL b = sumL b ++ zB.drop 32 := by
  unfold keyL
  rw [if_pos h]
  rfl
theorem keyL_short (b : List By) (h : ¬ 64 < b.length) : keyL b = b ++ zB.drop b.length := by
  unfold keyL zB
  rw [if_neg h, List.drop_replicate]
theorem joinB_one (q : SL) : joinB [q] = q.b := by simp [joinB]

/-- A new row of slices. -/
def vls (ls : List SL) : Array Value := (ls.map fun s => Value.slice s.a s.len s.cap).toArray
theorem new_lists (w : World) (ls : List SL) (t : TypeId) (g : Nat) (hg : g = w.heap.size) (j : Nat) (s : SL) (h : ls[j]? = some s) : (w.alloc (.cells (vls ls) t)).cell? ⟨g, 0 + j, none⟩ = some (.slice s.a s.len s.cap) := by
  subst hg
  rw [Nat.zero_add, (Row.new w t (vls ls)).cell j]
  unfold vls
  simp [h]
section
variable {P : Program} {ops : Array Oper} {Q : Exit → Act → World → Prop} {a : Act} {w : World}
/-- The beginning, at the world at hand. -/
theorem held_at {id : Nat} (hm : P.follows .mixedOrders = true) (h : wpAnyH P .any ops Q (fun _ => True) ops.size (Array.replicate ops.size false) a w.drew) : (Code.region id ops true).wp P Q a w :=
  wp_region_held hm h
end

set_option maxRecDepth 20000 in
set_option maxHeartbeats 1000000 in
theorem key_any (q : SL) (w : World) (hq : q.Ok w) (hl : q.len ≤ 1048576) :
    Calls Tryz.prog 183 #[.slice q.a q.len q.cap] w fun e w' => e = .returned (.agg (bs (keyL q.b))) ∧ Below w.heap.size w w' := by
  have HQ := veil hq
  have hkl := veil (keyL_length q.b)
  have hsz : (bs (keyL q.b)).size = 64 := by rw [bs_size, hkl.out]
  have hbl := hq.hb
  clear hq
  have b0 : Below w.heap.size w ((w.alloc (.cells (bs zB) 253)).alloc (.cells (bs zB) 253)) := ((Below.refl _ w).alloc (Nat.le_refl _) _).alloc (by simp) _
  obtain ⟨w0, hw0⟩ : ∃ w0, w0 = (w.alloc (.cells (bs zB) 253)).alloc (.cells (bs zB) 253) := ⟨_, rfl⟩
  have q0 : Row w0 w.heap.size 253 (bs zB) := by rw [hw0]; exact (Row.new _ _ _).alloc _
  have q1 : Row w0 (w.heap.size + 1) 253 (bs zB) := by rw [hw0]; exact Row.new1 _ _ _ _
  have hs0 : w0.heap.size = w.heap.size + 1 + 1 := by rw [hw0]; simp
  rw [← hw0] at b0
  go_enter Tryz.func183, Tryz.ntmps183
  by_cases hlt : (64 : Int) < (q.len : Int)
  · have HKL := veil (keyL_long q.b (by omega))
    go_wp2_with (with_reducible (show wpList _ _ _ (⟨_, Op.alloc 253, _, _, _, _⟩ :: _) _ _)
                 refine alloc_row rfl 253 rfl (bs zB) (by kernel_rfl) ?_)
    show Calls _ _ _ (((w.alloc (.cells (bs zB) 253)).alloc (.cells (bs zB) 253)).alloc (.cells (vls [q]) 22)) _
    rw [← hw0]
    refine (sumOf_any (w.heap.size + 1 + 1) 0 1 1 [q] _ rfl (by decide) (fun s hs => by
      obtain rfl : s = q := by simpa using hs
      exact (HQ.out.below b0).alloc _) (by rw [joinB_one]; omega) (by simp; omega) (fun j s hs => new_lists w0 [q] _ _ hs0.symm j s hs)).mono ?_
    rintro e1 w1 ⟨rfl, hb1⟩
    rw [joinB_one]
    have hbA : Below w0.heap.size w0 (w0.alloc (.cells (vls [q]) 22)) := (Below.refl _ w0).alloc (Nat.le_refl _) _
    have hb01 : Below w0.heap.size w0 w1 := hbA.trans (hb1.mono (by simp))
    have k0 := q0.below hb01 q0.lt
    have k1 := q1.below hb01 q1.lt
    have b1 := b0.trans (hb01.mono (by omega))
    have hs1 := hb01.size
    clear hb1 hbA hb01 q0 q1 b0
    have hsum : (bs (sumL q.b)).size = 32 := by rw [bs_size, sumL_length]
    go_wp2_with (first
      | (with_reducible (show wpList _ _ _ (⟨_, Op.alloc 78, _, _, _, _⟩ :: _) _ _)
         refine alloc_row rfl 78 rfl (bs z32) (by kernel_rfl) ?_)
      | (with_reducible (show wpList _ _ _ (⟨_, Op.store 78 (.tmp 4) _, _, _, _, _⟩ :: _) _ _)
         refine store_new (w := w1) (by rfl) 78 _ _ (by rfl) w1.heap.size (bs (sumL q.b)) (by rfl) (by rfl) 78 (bs z32) (by rfl) 32 (by kernel_rfl) (by rfl) hsum (bs_one _) ?_))
    refine held_at (by kernel_rfl) ?_
    refine H_take 0 (.slice (some ⟨w.heap.size + 1, 0, none⟩) 64 64) rfl (fun W _ => by go_simp) (by kernel_rfl) (by kernel_rfl) (by kernel_rfl) (fun _ _ _ _ h => h) rfl trivial ?_
    refine H_take 1 (.slice (some ⟨w1.heap.size, 0, none⟩) 32 32) rfl (fun W _ => by go_simp) (by kernel_rfl) (by kernel_rfl) (by kernel_rfl) (fun _ _ _ _ h => h) rfl trivial ?_
    have r4 : Row (w1.alloc (.cells (bs (sumL q.b)) 78)) w1.heap.size 78 (bs (sumL q.b)) := Row.new _ _ _
    have hs4 := rowS_ok r4
    have hsl := sumL_length q.b
    obtain ⟨w2, hc2, rk, hk2⟩ := copy_sl _ (w.heap.size + 1) _ zB 64 (rowS w1.heap.size (sumL q.b)) (k1.alloc (.cells (bs (sumL q.b)) 78)).drew rfl (hs4.same (fun _ => rfl) (Nat.le_refl _)) (by show (sumL q.b).length ≤ 64; omega)
    rw [show (rowS w1.heap.size (sumL q.b)).len = 32 from hsl, show (rowS w1.heap.size (sumL q.b)).b = sumL q.b from rfl, ← HKL.out] at rk
    refine H_one 2 (by kernel_rfl) (O_value rfl rfl _ _ (exec_copy _ _ _ _ rfl _ _ rfl rfl _ w2 (by rw [show (rowS w1.heap.size (sumL q.b)).len = 32 from hsl, show (rowS w1.heap.size (sumL q.b)).cap = 32 from hsl] at hc2; exact hc2)) ⟨trivial, ?_⟩)
    refine wpAnyH_done (by kernel_rfl) ?_ _
    have m0 := hk2.row (k0.alloc (.cells (bs (sumL q.b)) 78)).drew (by omega)
    have b2 := ((b1.alloc b1.size (.cells (bs (sumL q.b)) 78)).drew).trans (hk2.below (B := w.heap.size) (by omega) (by simp; omega))
    clear hk2 hc2 hs4 r4
    go_wp2_with (first
      | (with_reducible (show wpList _ _ _ (⟨_, Op.load 253 _, _, _, _, _⟩ :: _) _ _)
         refine load_row rfl 253 _ rfl (w.heap.size + 1) rfl _ _ rk 64 5 Tryz.underlying253 (by kernel_rfl) hsz ?_)
      | (with_reducible (show wpList _ _ _ (⟨_, Op.store 253 _ _, _, _, _, _⟩ :: _) _ _)
         refine store_row rfl 253 _ _ rfl w.heap.size (bs (keyL q.b)) rfl rfl _ _ m0 64 (by kernel_rfl) (by rfl) hsz (bs_one _) ?_))
    refine bodyPost_ret (result_row rfl _ _ w.heap.size _ _ (m0.put _) 64 5 rfl Tryz.underlying253 (by kernel_rfl) hsz) rfl ⟨rfl, bSetRow b2 (Nat.le_refl _) _⟩
  · have HKL := veil (keyL_short q.b (by omega))
    obtain ⟨w2, hc2, rk, hk2⟩ := copy_sl _ (w.heap.size + 1) _ zB 64 q q1 rfl (HQ.out.below b0) (by omega)
    rw [← hbl, ← HKL.out] at rk
    have m0 := hk2.row q0 (by omega)
    have b2 := b0.trans (hk2.below (B := w.heap.size) (by omega) (by omega))
    clear hk2
    go_wp2_with (first
      | (with_reducible (show wpList _ _ _ (⟨_, Op.alloc 253, _, _, _, _⟩ :: _) _ _)
         refine alloc_row rfl 253 rfl (bs zB) (by kernel_rfl) ?_)
      | (with_reducible (show wpList _ _ _ (⟨some 16, Op.call _, _, _, _, _⟩ :: _) _ _)
         refine wpList_copy rfl _ _ _ _ rfl _ _ rfl rfl _ w2 (by rw [hw0] at hc2; exact hc2) ?_)
      | (with_reducible (show wpList _ _ _ (⟨_, Op.load 253 _, _, _, _, _⟩ :: _) _ _)
         refine load_row rfl 253 _ rfl (w.heap.size + 1) rfl _ _ rk 64 5 Tryz.underlying253 (by kernel_rfl) hsz ?_)
      | (with_reducible (show wpList _ _ _ (⟨_, Op.store 253 _ _, _, _, _, _⟩ :: _) _ _)
         refine store_row rfl 253 _ _ rfl w.heap.size (bs (keyL q.b)) rfl rfl _ _ m0 64 (by kernel_rfl) (by rfl) hsz (bs_one _) ?_))
    refine bodyPost_ret (result_row rfl _ _ w.heap.size _ _ (m0.put _) 64 5 rfl Tryz.underlying253 (by kernel_rfl) hsz) rfl ⟨rfl, bSetRow b2 (Nat.le_refl _) _⟩
end Go.Proofs.YtbheoldakmcppaaGreatDoor

/-! A region that draws its order and holds two calls, one behind the other, and makes two rows of its own, whenever: whatever comes up, the same lies there. -/
namespace Go.Proofs.YtbheoldakmcppaaGreatDoor
open Go Go.RowKit

def ptr (g : Nat) : Value := .pointer (some ⟨g, 0, none⟩)
def rdTwo (i1 i3 i4 i5 : Nat) (c1 c3 c4 c5 : Bool) : List Nat := (if c1 then (if c3 then [] else [i3]) else [i1]) ++ ((if c4 then [] else [i4]) ++ (if c5 then [] else [i5]))

theorem two_two {P : Program} {ops : Array Oper} {Q : Exit → Act → World → Prop} {S : World → Prop} (B : Nat) (T : TypeId) (z : Array Value) (i1 i3 i4 i5 : Nat)
    (tm : Value → Value → Value → Value → Act) (l : Bool → Bool → Bool → Bool → Array Bool) (r1 r3 : Value)
    (hrd : ∀ c1 c3 c4 c5, (c3 = true → c1 = true) → (c3 && (c4 && c5)) = false → Region.ready .any ops (l c1 c3 c4 c5) = rdTwo i1 i3 i4 i5 c1 c3 c4 c5)
    (l1 : ∀ c4 c5, (l false false c4 c5).setIfInBounds i1 true = l true false c4 c5) (l3 : ∀ c4 c5, (l true false c4 c5).setIfInBounds i3 true = l true true c4 c5)
    (l4 : ∀ c1 c3 c5, (l c1 c3 false c5).setIfInBounds i4 true = l c1 c3 true c5) (l5 : ∀ c1 c3 c4, (l c1 c3 c4 false).setIfInBounds i5 true = l c1 c3 c4 true)
    (call1 : ∀ v5 v6 v11 W K, S W → (∀ W', Below W.heap.size W W' → K (tm v5 v6 r1 v11) W') → wpOp P ops Q i1 K (tm v5 v6 undef v11) W)
    (call3 : ∀ v5 v6 v9 W K, S W → (∀ W', Below W.heap.size W W' → K (tm v5 v6 v9 r3) W') → wpOp P ops Q i3 K (tm v5 v6 v9 undef) W)
    (alloc4 : ∀ v6 v9 v11 W K, K (tm (ptr W.heap.size) v6 v9 v11) (W.alloc (.cells z T)) → wpOp P ops Q i4 K (tm undef v6 v9 v11) W)
    (alloc5 : ∀ v5 v9 v11 W K, K (tm v5 (ptr W.heap.size) v9 v11) (W.alloc (.cells z T)) → wpOp P ops Q i5 K (tm v5 undef v9 v11) W)
    (hS : ∀ W W', S W → Below W.heap.size W W' → S W') (hB : ∀ W, S W → B ≤ W.heap.size) (f : Nat)
    (hend : ∀ g5 g6 W, S W → Row W g5 T z → Row W g6 T z → B ≤ g5 → B ≤ g6 → g5 ≠ g6 → wpAnyH P .any ops Q S f (l true true true true) (tm (ptr g5) (ptr g6) r1 r3) W) :
    ∀ W, S W → wpAnyH P .any ops Q S (f + 4) (l false false false false) (tm undef undef undef undef) W := by
  have AL : ∀ (W : World) o, Below W.heap.size W (W.alloc o) := fun W o => (Below.refl _ W).alloc (Nat.le_refl _) o
  have X3 : ∀ g5 g6 W, S W → Row W g5 T z → Row W g6 T z → B ≤ g5 → B ≤ g6 → g5 ≠ g6 → wpAnyH P .any ops Q S (f + 1) (l true false true true) (tm (ptr g5) (ptr g6) r1 undef) W := by
    intro g5 g6 W hSW h5 h6 b5 b6 hne
    refine wpAnyH_all (hrd true false true true (fun h => by cases h) rfl) (by simp [rdTwo]) (fun j hj => ?_)
    obtain rfl : j = i3 := by simpa [rdTwo] using hj
    refine call3 _ _ _ _ _ hSW (fun W' hb => ⟨hS _ _ hSW hb, ?_⟩)
    rw [l3]
    exact hend _ _ _ (hS _ _ hSW hb) (h5.below hb h5.lt) (h6.below hb h6.lt) b5 b6 hne
  have X4 : ∀ g6 W, S W → Row W g6 T z → B ≤ g6 → wpAnyH P .any ops Q S (f + 1) (l true true false true) (tm undef (ptr g6) r1 r3) W := by
    intro g6 W hSW h6 b6
    refine wpAnyH_all (hrd true true false true (fun h => rfl) rfl) (by simp [rdTwo]) (fun j hj => ?_)
    obtain rfl : j = i4 := by simpa [rdTwo] using hj
    refine alloc4 _ _ _ _ _ ⟨hS _ _ hSW (AL _ _), ?_⟩
    rw [l4]
    exact hend _ _ _ (hS _ _ hSW (AL _ _)) (Row.new _ _ _) (h6.alloc _) (hB _ hSW) b6 (by have := h6.lt; omega)
  have X5 : ∀ g5 W, S W → Row W g5 T z → B ≤ g5 → wpAnyH P .any ops Q S (f + 1) (l true true true false) (tm (ptr g5) undef r1 r3) W := by
    intro g5 W hSW h5 b5
    refine wpAnyH_all (hrd true true true false (fun h => rfl) rfl) (by simp [rdTwo]) (fun j hj => ?_)
    obtain rfl : j = i5 := by simpa [rdTwo] using hj
    refine alloc5 _ _ _ _ _ ⟨hS _ _ hSW (AL _ _), ?_⟩
    rw [l5]
    exact hend _ _ _ (hS _ _ hSW (AL _ _)) (h5.alloc _) (Row.new _ _ _) b5 (hB _ hSW) (by have := h5.lt; omega)
  have Y13 : ∀ W, S W → wpAnyH P .any ops Q S (f + 1 + 1) (l true true false false) (tm undef undef r1 r3) W := by
    intro W hSW
    refine wpAnyH_all (hrd true true false false (fun h => rfl) rfl) (by simp [rdTwo]) (fun j hj => ?_)
    rcases (by simpa [rdTwo] using hj : j = i4 ∨ j = i5) with rfl | rfl
    · refine alloc4 _ _ _ _ _ ⟨hS _ _ hSW (AL _ _), ?_⟩
      rw [l4]
      exact X5 _ _ (hS _ _ hSW (AL _ _)) (Row.new _ _ _) (hB _ hSW)
    · refine alloc5 _ _ _ _ _ ⟨hS _ _ hSW (AL _ _), ?_⟩
      rw [l5]
      exact X4 _ _ (hS _ _ hSW (AL _ _)) (Row.new _ _ _) (hB _ hSW)
  have Y14 : ∀ g5 W, S W → Row W g5 T z → B ≤ g5 → wpAnyH P .any ops Q S (f + 1 + 1) (l true false true false) (tm (ptr g5) undef r1 undef) W := by
    intro g5 W hSW h5 b5
    refine wpAnyH_all (hrd true false true false (fun h => rfl) rfl) (by simp [rdTwo]) (fun j hj => ?_)
    rcases (by simpa [rdTwo] using hj : j = i3 ∨ j = i5) with rfl | rfl
    · refine call3 _ _ _ _ _ hSW (fun W' hb => ⟨hS _ _ hSW hb, ?_⟩)
      rw [l3]
      exact X5 _ _ (hS _ _ hSW hb) (h5.below hb h5.lt) b5
    · refine alloc5 _ _ _ _ _ ⟨hS _ _ hSW (AL _ _), ?_⟩
      rw [l5]
      exact X3 _ _ _ (hS _ _ hSW (AL _ _)) (h5.alloc _) (Row.new _ _ _) b5 (hB _ hSW) (by have := h5.lt; omega)
  have Y15 : ∀ g6 W, S W → Row W g6 T z → B ≤ g6 → wpAnyH P .any ops Q S (f + 1 + 1) (l true false false true) (tm undef (ptr g6) r1 undef) W := by
    intro g6 W hSW h6 b6
    refine wpAnyH_all (hrd true false false true (fun h => rfl) rfl) (by simp [rdTwo]) (fun j hj => ?_)
    rcases (by simpa [rdTwo] using hj : j = i3 ∨ j = i4) with rfl | rfl
    · refine call3 _ _ _ _ _ hSW (fun W' hb => ⟨hS _ _ hSW hb, ?_⟩)
      rw [l3]
      exact X4 _ _ (hS _ _ hSW hb) (h6.below hb h6.lt) b6
    · refine alloc4 _ _ _ _ _ ⟨hS _ _ hSW (AL _ _), ?_⟩
      rw [l4]
      exact X3 _ _ _ (hS _ _ hSW (AL _ _)) (Row.new _ _ _) (h6.alloc _) (hB _ hSW) b6 (by have := h6.lt; omega)
  have Y45 : ∀ g5 g6 W, S W → Row W g5 T z → Row W g6 T z → B ≤ g5 → B ≤ g6 → g5 ≠ g6 → wpAnyH P .any ops Q S (f + 1 + 1) (l false false true true) (tm (ptr g5) (ptr g6) undef undef) W := by
    intro g5 g6 W hSW h5 h6 b5 b6 hne
    refine wpAnyH_all (hrd false false true true (fun h => by cases h) rfl) (by simp [rdTwo]) (fun j hj => ?_)
    obtain rfl : j = i1 := by simpa [rdTwo] using hj
    refine call1 _ _ _ _ _ hSW (fun W' hb => ⟨hS _ _ hSW hb, ?_⟩)
    rw [l1]
    exact X3 _ _ _ (hS _ _ hSW hb) (h5.below hb h5.lt) (h6.below hb h6.lt) b5 b6 hne
  have Z1 : ∀ W, S W → wpAnyH P .any ops Q S (f + 1 + 1 + 1) (l true false false false) (tm undef undef r1 undef) W := by
    intro W hSW
    refine wpAnyH_all (hrd true false false false (fun h => rfl) rfl) (by simp [rdTwo]) (fun j hj => ?_)
    rcases (by simpa [rdTwo] using hj : j = i3 ∨ j = i4 ∨ j = i5) with rfl | rfl | rfl
    · refine call3 _ _ _ _ _ hSW (fun W' hb => ⟨hS _ _ hSW hb, ?_⟩)
      rw [l3]
      exact Y13 _ (hS _ _ hSW hb)
    · refine alloc4 _ _ _ _ _ ⟨hS _ _ hSW (AL _ _), ?_⟩
      rw [l4]
      exact Y14 _ _ (hS _ _ hSW (AL _ _)) (Row.new _ _ _) (hB _ hSW)
    · refine alloc5 _ _ _ _ _ ⟨hS _ _ hSW (AL _ _), ?_⟩
      rw [l5]
      exact Y15 _ _ (hS _ _ hSW (AL _ _)) (Row.new _ _ _) (hB _ hSW)
  have Z4 : ∀ g5 W, S W → Row W g5 T z → B ≤ g5 → wpAnyH P .any ops Q S (f + 1 + 1 + 1) (l false false true false) (tm (ptr g5) undef undef undef) W := by
    intro g5 W hSW h5 b5
    refine wpAnyH_all (hrd false false true false (fun h => by cases h) rfl) (by simp [rdTwo]) (fun j hj => ?_)
    rcases (by simpa [rdTwo] using hj : j = i1 ∨ j = i5) with rfl | rfl
    · refine call1 _ _ _ _ _ hSW (fun W' hb => ⟨hS _ _ hSW hb, ?_⟩)
      rw [l1]
      exact Y14 _ _ (hS _ _ hSW hb) (h5.below hb h5.lt) b5
    · refine alloc5 _ _ _ _ _ ⟨hS _ _ hSW (AL _ _), ?_⟩
      rw [l5]
      exact Y45 _ _ _ (hS _ _ hSW (AL _ _)) (h5.alloc _) (Row.new _ _ _) b5 (hB _ hSW) (by have := h5.lt; omega)
  have Z5 : ∀ g6 W, S W → Row W g6 T z → B ≤ g6 → wpAnyH P .any ops Q S (f + 1 + 1 + 1) (l false false false true) (tm undef (ptr g6) undef undef) W := by
    intro g6 W hSW h6 b6
    refine wpAnyH_all (hrd false false false true (fun h => by cases h) rfl) (by simp [rdTwo]) (fun j hj => ?_)
    rcases (by simpa [rdTwo] using hj : j = i1 ∨ j = i4) with rfl | rfl
    · refine call1 _ _ _ _ _ hSW (fun W' hb => ⟨hS _ _ hSW hb, ?_⟩)
      rw [l1]
      exact Y15 _ _ (hS _ _ hSW hb) (h6.below hb h6.lt) b6
    · refine alloc4 _ _ _ _ _ ⟨hS _ _ hSW (AL _ _), ?_⟩
      rw [l4]
      exact Y45 _ _ _ (hS _ _ hSW (AL _ _)) (Row.new _ _ _) (h6.alloc _) (hB _ hSW) b6 (by have := h6.lt; omega)
  intro W hSW
  refine wpAnyH_all (hrd false false false false (fun h => by cases h) rfl) (by simp [rdTwo]) (fun j hj => ?_)
  rcases (by simpa [rdTwo] using hj : j = i1 ∨ j = i4 ∨ j = i5) with rfl | rfl | rfl
  · refine call1 _ _ _ _ _ hSW (fun W' hb => ⟨hS _ _ hSW hb, ?_⟩)
    rw [l1]
    exact Z1 _ (hS _ _ hSW hb)
  · refine alloc4 _ _ _ _ _ ⟨hS _ _ hSW (AL _ _), ?_⟩
    rw [l4]
    exact Z4 _ _ (hS _ _ hSW (AL _ _)) (Row.new _ _ _) (hB _ hSW)
  · refine alloc5 _ _ _ _ _ ⟨hS _ _ hSW (AL _ _), ?_⟩
    rw [l5]
    exact Z5 _ _ (hS _ _ hSW (AL _ _)) (Row.new _ _ _) (hB _ hSW)
end Go.Proofs.YtbheoldakmcppaaGreatDoor

/-! What hkdf.mac answers. -/
namespace Go.Proofs.YtbheoldakmcppaaGreatDoor
open Go Go.RowKit

theorem joinB_cons (q : SL) (ls : List SL) : joinB (q :: ls) = q.b ++ joinB ls := by simp [joinB]

/-- A row of the call's own that is not empty. -/
theorem own_slice {w : World} {base n : Nat} {e : TypeId} {v : Value} {xs : List Value} (h : w.ownsRow base e 1 v n xs) (hn : 0 < n) : ∃ g c, v = .slice (some ⟨g, 0, none⟩) n c ∧ g < w.heap.size ∧ base ≤ g ∧ ∀ j u, xs[j]? = some u → w.cell? ⟨g, 0 + j, none⟩ = some u := by
  rcases h.2 with ⟨_, rfl⟩ | ⟨g, c, cur, rfl, hg, hh, _, _, _, _⟩
  · omega
  · refine ⟨g, c, rfl, (Array.getElem?_eq_some_iff.1 hh).1, hg, fun j u hu => ?_⟩
    have := h.cells (g := g) rfl j u hu
    rw [add_off] at this
    rw [Nat.zero_add]
    exact this
theorem own_built (w : World) (base : Nat) (t : TypeId) (v : Value) (hb : base ≤ w.heap.size) : (w.alloc (.cells #[v] t)).ownsRow base t 1 (.slice (some ⟨w.heap.size, 0, none⟩) 1 1) 1 [v] :=
  ⟨rfl, .inr ⟨w.heap.size, 1, #[v], rfl, hb, heap_alloc_new w _, Nat.le_refl _, by unfold maxLen; omega, rfl, rfl⟩⟩
theorem vls_get (ls : List SL) (j : Nat) (u : Value) (h : (vls ls).toList[j]? = some u) : ∃ s, ls[j]? = some s ∧ u = .slice s.a s.len s.cap := by
  unfold vls at h
  rw [List.getElem?_map] at h
  cases hs : ls[j]? with
  | none => rw [hs] at h; cases h
  | some s => rw [hs] at h; exact ⟨s, rfl, (Option.some.inj h).symm⟩

set_option maxRecDepth 20000 in
set_option maxHeartbeats 1000000 in
theorem mac_any (k : List By) (hk : k.length = 64) (L o m c : Nat) (ls : List SL) (w : World) (hm : ls.length = m) (hm2 : m ≤ 900) (hok : ∀ s ∈ ls, s.Ok w) (htot : (joinB ls).length ≤ 1048512) (hL : L < w.heap.size)
    (hc : ∀ (j : Nat) (s : SL), ls[j]? = some s → w.cell? ⟨L, o + j, none⟩ = some (.slice s.a s.len s.cap)) :
    Calls Tryz.prog 188 #[.agg (bs k), .slice (some ⟨L, o, none⟩) m c] w fun e w' => e = .returned (.agg (bs (macK k (joinB ls)))) ∧ Below w.heap.size w w' := by
  have HK := veil hk
  have HM := veil hm
  have HOK := veil hok
  have HC := veil hc
  have HT := veil htot
  clear hk hm hok hc htot
  have hksz : (bs k).size = 64 := by rw [bs_size, HK.out]
  have b0 : Below w.heap.size w ((w.alloc (.cells (bs k) 253)).alloc (.cells (bs z32) 78)) := ((Below.refl _ w).alloc (Nat.le_refl _) _).alloc (by simp) _
  obtain ⟨w0, hw0⟩ : ∃ w0, w0 = (w.alloc (.cells (bs k) 253)).alloc (.cells (bs z32) 78) := ⟨_, rfl⟩
  have q0 : Row w0 w.heap.size 253 (bs k) := by rw [hw0]; exact (Row.new _ _ _).alloc _
  have q1 : Row w0 (w.heap.size + 1) 78 (bs z32) := by rw [hw0]; exact Row.new1 _ _ _ _
  have hs0 : w0.heap.size = w.heap.size + 2 := by rw [hw0]; simp
  rw [← hw0] at b0
  go_enter Tryz.func188, Tryz.ntmps188
  go_wp2_with (with_reducible (show wpList _ _ _ (⟨_, Op.alloc 78, _, _, _, _⟩ :: _) _ _)
               refine alloc_row rfl 78 rfl (bs z32) (by kernel_rfl) ?_)
  show Code.wp _ _ _ _ ((w.alloc (.cells (bs k) 253)).alloc (.cells (bs z32) 78))
  rw [← hw0]
  clear hw0
  refine wp_mono (Q := fun e a' W => e = .normal ∧ ∃ g5 g6, g5 ≠ g6 ∧ w.heap.size + 2 ≤ g5 ∧ w.heap.size + 2 ≤ g6 ∧ a' = ({ tmps := #[.agg (bs k), .slice (some ⟨L, o, none⟩) m c, ptr w.heap.size, undef, ptr (w.heap.size + 1), ptr g5, ptr g6, undef, .agg (bs k), .agg (bs (padX k 54)), .agg (bs k), .agg (bs (padX k 92)), undef, undef, undef, undef, undef, undef, undef, undef, undef], defers := [] } : Act) ∧
      Row W g5 187 (bs (padX k 54)) ∧ Row W g6 187 (bs (padX k 92)) ∧ Row W (w.heap.size + 1) 78 (bs z32) ∧ Below w.heap.size w W) ?_ ?_
  · refine held_any (S := fun W => Row W w.heap.size 253 (bs k) ∧ Row W (w.heap.size + 1) 78 (bs z32) ∧ Below w.heap.size w W) (by kernel_rfl) ⟨q0.drew, q1.drew, b0.drew⟩ (fun W hW => ?_)
    refine H_load 0 253 _ w.heap.size 253 (bs k) 64 5 rfl rfl rfl Tryz.underlying253 (by kernel_rfl) hksz (fun W h => h.1) (by kernel_rfl) (by kernel_rfl) (by kernel_rfl) (fun _ _ _ _ h => nomatch h.1) rfl hW ?_
    refine H_load 2 253 _ w.heap.size 253 (bs k) 64 5 rfl rfl rfl Tryz.underlying253 (by kernel_rfl) hksz (fun W h => h.1) (by kernel_rfl) (by kernel_rfl) (by kernel_rfl) (fun _ _ _ _ h => nomatch h.1) rfl hW ?_
    refine two_two (w.heap.size + 2) 187 (bs zB) 1 3 4 5
      (fun v5 v6 v9 v11 => { tmps := #[.agg (bs k), .slice (some ⟨L, o, none⟩) m c, ptr w.heap.size, undef, ptr (w.heap.size + 1), v5, v6, undef, .agg (bs k), v9, .agg (bs k), v11, undef, undef, undef, undef, undef, undef, undef, undef, undef], defers := [] })
      (fun c1 c3 c4 c5 => #[true, c1, true, c3, c4, c5, false, false]) (.agg (bs (padX k 54))) (.agg (bs (padX k 92)))
      ?_ (fun _ _ => rfl) (fun _ _ => rfl) (fun _ _ _ => rfl) (fun _ _ _ => rfl) ?_ ?_ ?_ ?_ ?_ ?_ 2 ?_ W hW
    · intro c1 c3 c4 c5 h1 h2
      cases c1 <;> cases c3 <;> cases c4 <;> cases c5 <;> first | (simp at h1; done) | (simp at h2; done) | kernel_rfl
    · intro v5 v6 v11 W K hS hK
      refine O_call rfl rfl 196 #[.agg (bs k), .int .u8 (v8 54)] (by go_simp; rfl) ?_
      exact (pad_any k 54 HK.out W).mono (by rintro e W' ⟨rfl, hb⟩; exact ⟨_, rfl, hK W' hb⟩)
    · intro v5 v6 v9 W K hS hK
      refine O_call rfl rfl 196 #[.agg (bs k), .int .u8 (v8 92)] (by go_simp; rfl) ?_
      exact (pad_any k 92 HK.out W).mono (by rintro e W' ⟨rfl, hb⟩; exact ⟨_, rfl, hK W' hb⟩)
    · intro v6 v9 v11 W K hK
      exact O_value rfl rfl _ _ (exec_alloc_row 187 rfl (bs zB) (by kernel_rfl)) hK
    · intro v5 v9 v11 W K hK
      exact O_value rfl rfl _ _ (exec_alloc_row 187 rfl (bs zB) (by kernel_rfl)) hK
    · rintro W W' ⟨h0, h1, h2⟩ hb
      exact ⟨h0.below hb h0.lt, h1.below hb h1.lt, h2.trans (hb.mono h2.size)⟩
    · rintro W ⟨h0, h1, h2⟩
      have := h1.lt
      omega
    · rintro g5 g6 W ⟨h0, h1, h2⟩ r5 r6 b5 b6 hne
      have hp5 : (bs (padX k 54)).size = 64 := by rw [bs_size, padX_length, HK.out]
      have hp6 : (bs (padX k 92)).size = 64 := by rw [bs_size, padX_length, HK.out]
      have hS5 := bSetRow h2 (show w.heap.size ≤ g5 by omega) (bs (padX k 54))
      refine H_one 6 (by kernel_rfl) (O_skip rfl rfl _ (run_store_row 187 _ _ rfl g5 (bs (padX k 54)) rfl rfl _ _ r5 64 (by kernel_rfl) rfl hp5 (bs_one _)) ⟨⟨h0.putOther (by omega) _, h1.putOther (by omega) _, hS5⟩, ?_⟩)
      have r6' := r6.putOther (fun e => hne e.symm) (bs (padX k 54))
      refine H_one 7 (by kernel_rfl) (O_skip rfl rfl _ (run_store_row 187 _ _ rfl g6 (bs (padX k 92)) rfl rfl _ _ r6' 64 (by kernel_rfl) rfl hp6 (bs_one _)) ⟨⟨(h0.putOther (by omega) _).putOther (by omega) _, (h1.putOther (by omega) _).putOther (by omega) _, bSetRow hS5 (by omega) _⟩, ?_⟩)
      refine wpAnyH_done (by kernel_rfl) ⟨rfl, g5, g6, hne, b5, b6, rfl, (r5.put _).putOther hne _, r6'.put _, (h1.putOther (by omega) _).putOther (by omega) _, bSetRow hS5 (by omega) _⟩ _
  · rintro e a' W ⟨rfl, g5, g6, hne, b5, b6, rfl, r5, r6, r4, hbel⟩
    clear b0 q0 q1 hs0 w0
    have hpl : ∀ x, (padX k x).length = 64 := fun x => by rw [padX_length, HK.out]
    have hsz := hbel.size
    have hr5 := r5.lt
    have hr6 := r6.lt
    have hr4 := r4.lt
    obtain ⟨i2, hi, hz0, hz1, hz2⟩ := info_parts (P := Tryz.prog) (e := 22) (z := .slice none 0 0) (size := 1) (bytes := 24) (by kernel_rfl)
    have HR5 := veil r5
    have HR6 := veil r6
    have HR4 := veil r4
    have HBL := veil hbel
    have HPL := veil hpl
    clear r5 r6 r4 hbel hpl
    unfold ptr
    go_wp2_with (with_reducible (show wpList _ _ _ (⟨some 15, Op.call _, _, _, _, _⟩ :: _) _ _)
                 refine wpList_append_own _ rfl _ _ 108 rfl W.heap.size 22 i2 (.slice none 0 0) 1 24 Tryz.underlying108 hi hz0 hz1 hz2 rfl (by decide) _ 1 _ rfl (own_built W W.heap.size _ _ (Nat.le_refl _)) ⟨L, o, none⟩ m c (vls ls).toList rfl (by simp [vls, HM.out]) (fun j u hu => by
                   obtain ⟨s, hs, rfl⟩ := vls_get ls j u hu
                   rw [add_at]
                   have hbA : Below W.heap.size W (W.alloc (.cells #[.slice (some ⟨g5, 0, none⟩) 64 64] 22)) := (Below.refl _ W).alloc (Nat.le_refl _) _
                   exact (hbA.cell (p := ⟨L, o + j, none⟩) (by show L < W.heap.size; omega)).trans ((HBL.out.cell (p := ⟨L, o + j, none⟩) hL).trans (HC.out j s hs))) (fun u hu => by
                   obtain ⟨s, _, rfl⟩ := List.mem_map.1 (by simpa [vls] using hu)
                   rfl) (by unfold maxLen; omega) (by omega) (by simp) ?_
                 intro v2 w2 hown2 hgrow2 _
                 obtain ⟨g2, c2, rfl, hg2, hg2', hcs2⟩ := own_slice hown2 (by omega))
    have hbA : Below W.heap.size W w2 := ((Below.refl _ W).alloc (Nat.le_refl _) _).grown hgrow2 (by simp) (fun q e => by cases e; exact Nat.le_refl _)
    clear hown2 hgrow2
    have hs2 := hbA.size
    have m5 := HR5.out.below hbA hr5
    have m6 := HR6.out.below hbA hr6
    have m4 := HR4.out.below hbA hr4
    have hb2 := HBL.out.trans (hbA.mono hsz)
    have hjs : joinB (rowN g5 64 (padX k 54) :: ls) = padX k 54 ++ joinB ls := joinB_cons _ _
    refine (sumOf_any g2 0 (1 + m) c2 (rowN g5 64 (padX k 54) :: ls) w2 (by rw [List.length_cons, HM.out]; omega) (by omega) (fun s hs => by
      rcases List.mem_cons.1 hs with rfl | hs
      · exact rowN_ok m5 (HPL.out 54)
      · exact ((HOK.out s hs).below hb2)) (by rw [hjs, List.length_append, HPL.out]; have := HT.out; omega) hg2 (fun j s hs => hcs2 j _ (by
      cases j with
      | zero => obtain rfl := Option.some.inj hs; rfl
      | succ j =>
        have hs' : ls[j]? = some s := hs
        show (vls ls).toList[j]? = _
        unfold vls
        rw [List.getElem?_map, hs']
        rfl))).mono ?_
    rintro e3 w3 ⟨rfl, hb3⟩
    rw [hjs]
    obtain ⟨T, hT⟩ : ∃ T, T = sumL (padX k 54 ++ joinB ls) := ⟨_, rfl⟩
    have hTl : T.length = 32 := by rw [hT, sumL_length]
    have HTT := veil hT
    rw [← hT]
    have k6 := m6.below hb3 m6.lt
    have k4 := m4.below hb3 m4.lt
    have hbl3 := hb2.trans (hb3.mono hb2.size)
    have hs3 := hb3.size
    clear hb3 hb2 m5 m6 m4 hjs hcs2 hT hbA
    have hsum : (bs T).size = 32 := by rw [bs_size, hTl]
    go_wp2_with (first
      | (with_reducible (show wpList _ _ _ (⟨_, Op.alloc 78, _, _, _, _⟩ :: _) _ _)
         refine alloc_row rfl 78 rfl (bs z32) (by kernel_rfl) ?_)
      | (with_reducible (show wpList _ _ _ (⟨_, Op.store 78 _ _, _, _, _, _⟩ :: _) _ _)
         refine store_new (w := w3) (by rfl) 78 _ _ (by rfl) w3.heap.size (bs T) (by rfl) (by rfl) 78 (bs z32) (by rfl) 32 (by kernel_rfl) (by rfl) hsum (bs_one _) ?_))
    have n7 : Row (w3.alloc (.cells (bs T) 78)).drew w3.heap.size 78 (bs T) := (Row.new _ _ _).drew
    have n6 := (k6.alloc (.cells (bs T) 78)).drew
    have n4 := (k4.alloc (.cells (bs T) 78)).drew
    have hbl4 := (hbl3.alloc hbl3.size (.cells (bs T) 78)).drew
    refine held_at (by kernel_rfl) ?_
    generalize (w3.alloc (.cells (bs T) 78)).drew = w4 at *
    have hs4 := hbl4.size
    have hn6 := n6.lt
    have hn4 := n4.lt
    refine H_take 0 (.slice (some ⟨g6, 0, none⟩) 64 64) rfl (fun W _ => by go_simp) (by kernel_rfl) (by kernel_rfl) (by kernel_rfl) (fun _ _ _ _ h => h) rfl trivial ?_
    refine H_take 1 (.slice (some ⟨w3.heap.size, 0, none⟩) 32 32) rfl (fun W _ => by go_simp) (by kernel_rfl) (by kernel_rfl) (by kernel_rfl) (fun _ _ _ _ h => h) rfl trivial ?_
    refine H_one 2 (by kernel_rfl) (O_value rfl rfl (.slice (some ⟨w4.heap.size, 0, none⟩) 2 2) (w4.alloc (.cells (vls [rowN g6 64 (padX k 92), rowN w3.heap.size 32 T]) 22)) (by go_simp; rfl) ⟨trivial, ?_⟩)
    have hjs : joinB [rowN g6 64 (padX k 92), rowN w3.heap.size 32 T] = padX k 92 ++ T := by rw [joinB_cons, joinB_one]; rfl
    refine H_one 3 (by kernel_rfl) (O_call rfl rfl 189 #[.slice (some ⟨w4.heap.size, 0, none⟩) 2 2] (by go_simp) ?_)
    have hbB : Below w4.heap.size w4 (w4.alloc (.cells (vls [rowN g6 64 (padX k 92), rowN w3.heap.size 32 T]) 22)) := (Below.refl _ w4).alloc (Nat.le_refl _) _
    refine (sumOf_any w4.heap.size 0 2 2 [rowN g6 64 (padX k 92), rowN w3.heap.size 32 T] _ rfl (by decide) (fun s hs => by
      simp only [List.mem_cons, List.not_mem_nil, or_false] at hs
      rcases hs with rfl | rfl
      · exact (rowN_ok n6 (HPL.out 92)).alloc _
      · exact (rowN_ok n7 hTl).alloc _) (by rw [hjs, List.length_append, HPL.out, hTl]; omega) (by simp) (fun j s hs => new_lists w4 _ _ _ rfl j s hs)).mono ?_
    rintro e5 w5 ⟨rfl, hb5⟩
    rw [hjs]
    have hmac : sumL (padX k 92 ++ T) = macK k (joinB ls) := by rw [HTT.out]; rfl
    rw [hmac]
    have hb45 : Below w4.heap.size w4 w5 := hbB.trans (hb5.mono (by simp))
    have p4 := n4.below hb45 hn4
    have hbl5 := hbl4.trans (hb45.mono hs4)
    have hfin : (bs (macK k (joinB ls))).size = 32 := by rw [bs_size, macK_length]
    refine ⟨_, rfl, trivial, ?_⟩
    refine H_one 4 (by kernel_rfl) (O_skip rfl rfl _ (run_store_row 78 _ _ rfl (w.heap.size + 1) (bs (macK k (joinB ls))) rfl rfl _ _ p4 32 (by kernel_rfl) rfl hfin (bs_one _)) ⟨trivial, ?_⟩)
    refine wpAnyH_done (by kernel_rfl) ?_ _
    have p5 := p4.put (bs (macK k (joinB ls)))
    have hbl6 := bSetRow hbl5 (show w.heap.size ≤ w.heap.size + 1 by omega) (bs (macK k (joinB ls)))
    generalize w5.setRow (w.heap.size + 1) (bs (macK k (joinB ls))) = w6 at *
    go_wp2
    refine bodyPost_ret (result_row rfl _ _ (w.heap.size + 1) _ _ p5 32 5 rfl Tryz.underlying78 (by kernel_rfl) hfin) rfl ⟨rfl, hbl6⟩
end Go.Proofs.YtbheoldakmcppaaGreatDoor
