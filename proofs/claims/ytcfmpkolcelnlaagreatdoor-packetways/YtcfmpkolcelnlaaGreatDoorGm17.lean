/-
  Out of HkMac, HkKey.
-/
import Derived.Test.YtcfmpkolcelnlaaGreatDoorGmHkHeld

/-! What hkdf.sumOf, pad and asMacKey answer. -/
namespace Go.Proofs.YtcfmpkolcelnlaaGreatDoor
open Go Go.RowKit

set_option maxRecDepth 20000 in
set_option maxHeartbeats 1000000 in
theorem sumOf_any (L o m c : Nat) (ls : List SL) (w : World) (hm : ls.length = m) (hm2 : m ≤ 1000) (hok : ∀ s ∈ ls, s.Ok w) (htot : (joinB ls).length ≤ 1048576) (hL : L < w.heap.size)
    (hc : ∀ (j : Nat) (s : SL), ls[j]? = some s → w.cell? ⟨L, o + j, none⟩ = some (.slice s.a s.len s.cap)) :
    Calls Tryz.prog 200 #[.slice (some ⟨L, o, none⟩) m c] w fun e w' => e = .returned (.agg (bs (sumL (joinB ls)))) ∧ Below w.heap.size w w' := by
  have HM := veil hm
  have HOK := veil hok
  have HC := veil hc
  have HT := veil htot
  clear hm hok hc htot
  go_enter Tryz.func200, Tryz.ntmps200
  go_wp2_with (with_reducible (show wpList _ _ _ (⟨_, Op.alloc 112, _, _, _, _⟩ :: _) _ _)
               refine alloc_row rfl 112 rfl (bs z32) (by kernel_rfl) ?_)
  have hb0 : Below w.heap.size w (w.alloc (.cells (bs z32) 112)) := (Below.refl _ w).alloc (Nat.le_refl _) _
  refine (concat_any L o m c ls _ HM.out hm2 (fun s hs => (HOK.out s hs).alloc _) (by have := HT.out; omega) (by simp; omega) (fun j s hs => (hb0.cell (p := ⟨L, o + j, none⟩) hL).trans (HC.out j s hs))).mono ?_
  rintro e1 w1 ⟨s, rfl, hok1, hsb, hb1⟩
  have q0 : Row w1 w.heap.size 112 (bs z32) := Row.below (Row.new _ _ _) hb1 (by simp)
  have hbel1 : Below w.heap.size w w1 := hb0.trans (hb1.mono (by simp))
  clear hb0 hb1
  go_wp2_with fail
  refine (sum_any s.g s.off s.a s.len s.cap s.b w1 hok1.hb (by rw [← hok1.hb, hsb]; exact HT.out) hok1.hcap hok1.at_ hok1.lt hok1.cell).mono ?_
  rintro e2 w2 ⟨rfl, hb2⟩
  have q1 := q0.below hb2 q0.lt
  have hbel2 := hbel1.trans (hb2.mono hbel1.size)
  rw [hsb]
  clear hb2 hbel1 q0 hok1 hsb
  have hsum : (bs (sumL (joinB ls))).size = 32 := by rw [bs_size, sumL_length]
  obtain ⟨T, hT⟩ : ∃ T, T = sumL (joinB ls) := ⟨_, rfl⟩
  have HTT := veil hT
  rw [← hT] at hsum ⊢
  clear hT
  have hq1 := q1.lt
  have q2 := q1.alloc (.cells (bs T) 112)
  go_wp2_with (first
    | (with_reducible (show wpList _ _ _ (⟨_, Op.alloc 112, _, _, _, _⟩ :: _) _ _)
       refine alloc_row rfl 112 rfl (bs z32) (by kernel_rfl) ?_)
    | (with_reducible (show wpList _ _ _ (⟨_, Op.store 112 (.tmp 3) _, _, _, _, _⟩ :: _) _ _)
       refine store_new (w := w2) (by rfl) 112 _ _ (by rfl) w2.heap.size (bs T) (by rfl) (by rfl) 112 (bs z32) (by rfl) 32 (by kernel_rfl) (by rfl) hsum (bs_one _) ?_)
    | (with_reducible (show wpList _ _ _ (⟨_, Op.load 112 _, _, _, _, _⟩ :: _) _ _)
       refine load_row rfl 112 _ rfl w2.heap.size rfl _ _ (Row.new _ _ _) 32 5 Tryz.underlying112 (by kernel_rfl) hsum ?_)
    | (with_reducible (show wpList _ _ _ (⟨_, Op.store 112 (.tmp 2) _, _, _, _, _⟩ :: _) _ _)
       refine store_row rfl 112 _ _ rfl w.heap.size (bs T) rfl rfl _ _ q2 32 (by kernel_rfl) (by rfl) hsum (bs_one _) ?_))
  refine bodyPost_ret (result_row rfl _ _ w.heap.size _ _ (q2.put _) 32 5 rfl Tryz.underlying112 (by kernel_rfl) hsum) rfl ⟨by rw [HTT.out], bSetRow (hbel2.alloc hbel2.size _) (Nat.le_refl _) _⟩

theorem b8x (a b : By) : bits .xor .u8 (v8 a) (v8 b) = v8 (a ^^^ b) := by
  rw [u8_xor _ _ (v8_nn a) (by have := v8_le a; omega) (v8_nn b) (by have := v8_le b; omega)]
  unfold v8
  rw [BitVec.toNat_xor]
  simp
/-- A key whose first bytes were taken against a byte. -/
def padTo (k : List By) (x : By) (i : Nat) : List By := (padX k x).take i ++ k.drop i
theorem padTo_length (k : List By) (x : By) (i : Nat) (h : i ≤ k.length) : (padTo k x i).length = k.length := by
  unfold padTo
  rw [List.length_append, List.length_take, List.length_drop, padX_length]
  omega
theorem padTo_get (k : List By) (x : By) (i : Nat) (h : i < k.length) : gb (padTo k x i) i = gb k i := by
  unfold padTo gb
  rw [List.getElem?_append_right (by rw [List.length_take, padX_length]; omega), List.length_take, padX_length, Nat.min_eq_left (by omega), Nat.sub_self, List.getElem?_drop, Nat.add_zero]
theorem padTo_set (k : List By) (x : By) (i : Nat) (h : i < k.length) : (padTo k x i).set i (gb k i ^^^ x) = padTo k x (i + 1) := by
  unfold padTo
  have hl : ((padX k x).take i).length = i := by rw [List.length_take, padX_length]; omega
  rw [List.drop_eq_getElem_cons h, List.set_append_right _ _ (by omega), hl, Nat.sub_self, List.set_cons_zero, List.take_add_one]
  have e : (padX k x)[i]? = some (gb k i ^^^ x) := by
    unfold padX gb
    rw [List.getElem?_map, List.getElem?_eq_getElem h]
    rfl
  rw [e]
  simp

set_option maxRecDepth 20000 in
set_option maxHeartbeats 1000000 in
theorem pad_any (k : List By) (x : By) (hk : k.length = 64) (w : World) :
    Calls Tryz.prog 204 #[.agg (bs k), .int .u8 (v8 x)] w fun e w' => e = .returned (.agg (bs (padX k x))) ∧ Below w.heap.size w w' := by
  have HK := veil hk
  have hx0 := v8_nn x
  have hx1 := v8_le x
  clear hk
  go_enter Tryz.func204, Tryz.ntmps204
  go_wp2_with (with_reducible (show wpList _ _ _ (⟨_, Op.alloc 216, _, _, _, _⟩ :: _) _ _)
               refine alloc_row rfl 216 rfl (bs zB) (by kernel_rfl) ?_)
  go_loopw [6] (fun i wr => ∃ t : Nat, t ≤ 64 ∧ i = .int .i64 t ∧ Row wr w.heap.size 260 (bs (padTo k x t)) ∧ Row wr (w.heap.size + 1) 216 (bs zB) ∧ Below w.heap.size w wr)
    (fun i _ => 64 - (intOf i).toNat)
  case atStart => exact ⟨0, by omega, rfl, (Row.new _ _ _).alloc _, Row.new1 _ _ _ _, ((Below.refl _ w).alloc (Nat.le_refl _) _).alloc (by simp) _⟩
  case round =>
    obtain ⟨t, ht, rfl, r0, r1, hbel⟩ := hrel
    by_cases hlt : t < 64
    · have c0 := r0.cellB (j := t) (by rw [padTo_length _ _ _ (by rw [HK.out]; exact ht), HK.out]; exact hlt)
      have HG := veil (padTo_get k x t (by rw [HK.out]; exact hlt))
      have HSt := veil (padTo_set k x t (by rw [HK.out]; exact hlt))
      rw [HG.out] at c0
      have f0 := r0.frozen t
      have hy0 := v8_nn (gb k t)
      have hy1 := v8_le (gb k t)
      generalize gb k t = y at *
      have hbx := b8x y x
      go_wp2
      go_roundw
      case rel =>
        refine ⟨t + 1, by omega, by go_num, ?_, r1.other (by show w.heap.size + 1 ≠ w.heap.size; omega) _, hbel.setCell (p := ⟨w.heap.size, t, none⟩) (Nat.le_refl _) _⟩
        have := r0.set t (.int .u8 (v8 (y ^^^ x)))
        rw [bs_set, HSt.out] at this
        exact this
      case measure => simp [intOf]; omega
    · obtain rfl : t = 64 := by omega
      have e : padTo k x 64 = padX k x := by
        unfold padTo
        rw [List.take_of_length_le (by rw [padX_length, HK.out]; exact Nat.le_refl _), List.drop_eq_nil_of_le (by rw [HK.out]; exact Nat.le_refl _), List.append_nil]
      rw [e] at r0
      have hsz : (bs (padX k x)).size = 64 := by rw [bs_size, padX_length, HK.out]
      go_wp2_with (first
        | (with_reducible (show wpList _ _ _ (⟨_, Op.load 260 _, _, _, _, _⟩ :: _) _ _)
           refine load_row rfl 260 _ rfl w.heap.size rfl _ _ r0 64 5 Tryz.underlying260 (by kernel_rfl) hsz ?_)
        | (with_reducible (show wpList _ _ _ (⟨_, Op.store 216 _ _, _, _, _, _⟩ :: _) _ _)
           refine store_row rfl 216 _ _ rfl (w.heap.size + 1) (bs (padX k x)) rfl rfl _ _ r1 64 (by kernel_rfl) (by rfl) hsz (bs_one _) ?_))
      refine bodyPost_ret (result_row rfl _ _ (w.heap.size + 1) _ _ (r1.put _) 64 5 rfl Tryz.underlying216 (by kernel_rfl) hsz) rfl ⟨rfl, bSetRow hbel (by omega) _⟩
end Go.Proofs.YtcfmpkolcelnlaaGreatDoor

/-! What hkdf.asMacKey answers. -/
namespace Go.Proofs.YtcfmpkolcelnlaaGreatDoor
open Go Go.RowKit

theorem keyL_long (b : List By) (h : 64 < b.length) : keyL b = sumL b ++ zB.drop 32 := by
  unfold keyL
  rw [if_pos h]
  rfl
theorem keyL_short (b : List By) (h : ¬ 64 < b.length) : keyL b = b ++ zB.drop b.length := by
  unfold keyL zB
  rw [if_neg h, List.drop_replicate]
theorem joinB_one (q : SL) : joinB [q] = q.b := by simp [joinB]

/-- A new row of slices. -/
def vls (ls : List SL) : Array Value := (ls.map fun s => Value.slice s.a s.len s.cap).toArray
theorem new_lists (w : World) (ls : List SL) (t : TypeId) (g : Nat) (hg : g = w.heap.size) (j : Nat) (s : SL) (h : ls[j]? = some s) : (w.alloc (.cells (vls ls) t)).cell? ⟨g, 0 + j, none⟩ = some (.slice s.a s.len s.cap) := by
  subst hg
  rw [Nat.zero_add, (Row.new w t (vls ls)).cell j]
  unfold vls
  simp [h]
section
variable {P : Program} {ops : Array Oper} {Q : Exit → Act → World → Prop} {a : Act} {w : World}
/-- The beginning, at the world at hand. -/
theorem held_at {id : Nat} (hm : P.follows .mixedOrders = true) (h : wpAnyH P .any ops Q (fun _ => True) ops.size (Array.replicate ops.size false) a w.drew) : (Code.region id ops true).wp P Q a w :=
  wp_region_held hm h
end

set_option maxRecDepth 20000 in
set_option maxHeartbeats 1000000 in
theorem key_any (q : SL) (w : World) (hq : q.Ok w) (hl : q.len ≤ 1048576) :
    Calls Tryz.prog 185 #[.slice q.a q.len q.cap] w fun e w' => e = .returned (.agg (bs (keyL q.b))) ∧ Below w.heap.size w w' := by
  have HQ := veil hq
  have hkl := veil (keyL_length q.b)
  have hsz : (bs (keyL q.b)).size = 64 := by rw [bs_size, hkl.out]
  have hbl := hq.hb
  clear hq
  have b0 : Below w.heap.size w ((w.alloc (.cells (bs zB) 260)).alloc (.cells (bs zB) 260)) := ((Below.refl _ w).alloc (Nat.le_refl _) _).alloc (by simp) _
  obtain ⟨w0, hw0⟩ : ∃ w0, w0 = (w.alloc (.cells (bs zB) 260)).alloc (.cells (bs zB) 260) := ⟨_, rfl⟩
  have q0 : Row w0 w.heap.size 260 (bs zB) := by rw [hw0]; exact (Row.new _ _ _).alloc _
  have q1 : Row w0 (w.heap.size + 1) 260 (bs zB) := by rw [hw0]; exact Row.new1 _ _ _ _
  have hs0 : w0.heap.size = w.heap.size + 1 + 1 := by rw [hw0]; simp
  rw [← hw0] at b0
  go_enter Tryz.func185, Tryz.ntmps185
  by_cases hlt : (64 : Int) < (q.len : Int)
  · have HKL := veil (keyL_long q.b (by omega))
    go_wp2_with (with_reducible (show wpList _ _ _ (⟨_, Op.alloc 260, _, _, _, _⟩ :: _) _ _)
                 refine alloc_row rfl 260 rfl (bs zB) (by kernel_rfl) ?_)
    show Calls _ _ _ (((w.alloc (.cells (bs zB) 260)).alloc (.cells (bs zB) 260)).alloc (.cells (vls [q]) 30)) _
    rw [← hw0]
    refine (sumOf_any (w.heap.size + 1 + 1) 0 1 1 [q] _ rfl (by decide) (fun s hs => by
      obtain rfl : s = q := by simpa using hs
      exact (HQ.out.below b0).alloc _) (by rw [joinB_one]; omega) (by simp; omega) (fun j s hs => new_lists w0 [q] _ _ hs0.symm j s hs)).mono ?_
    rintro e1 w1 ⟨rfl, hb1⟩
    rw [joinB_one]
    have hbA : Below w0.heap.size w0 (w0.alloc (.cells (vls [q]) 30)) := (Below.refl _ w0).alloc (Nat.le_refl _) _
    have hb01 : Below w0.heap.size w0 w1 := hbA.trans (hb1.mono (by simp))
    have k0 := q0.below hb01 q0.lt
    have k1 := q1.below hb01 q1.lt
    have b1 := b0.trans (hb01.mono (by omega))
    have hs1 := hb01.size
    clear hb1 hbA hb01 q0 q1 b0
    have hsum : (bs (sumL q.b)).size = 32 := by rw [bs_size, sumL_length]
    go_wp2_with (first
      | (with_reducible (show wpList _ _ _ (⟨_, Op.alloc 112, _, _, _, _⟩ :: _) _ _)
         refine alloc_row rfl 112 rfl (bs z32) (by kernel_rfl) ?_)
      | (with_reducible (show wpList _ _ _ (⟨_, Op.store 112 (.tmp 4) _, _, _, _, _⟩ :: _) _ _)
         refine store_new (w := w1) (by rfl) 112 _ _ (by rfl) w1.heap.size (bs (sumL q.b)) (by rfl) (by rfl) 112 (bs z32) (by rfl) 32 (by kernel_rfl) (by rfl) hsum (bs_one _) ?_))
    refine held_at (by kernel_rfl) ?_
    refine H_take 0 (.slice (some ⟨w.heap.size + 1, 0, none⟩) 64 64) rfl (fun W _ => by go_simp) (by kernel_rfl) (by kernel_rfl) (by kernel_rfl) (fun _ _ _ _ h => h) rfl trivial ?_
    refine H_take 1 (.slice (some ⟨w1.heap.size, 0, none⟩) 32 32) rfl (fun W _ => by go_simp) (by kernel_rfl) (by kernel_rfl) (by kernel_rfl) (fun _ _ _ _ h => h) rfl trivial ?_
    have r4 : Row (w1.alloc (.cells (bs (sumL q.b)) 112)) w1.heap.size 112 (bs (sumL q.b)) := Row.new _ _ _
    have hs4 := rowS_ok r4
    have hsl := sumL_length q.b
    obtain ⟨w2, hc2, rk, hk2⟩ := copy_sl _ (w.heap.size + 1) _ zB 64 (rowS w1.heap.size (sumL q.b)) (k1.alloc (.cells (bs (sumL q.b)) 112)).drew rfl (hs4.same (fun _ => rfl) (Nat.le_refl _)) (by show (sumL q.b).length ≤ 64; omega)
    rw [show (rowS w1.heap.size (sumL q.b)).len = 32 from hsl, show (rowS w1.heap.size (sumL q.b)).b = sumL q.b from rfl, ← HKL.out] at rk
    refine H_one 2 (by kernel_rfl) (O_value rfl rfl _ _ (exec_copy _ _ _ _ rfl _ _ rfl rfl _ w2 (by rw [show (rowS w1.heap.size (sumL q.b)).len = 32 from hsl, show (rowS w1.heap.size (sumL q.b)).cap = 32 from hsl] at hc2; exact hc2)) ⟨trivial, ?_⟩)
    refine wpAnyH_done (by kernel_rfl) ?_ _
    have m0 := hk2.row (k0.alloc (.cells (bs (sumL q.b)) 112)).drew (by omega)
    have b2 := ((b1.alloc b1.size (.cells (bs (sumL q.b)) 112)).drew).trans (hk2.below (B := w.heap.size) (by omega) (by simp; omega))
    clear hk2 hc2 hs4 r4
    go_wp2_with (first
      | (with_reducible (show wpList _ _ _ (⟨_, Op.load 260 _, _, _, _, _⟩ :: _) _ _)
         refine load_row rfl 260 _ rfl (w.heap.size + 1) rfl _ _ rk 64 5 Tryz.underlying260 (by kernel_rfl) hsz ?_)
      | (with_reducible (show wpList _ _ _ (⟨_, Op.store 260 _ _, _, _, _, _⟩ :: _) _ _)
         refine store_row rfl 260 _ _ rfl w.heap.size (bs (keyL q.b)) rfl rfl _ _ m0 64 (by kernel_rfl) (by rfl) hsz (bs_one _) ?_))
    refine bodyPost_ret (result_row rfl _ _ w.heap.size _ _ (m0.put _) 64 5 rfl Tryz.underlying260 (by kernel_rfl) hsz) rfl ⟨rfl, bSetRow b2 (Nat.le_refl _) _⟩
  · have HKL := veil (keyL_short q.b (by omega))
    obtain ⟨w2, hc2, rk, hk2⟩ := copy_sl _ (w.heap.size + 1) _ zB 64 q q1 rfl (HQ.out.below b0) (by omega)
    rw [← hbl, ← HKL.out] at rk
    have m0 := hk2.row q0 (by omega)
    have b2 := b0.trans (hk2.below (B := w.heap.size) (by omega) (by omega))
    clear hk2
    go_wp2_with (first
      | (with_reducible (show wpList _ _ _ (⟨_, Op.alloc 260, _, _, _, _⟩ :: _) _ _)
         refine alloc_row rfl 260 rfl (bs zB) (by kernel_rfl) ?_)
      | (with_reducible (show wpList _ _ _ (⟨some 16, Op.call _, _, _, _, _⟩ :: _) _ _)
         refine wpList_copy rfl _ _ _ _ rfl _ _ rfl rfl _ w2 (by rw [hw0] at hc2; exact hc2) ?_)
      | (with_reducible (show wpList _ _ _ (⟨_, Op.load 260 _, _, _, _, _⟩ :: _) _ _)
         refine load_row rfl 260 _ rfl (w.heap.size + 1) rfl _ _ rk 64 5 Tryz.underlying260 (by kernel_rfl) hsz ?_)
      | (with_reducible (show wpList _ _ _ (⟨_, Op.store 260 _ _, _, _, _, _⟩ :: _) _ _)
         refine store_row rfl 260 _ _ rfl w.heap.size (bs (keyL q.b)) rfl rfl _ _ m0 64 (by kernel_rfl) (by rfl) hsz (bs_one _) ?_))
    refine bodyPost_ret (result_row rfl _ _ w.heap.size _ _ (m0.put _) 64 5 rfl Tryz.underlying260 (by kernel_rfl) hsz) rfl ⟨rfl, bSetRow b2 (Nat.le_refl _) _⟩
end Go.Proofs.YtcfmpkolcelnlaaGreatDoor
