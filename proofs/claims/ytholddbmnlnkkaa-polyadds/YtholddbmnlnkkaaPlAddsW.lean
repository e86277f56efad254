/-
  PolyAdds' walk.
-/
import Derived.Test.YtholddbmnlnkkaaPlAlive
namespace Go.Proofs.Ytholddbmnlnkkaa
open Go Go.RowKit

def nilS : SL := ⟨none, 0, 0, 0, 0, []⟩
theorem nilS_ok (w : World) : nilS.Ok w := ⟨rfl, Nat.le_refl _, fun _ => ⟨rfl, rfl⟩, fun h => absurd h (Nat.lt_irrefl _), fun h => absurd h (Nat.lt_irrefl _), fun _ h => absurd h (Nat.not_lt_zero _)⟩
theorem rN_congr {key bare : List By} (h : ∀ i, i < 16 → gb bare i = gb key i) : rN bare = rN key := by
  unfold rN
  refine leK_congr 16 (fun i hi => ?_)
  rw [clL_get _ _ hi, clL_get _ _ hi]
  unfold clB
  rw [h i hi]
theorem sN_of {key half : List By} (hk : key.length = 32) (h : ∀ i, i < 16 → gb half i = gb key (16 + i)) : sN key = leK half 16 := by
  unfold sN leN
  rw [show ((key.drop 16).take 16).length = 16 by rw [List.length_take, List.length_drop, hk]; rfl]
  refine leK_congr 16 (fun i hi => ?_)
  rw [gb_cut _ _ _ _ hi, h i hi]
theorem leK_zeros (k : Nat) (b : List By) (h : ∀ i, i < k → gb b i = 0) : leK b k = 0 := by
  induction k with
  | zero => rfl
  | succ k ih =>
    rw [show leK b (k + 1) = leK b k + (gb b k).toNat * 256 ^ k from rfl, ih (fun i hi => h i (by omega)), h k (by omega)]
    simp
theorem sN_zero {bare : List By} (hk : bare.length = 32) (h : ∀ i, i < 16 → gb bare (16 + i) = 0) : sN bare = 0 := by
  unfold sN leN
  rw [show ((bare.drop 16).take 16).length = 16 by rw [List.length_take, List.length_drop, hk]; rfl]
  exact leK_zeros 16 _ (fun i hi => by rw [gb_cut _ _ _ _ hi, h i hi])

set_option maxRecDepth 20000 in
set_option maxHeartbeats 20000000 in
theorem adds_walk (key : List By) (hk : key.length = 32) (q : SL) (w : World) (hq : q.Ok w) (hl : q.len ≤ 140737488355328) :
    Calls Try.prog 4 #[.agg (bs key), .slice q.a q.len q.cap] w fun e w' => e = .returned (.bool true) ∧ Below w.heap.size w w' := by
  have HK := veil hk
  have HQ := veil hq
  have hks : (bs key).size = 32 := by rw [bs_size, hk]
  clear hk hq
  go_enter Try.func4, Try.ntmps4
  go_wp2_with fail
  obtain ⟨w0, hw0⟩ : ∃ w0, w0 = w.alloc (.cells (bs key) 22) := ⟨_, rfl⟩
  have rk : Row w0 w.heap.size 22 (bs key) := by rw [hw0]; exact Row.new _ _ _
  have b0 : Below w.heap.size w w0 := by rw [hw0]; exact (Below.refl _ w).alloc (Nat.le_refl _) _
  rw [← hw0]
  clear hw0
  refine (alive_any w0).mono ?_
  rintro e1 w1 ⟨rfl, hb1⟩
  have rk1 := rk.below hb1 rk.lt
  have b1 := b0.trans (hb1.mono b0.size)
  clear hb1 rk b0
  by_cases hbig : 20000 < q.len
  · have hd : decide ((20000 : Int) < (q.len : Int)) = true := by simp; omega
    go_wp2_with fail
    refine (alive_any w1).mono ?_
    rintro e2 w2 ⟨rfl, hb2⟩
    go_wp2_with fail
    go_ret
    exact ⟨rfl, b1.trans (hb2.mono b1.size)⟩
  · have hd : decide ((20000 : Int) < (q.len : Int)) = false := by simp; omega
    have hs1 := b1.size
    have hl1 := rk1.lt
    have rH : Row ((w1.alloc (.cells (bs z16) 25)).alloc (.cells (bs key) 22)) w1.heap.size 25 (bs z16) := (Row.new _ _ _).alloc _
    have rBa : Row ((w1.alloc (.cells (bs z16) 25)).alloc (.cells (bs key) 22)) (w1.heap.size + 1) 22 (bs key) := Row.new1 _ _ _ _
    have rK2 : Row ((w1.alloc (.cells (bs z16) 25)).alloc (.cells (bs key) 22)) w.heap.size 22 (bs key) := (rk1.alloc _).alloc _
    have b2 : Below w.heap.size w ((w1.alloc (.cells (bs z16) 25)).alloc (.cells (bs key) 22)) := (b1.alloc b1.size _).alloc (by have := b1.size; simp; omega) _
    have rk1' := rk1.alloc (.cells (bs z16) 25)
    go_wp2_with (first
      | (with_reducible (show wpList _ _ _ (⟨_, Op.alloc 25, _, _, _, _⟩ :: _) _ _)
         refine alloc_row rfl 25 rfl (bs z16) (by kernel_rfl) ?_)
      | (with_reducible (show wpList _ _ _ (⟨_, Op.load 22 _, _, _, _, _⟩ :: _) _ _)
         refine load_row rfl 22 _ rfl w.heap.size rfl _ _ rk1' 32 5 Try.underlying22 (by kernel_rfl) hks ?_)
      | (with_reducible (show wpList _ _ _ (⟨_, Op.alloc 22, _, _, _, _⟩ :: _) _ _)
         refine alloc_row rfl 22 rfl (bs z32) (by kernel_rfl) ?_)
      | (with_reducible (show wpList _ _ _ (⟨_, Op.store 22 _ _, _, _, _, _⟩ :: _) _ _)
         refine store_new (w := w1.alloc (.cells (bs z16) 25)) (by rfl) 22 _ _ (by rfl) (w1.alloc (.cells (bs z16) 25)).heap.size (bs key) (by rfl) (by rfl) 22 (bs z32) (by rfl) 32 (by kernel_rfl) (by rfl) hks (bs_one _) ?_))
    go_loopw [7] (fun iv wr => ∃ (k : Nat) (zs ys : List By), k ≤ 16 ∧ iv = .int .i64 k ∧ Hid (zs.length = 16) ∧ Hid (ys.length = 32) ∧ Hid (∀ j, j < k → gb zs j = gb key (16 + j)) ∧ Hid (∀ j, gb ys j = if 16 ≤ j ∧ j < 16 + k then 0 else gb key j) ∧ Row wr w.heap.size 22 (bs key) ∧ Row wr w1.heap.size 25 (bs zs) ∧ Row wr (w1.heap.size + 1) 22 (bs ys) ∧ Below w.heap.size w wr)
      (fun iv _ => 16 - (intOf iv).toNat)
    case atStart => exact ⟨0, z16, key, by omega, rfl, rfl, HK, fun j hj => by omega, fun j => by rw [if_neg (by omega)], rK2, rH, rBa, b2⟩
    case round =>
      clear rH rBa rK2 b2 rk1' rk1
      obtain ⟨k, zs, ys, hk, rfl, HZ, HY, HD, HE, rK, rZ, rY, hbel⟩ := hrel
      by_cases h16 : k < 16
      · have hdk : decide ((k : Int) < 16) = true := by simp; omega
        have cx := rK.cellB (j := 16 + k) (by rw [HK.out]; omega)
        have cz := rZ.cellB (j := k) (by rw [HZ.out]; exact h16)
        have cy := rY.cellB (j := 16 + k) (by rw [HY.out]; omega)
        have fz := rZ.frozen k
        have fy := rY.frozen (16 + k)
        obtain ⟨x, hxe⟩ : ∃ x, x = gb key (16 + k) := ⟨_, rfl⟩
        rw [← hxe] at cx
        generalize v8 (gb zs k) = y1 at cz
        generalize v8 (gb ys (16 + k)) = y2 at cy
        have HX := veil hxe
        clear hxe
        go_wp2
        go_roundw
        case rel =>
          have qZ := (rZ.set k (.int .u8 (v8 x))).other (a := ⟨w1.heap.size + 1, 16 + k, none⟩) (by show w1.heap.size ≠ w1.heap.size + 1; omega) (.int .u8 0)
          rw [bs_set] at qZ
          have qY := (rY.other (a := ⟨w1.heap.size, k, none⟩) (by show w1.heap.size + 1 ≠ w1.heap.size; omega) (.int .u8 (v8 x))).set (16 + k) (.int .u8 (v8 0))
          rw [bs_set] at qY
          refine ⟨k + 1, _, _, by omega, by go_num, ?_, ?_, ?_, ?_, (rK.other (by show w.heap.size ≠ w1.heap.size; omega) _).other (by show w.heap.size ≠ w1.heap.size + 1; omega) _, qZ, qY, (hbel.setCell (p := ⟨w1.heap.size, k, none⟩) (by show w.heap.size ≤ w1.heap.size; omega) _).setCell (p := ⟨w1.heap.size + 1, 16 + k, none⟩) (by show w.heap.size ≤ w1.heap.size + 1; omega) _⟩
          · show List.length _ = 16
            rw [List.length_set]; exact HZ.out
          · show List.length _ = 32
            rw [List.length_set]; exact HY.out
          · intro j hj
            rw [gb_set _ (by rw [HZ.out]; exact h16)]
            split
            · rename_i h; rw [HX.out, h]
            · exact HD.out j (by omega)
          · intro j
            rw [gb_set _ (by rw [HY.out]; omega), HE.out j]
            by_cases hj : 16 + k = j
            · rw [if_pos hj, if_pos (by omega)]
            · rw [if_neg hj]
              by_cases h2 : 16 ≤ j ∧ j < 16 + k
              · rw [if_pos h2, if_pos (by omega)]
              · rw [if_neg h2, if_neg (by omega)]
        case measure => simp [intOf]; omega
      · have hdk : decide ((k : Int) < 16) = false := by simp; omega
        rw [show k = 16 by omega] at HD HE
        have HSN : Hid (sN key = leK zs 16) := show _ = _ from sN_of HK.out HD.out
        have HRN : Hid (rN ys = rN key) := show _ = _ from rN_congr (fun i hi => by rw [HE.out, if_neg (by omega)])
        have HS0 : Hid (sN ys = 0) := show _ = _ from sN_zero HY.out (fun i hi => by rw [HE.out, if_pos (by omega)])
        clear HD HE
        generalize wr = W3 at *
        have hys : (bs ys).size = 32 := by rw [bs_size, HY.out]
        go_wp2_with (with_reducible (show wpList _ _ _ (⟨some 35, Op.load 22 _, _, _, _, _⟩ :: _) _ _)
                     refine load_row rfl 22 _ rfl w.heap.size rfl _ _ rK 32 5 Try.underlying22 (by kernel_rfl) hks ?_)
        refine (tag_any key HK.out q W3 (HQ.out.below hbel) (by omega)).mono ?_
        rintro e4 w4 ⟨rfl, hb4⟩
        have qK := rK.below hb4 rK.lt
        have qZ := rZ.below hb4 rZ.lt
        have qY := rY.below hb4 rY.lt
        have b4 := hbel.trans (hb4.mono hbel.size)
        have hl4 := qY.lt
        clear hb4 rK rZ rY hbel
        have ht : (bs (tagL key q.b)).size = 16 := by rw [bs_size, tagL_length]
        generalize hT : tagL key q.b = T at *
        have HT := veil hT
        clear hT
        have rT : Row (w4.alloc (.cells (bs T) 25)) w4.heap.size 25 (bs T) := Row.new _ _ _
        have qK5 := qK.alloc (.cells (bs T) 25)
        have qZ5 := qZ.alloc (.cells (bs T) 25)
        have qY5 := qY.alloc (.cells (bs T) 25)
        have b5 := b4.alloc b4.size (.cells (bs T) 25)
        clear qK qZ qY b4
        go_wp2_with (first
          | (with_reducible (show wpList _ _ _ (⟨some 8, Op.alloc 25, _, _, _, _⟩ :: _) _ _)
             refine alloc_row rfl 25 rfl (bs z16) (by kernel_rfl) ?_)
          | (with_reducible (show wpList _ _ _ (⟨_, Op.store 25 (.tmp 8) _, _, _, _, _⟩ :: _) _ _)
             refine store_new (w := w4) (by rfl) 25 _ _ (by rfl) w4.heap.size (bs T) (by rfl) (by rfl) 25 (bs z16) (by rfl) 16 (by kernel_rfl) (by rfl) ht (bs_one _) ?_)
          | (with_reducible (show wpList _ _ _ (⟨some 41, Op.load 22 _, _, _, _, _⟩ :: _) _ _)
             refine load_row rfl 22 _ rfl (w1.heap.size + 1) rfl _ _ qY5 32 5 Try.underlying22 (by kernel_rfl) hys ?_))
        generalize w4.alloc (.cells (bs T) 25) = w5 at *
        refine (tag_any ys HY.out q w5 (HQ.out.below b5) (by omega)).mono ?_
        rintro e6 w6 ⟨rfl, hb6⟩
        have hlT := rT.lt
        have qK6 := (qK5.below hb6 qK5.lt).alloc (.cells (bs (tagL ys q.b)) 25)
        have qZ6 := (qZ5.below hb6 qZ5.lt).alloc (.cells (bs (tagL ys q.b)) 25)
        have rT6 := (rT.below hb6 rT.lt).alloc (.cells (bs (tagL ys q.b)) 25)
        have b6' := b5.trans (hb6.mono b5.size)
        have b6 := b6'.alloc b6'.size (.cells (bs (tagL ys q.b)) 25)
        clear b6' hb6 b5 rT qK5 qZ5 qY5
        have hu : (bs (tagL ys q.b)).size = 16 := by rw [bs_size, tagL_length]
        have HA : Hid (by16 (sumK (tagL ys q.b) zs 16) = T) := show _ = _ by rw [← HT.out]; exact tag_adds key ys zs q.b HRN.out HS0.out HSN.out
        have HN : Hid (tagL key [] = zs) := show _ = _ from tag_nil key zs HZ.out HSN.out
        have HU : Hid (q.len = 0 → tagL ys q.b = z16) := show _ → _ from fun h => by
          rw [show q.b = [] from List.eq_nil_of_length_eq_zero (by rw [HQ.out.hb]; exact h)]
          exact tag_bare ys HS0.out
        have HUL : Hid ((tagL ys q.b).length = 16) := show _ = _ from tagL_length _ _
        generalize tagL ys q.b = U at *
        have rU : Row (w6.alloc (.cells (bs U) 25)) w6.heap.size 25 (bs U) := Row.new _ _ _
        go_wp2_with (first
          | (with_reducible (show wpList _ _ _ (⟨some 10, Op.alloc 25, _, _, _, _⟩ :: _) _ _)
             refine alloc_row rfl 25 rfl (bs z16) (by kernel_rfl) ?_)
          | (with_reducible (show wpList _ _ _ (⟨_, Op.store 25 (.tmp 10) _, _, _, _, _⟩ :: _) _ _)
             refine store_new (w := w6) (by rfl) 25 _ _ (by rfl) w6.heap.size (bs U) (by rfl) (by rfl) 25 (bs z16) (by rfl) 16 (by kernel_rfl) (by rfl) hu (bs_one _) ?_))
        generalize w6.alloc (.cells (bs U) 25) = w7 at *
        -- region 12
        have HTL : Hid (T.length = 16) := show _ = _ by rw [← HT.out]; exact tagL_length _ _
        have hzs : (bs zs).size = 16 := by rw [bs_size, HZ.out]
        refine held_any (S := fun V => Below w7.heap.size w7 V) (by kernel_rfl) (Below.refl _ _).drew (fun V hV => ?_)
        refine wpAnyH_take (i := 0) (oi := ⟨some 46, _, _, _, _, _⟩) (v := .int .i64 0) rfl (by kernel_rfl) (by kernel_rfl) (by kernel_rfl) (fun _ _ _ h => h) (.inl ⟨by kernel_rfl, fun W h => by kernel_rfl⟩) hV ?_
        simp only [Act.put, List.setIfInBounds_toArray, List.set_cons_succ, List.set_cons_zero]
        refine wpAnyH_take (i := 1) (oi := ⟨some 47, _, _, _, _, _⟩) (v := .bool true) rfl (by kernel_rfl) (by kernel_rfl) (by kernel_rfl) (fun _ _ _ h => h) (.inl ⟨by kernel_rfl, fun W h => by kernel_rfl⟩) hV ?_
        simp only [Act.put, List.setIfInBounds_toArray, List.set_cons_succ, List.set_cons_zero]
        refine wpAnyH_take (i := 2) (oi := ⟨some 48, _, _, _, _, _⟩) (v := .bool true) rfl (by kernel_rfl) (by kernel_rfl) (by kernel_rfl) (fun _ _ _ h => h) (.inl ⟨by kernel_rfl, fun W h => by kernel_rfl⟩) hV ?_
        simp only [Act.put, List.setIfInBounds_toArray, List.set_cons_succ, List.set_cons_zero]
        refine wpAnyH_take (i := 3) (oi := ⟨some 49, _, _, _, _, _⟩) (v := .int .i64 0) rfl (by kernel_rfl) (by kernel_rfl) (by kernel_rfl) (fun _ _ _ h => h) (.inl ⟨by kernel_rfl, fun W h => by kernel_rfl⟩) hV ?_
        simp only [Act.put, List.setIfInBounds_toArray, List.set_cons_succ, List.set_cons_zero]
        refine wpAnyH_take (i := 4) (oi := ⟨some 50, _, _, _, _, _⟩) (v := .bool true) rfl (by kernel_rfl) (by kernel_rfl) (by kernel_rfl) (fun _ _ _ h => h) (.inl ⟨by kernel_rfl, fun W h => by kernel_rfl⟩) hV ?_
        simp only [Act.put, List.setIfInBounds_toArray, List.set_cons_succ, List.set_cons_zero]
        refine wpAnyH_take (i := 5) (oi := ⟨some 51, _, _, _, _, _⟩) (v := .bool true) rfl (by kernel_rfl) (by kernel_rfl) (by kernel_rfl) (fun _ _ _ h => h) (.inl ⟨by kernel_rfl, fun W h => by kernel_rfl⟩) hV ?_
        simp only [Act.put, List.setIfInBounds_toArray, List.set_cons_succ, List.set_cons_zero]
        refine wpAnyH_take (i := 6) (oi := ⟨some 52, _, _, _, _, _⟩) (v := .bool true) rfl (by kernel_rfl) (by kernel_rfl) (by kernel_rfl) (fun _ _ _ h => h) (.inl ⟨by kernel_rfl, fun W h => by kernel_rfl⟩) hV ?_
        simp only [Act.put, List.setIfInBounds_toArray, List.set_cons_succ, List.set_cons_zero]
        refine wpAnyH_take (i := 7) (oi := ⟨some 53, _, _, _, _, _⟩) (v := .agg (bs T)) rfl (by kernel_rfl) (by kernel_rfl) (by kernel_rfl) (fun _ _ _ h => h) (.inl ⟨by kernel_rfl, fun W h => run_load_row 25 _ rfl w4.heap.size (by kernel_rfl) _ _ 16 5 Try.underlying25 (by kernel_rfl) ht W (rT6.below h rT6.lt)⟩) hV ?_
        simp only [Act.put, List.setIfInBounds_toArray, List.set_cons_succ, List.set_cons_zero]
        refine wpAnyH_take (i := 8) (oi := ⟨some 54, _, _, _, _, _⟩) (v := .agg (bs U)) rfl (by kernel_rfl) (by kernel_rfl) (by kernel_rfl) (fun _ _ _ h => h) (.inl ⟨by kernel_rfl, fun W h => run_load_row 25 _ rfl w6.heap.size (by kernel_rfl) _ _ 16 5 Try.underlying25 (by kernel_rfl) hu W (rU.below h rU.lt)⟩) hV ?_
        simp only [Act.put, List.setIfInBounds_toArray, List.set_cons_succ, List.set_cons_zero]
        refine wpAnyH_take (i := 9) (oi := ⟨some 55, _, _, _, _, _⟩) (v := .agg (bs zs)) rfl (by kernel_rfl) (by kernel_rfl) (by kernel_rfl) (fun _ _ _ h => h) (.inl ⟨by kernel_rfl, fun W h => run_load_row 25 _ rfl w1.heap.size (by kernel_rfl) _ _ 16 5 Try.underlying25 (by kernel_rfl) hzs W (qZ6.below h qZ6.lt)⟩) hV ?_
        simp only [Act.put, List.setIfInBounds_toArray, List.set_cons_succ, List.set_cons_zero]
        refine H_call (o := ⟨some 56, _, _, _, _, _⟩) 10 12 #[.agg (bs U), .agg (bs zs)] rfl (by kernel_rfl) (by kernel_rfl) (by kernel_rfl) ?_
        refine (lawSum_any U zs HUL.out HZ.out V).mono ?_
        rintro e8 V8 ⟨rfl, hb8⟩
        rw [HA.out]
        have hV8 := hV.trans (hb8.mono hV.size)
        refine ⟨_, rfl, hV8, ?_⟩
        simp only [Act.put, List.setIfInBounds_toArray, List.set_cons_succ, List.set_cons_zero]
        refine wpAnyH_take (i := 11) (oi := ⟨some 57, _, _, _, _, _⟩) (v := .bool true) rfl (by kernel_rfl) (by kernel_rfl) (by kernel_rfl) (fun _ _ _ h => h) (.inl ⟨by kernel_rfl, fun W h => exec_eql_self W 25 5 16 .u8 (.tmp 53) (.tmp 56) 25 (bs T) rfl (by kernel_rfl) (by kernel_rfl) Try.underlying25 Try.underlying5 (by kernel_rfl) (by kernel_rfl) (by kernel_rfl) (fun j hj => ⟨_, bs_get _ j (by rw [HTL.out]; exact hj)⟩)⟩) hV8 ?_
        simp only [Act.put, List.setIfInBounds_toArray, List.set_cons_succ, List.set_cons_zero]
        refine wpAnyH_take (i := 12) (oi := ⟨some 58, _, _, _, _, _⟩) (v := .bool true) rfl (by kernel_rfl) (by kernel_rfl) (by kernel_rfl) (fun _ _ _ h => h) (.inl ⟨by kernel_rfl, fun W h => by kernel_rfl⟩) hV8 ?_
        simp only [Act.put, List.setIfInBounds_toArray, List.set_cons_succ, List.set_cons_zero]
        refine wpAnyH_take (i := 13) (oi := ⟨some 59, _, _, _, _, _⟩) (v := .bool true) rfl (by kernel_rfl) (by kernel_rfl) (by kernel_rfl) (fun _ _ _ h => h) (.inl ⟨by kernel_rfl, fun W h => by kernel_rfl⟩) hV8 ?_
        simp only [Act.put, List.setIfInBounds_toArray, List.set_cons_succ, List.set_cons_zero]
        refine wpAnyH_take (i := 14) (oi := ⟨some 60, _, _, _, _, _⟩) (v := .agg (bs key)) rfl (by kernel_rfl) (by kernel_rfl) (by kernel_rfl) (fun _ _ _ h => h) (.inl ⟨by kernel_rfl, fun W h => run_load_row 22 _ rfl w.heap.size (by kernel_rfl) _ _ 32 5 Try.underlying22 (by kernel_rfl) hks W (qK6.below h qK6.lt)⟩) hV8 ?_
        simp only [Act.put, List.setIfInBounds_toArray, List.set_cons_succ, List.set_cons_zero]
        refine wpAnyH_take (i := 16) (oi := ⟨some 62, _, _, _, _, _⟩) (v := .agg (bs zs)) rfl (by kernel_rfl) (by kernel_rfl) (by kernel_rfl) (fun _ _ _ h => h) (.inl ⟨by kernel_rfl, fun W h => run_load_row 25 _ rfl w1.heap.size (by kernel_rfl) _ _ 16 5 Try.underlying25 (by kernel_rfl) hzs W (qZ6.below h qZ6.lt)⟩) hV8 ?_
        simp only [Act.put, List.setIfInBounds_toArray, List.set_cons_succ, List.set_cons_zero]
        refine H_call (o := ⟨some 61, _, _, _, _, _⟩) 15 13 #[.agg (bs key), .slice none 0 0] rfl (by kernel_rfl) (by kernel_rfl) (by kernel_rfl) ?_
        refine (of_any key HK.out nilS V8 (nilS_ok _) (by show 0 ≤ 4194304; omega)).mono ?_
        rintro e9 V9 ⟨rfl, hb9⟩
        rw [show tagL key nilS.b = zs from HN.out]
        have hV9 := hV8.trans (hb9.mono hV8.size)
        refine ⟨_, rfl, hV9, ?_⟩
        simp only [Act.put, List.setIfInBounds_toArray, List.set_cons_succ, List.set_cons_zero]
        refine wpAnyH_take (i := 17) (oi := ⟨some 63, _, _, _, _, _⟩) (v := .bool true) rfl (by kernel_rfl) (by kernel_rfl) (by kernel_rfl) (fun _ _ _ h => h) (.inl ⟨by kernel_rfl, fun W h => exec_eql_self W 25 5 16 .u8 (.tmp 61) (.tmp 62) 25 (bs zs) rfl (by kernel_rfl) (by kernel_rfl) Try.underlying25 Try.underlying5 (by kernel_rfl) (by kernel_rfl) (by kernel_rfl) (fun j hj => ⟨_, bs_get _ j (by rw [HZ.out]; exact hj)⟩)⟩) hV9 ?_
        simp only [Act.put, List.setIfInBounds_toArray, List.set_cons_succ, List.set_cons_zero]
        refine wpAnyH_take (i := 18) (oi := ⟨some 64, _, _, _, _, _⟩) (v := .bool true) rfl (by kernel_rfl) (by kernel_rfl) (by kernel_rfl) (fun _ _ _ h => h) (.inl ⟨by kernel_rfl, fun W h => by kernel_rfl⟩) hV9 ?_
        simp only [Act.put, List.setIfInBounds_toArray, List.set_cons_succ, List.set_cons_zero]
        refine wpAnyH_take (i := 19) (oi := ⟨some 65, _, _, _, _, _⟩) (v := .bool true) rfl (by kernel_rfl) (by kernel_rfl) (by kernel_rfl) (fun _ _ _ h => h) (.inl ⟨by kernel_rfl, fun W h => by kernel_rfl⟩) hV9 ?_
        simp only [Act.put, List.setIfInBounds_toArray, List.set_cons_succ, List.set_cons_zero]
        refine wpAnyH_take (i := 20) (oi := ⟨some 66, _, _, _, _, _⟩) (v := .slice q.a q.len q.cap) rfl (by kernel_rfl) (by kernel_rfl) (by kernel_rfl) (fun _ _ _ h => h) (.inl ⟨by kernel_rfl, fun W h => by kernel_rfl⟩) hV9 ?_
        simp only [Act.put, List.setIfInBounds_toArray, List.set_cons_succ, List.set_cons_zero]
        refine wpAnyH_take (i := 21) (oi := ⟨some 67, _, _, _, _, _⟩) (v := .int .i64 (q.len : Int)) rfl (by kernel_rfl) (by kernel_rfl) (by kernel_rfl) (fun _ _ _ h => h) (.inl ⟨by kernel_rfl, fun W h => by kernel_rfl⟩) hV9 ?_
        simp only [Act.put, List.setIfInBounds_toArray, List.set_cons_succ, List.set_cons_zero]
        have b9 := b6.trans (hV9.mono b6.size)
        by_cases hpos : 0 < q.len
        · have hd0 : decide ((0 : Int) < (q.len : Int)) = true := by simp; omega
          refine wpAnyH_take (i := 22) (oi := ⟨some 68, _, _, _, _, _⟩) (v := .bool true) rfl (by kernel_rfl) (by kernel_rfl) (by kernel_rfl) (fun _ _ _ h => h) (.inl ⟨by kernel_rfl, fun W h => (show _ = Result.ok (Next.value (.bool (decide ((0 : Int) < (q.len : Int))))) W by kernel_rfl).trans (by rw [hd0])⟩) hV9 ?_
          simp only [Act.put, List.setIfInBounds_toArray, List.set_cons_succ, List.set_cons_zero]
          refine wpAnyH_take (i := 23) (oi := ⟨some 69, _, _, _, _, _⟩) (v := .bool true) rfl (by kernel_rfl) (by kernel_rfl) (by kernel_rfl) (fun _ _ _ h => h) (.inl ⟨by kernel_rfl, fun W h => by kernel_rfl⟩) hV9 ?_
          simp only [Act.put, List.setIfInBounds_toArray, List.set_cons_succ, List.set_cons_zero]
          refine wpAnyH_take (i := 24) (oi := ⟨some 70, _, _, _, _, _⟩) (v := undef) rfl (by kernel_rfl) (by kernel_rfl) (by kernel_rfl) (fun _ _ _ h => h) (.inr ⟨by kernel_rfl, rfl⟩) hV9 ?_
          simp only [Act.put, List.setIfInBounds_toArray, List.set_cons_succ, List.set_cons_zero]
          refine wpAnyH_take (i := 25) (oi := ⟨some 71, _, _, _, _, _⟩) (v := undef) rfl (by kernel_rfl) (by kernel_rfl) (by kernel_rfl) (fun _ _ _ h => h) (.inr ⟨by kernel_rfl, rfl⟩) hV9 ?_
          simp only [Act.put, List.setIfInBounds_toArray, List.set_cons_succ, List.set_cons_zero]
          refine wpAnyH_take (i := 26) (oi := ⟨some 72, _, _, _, _, _⟩) (v := undef) rfl (by kernel_rfl) (by kernel_rfl) (by kernel_rfl) (fun _ _ _ h => h) (.inr ⟨by kernel_rfl, rfl⟩) hV9 ?_
          simp only [Act.put, List.setIfInBounds_toArray, List.set_cons_succ, List.set_cons_zero]
          refine wpAnyH_take (i := 27) (oi := ⟨some 73, _, _, _, _, _⟩) (v := .bool true) rfl (by kernel_rfl) (by kernel_rfl) (by kernel_rfl) (fun _ _ _ h => h) (.inl ⟨by kernel_rfl, fun W h => by kernel_rfl⟩) hV9 ?_
          simp only [Act.put, List.setIfInBounds_toArray, List.set_cons_succ, List.set_cons_zero]
          refine wpAnyH_take (i := 28) (oi := ⟨some 74, _, _, _, _, _⟩) (v := .bool true) rfl (by kernel_rfl) (by kernel_rfl) (by kernel_rfl) (fun _ _ _ h => h) (.inl ⟨by kernel_rfl, fun W h => by kernel_rfl⟩) hV9 ?_
          simp only [Act.put, List.setIfInBounds_toArray, List.set_cons_succ, List.set_cons_zero]
          refine wpAnyH_take (i := 29) (oi := ⟨some 4, _, _, _, _, _⟩) (v := .bool true) rfl (by kernel_rfl) (by kernel_rfl) (by kernel_rfl) (fun _ _ _ h => h) (.inl ⟨by kernel_rfl, fun W h => by kernel_rfl⟩) hV9 ?_
          simp only [Act.put, List.setIfInBounds_toArray, List.set_cons_succ, List.set_cons_zero]
          refine wpAnyH_done (by kernel_rfl) ?_ _
          go_wp2
          go_ret
          exact ⟨rfl, b9⟩
        · have hd0 : decide ((0 : Int) < (q.len : Int)) = false := by simp; omega
          have hU := HU.out (by omega)
          refine wpAnyH_take (i := 22) (oi := ⟨some 68, _, _, _, _, _⟩) (v := .bool false) rfl (by kernel_rfl) (by kernel_rfl) (by kernel_rfl) (fun _ _ _ h => h) (.inl ⟨by kernel_rfl, fun W h => (show _ = Result.ok (Next.value (.bool (decide ((0 : Int) < (q.len : Int))))) W by kernel_rfl).trans (by rw [hd0])⟩) hV9 ?_
          simp only [Act.put, List.setIfInBounds_toArray, List.set_cons_succ, List.set_cons_zero]
          refine wpAnyH_take (i := 23) (oi := ⟨some 69, _, _, _, _, _⟩) (v := .bool false) rfl (by kernel_rfl) (by kernel_rfl) (by kernel_rfl) (fun _ _ _ h => h) (.inl ⟨by kernel_rfl, fun W h => by kernel_rfl⟩) hV9 ?_
          simp only [Act.put, List.setIfInBounds_toArray, List.set_cons_succ, List.set_cons_zero]
          refine wpAnyH_take (i := 24) (oi := ⟨some 70, _, _, _, _, _⟩) (v := .agg (bs U)) rfl (by kernel_rfl) (by kernel_rfl) (by kernel_rfl) (fun _ _ _ h => h) (.inl ⟨by kernel_rfl, fun W h => run_load_row 25 _ rfl w6.heap.size (by kernel_rfl) _ _ 16 5 Try.underlying25 (by kernel_rfl) hu W (rU.below h rU.lt)⟩) hV9 ?_
          simp only [Act.put, List.setIfInBounds_toArray, List.set_cons_succ, List.set_cons_zero]
          refine wpAnyH_take (i := 25) (oi := ⟨some 71, _, _, _, _, _⟩) (v := .agg (bs z16)) rfl (by kernel_rfl) (by kernel_rfl) (by kernel_rfl) (fun _ _ _ h => h) (.inl ⟨by kernel_rfl, fun W h => by kernel_rfl⟩) hV9 ?_
          simp only [Act.put, List.setIfInBounds_toArray, List.set_cons_succ, List.set_cons_zero]
          rw [hU]
          refine wpAnyH_take (i := 26) (oi := ⟨some 72, _, _, _, _, _⟩) (v := .bool true) rfl (by kernel_rfl) (by kernel_rfl) (by kernel_rfl) (fun _ _ _ h => h) (.inl ⟨by kernel_rfl, fun W h => exec_eql_self W 25 5 16 .u8 (.tmp 70) (.tmp 71) 25 (bs z16) rfl (by kernel_rfl) (by kernel_rfl) Try.underlying25 Try.underlying5 (by kernel_rfl) (by kernel_rfl) (by kernel_rfl) (fun j hj => ⟨_, bs_get _ j (by rw [show z16.length = 16 from rfl]; exact hj)⟩)⟩) hV9 ?_
          simp only [Act.put, List.setIfInBounds_toArray, List.set_cons_succ, List.set_cons_zero]
          refine wpAnyH_take (i := 27) (oi := ⟨some 73, _, _, _, _, _⟩) (v := .bool true) rfl (by kernel_rfl) (by kernel_rfl) (by kernel_rfl) (fun _ _ _ h => h) (.inl ⟨by kernel_rfl, fun W h => by kernel_rfl⟩) hV9 ?_
          simp only [Act.put, List.setIfInBounds_toArray, List.set_cons_succ, List.set_cons_zero]
          refine wpAnyH_take (i := 28) (oi := ⟨some 74, _, _, _, _, _⟩) (v := .bool true) rfl (by kernel_rfl) (by kernel_rfl) (by kernel_rfl) (fun _ _ _ h => h) (.inl ⟨by kernel_rfl, fun W h => by kernel_rfl⟩) hV9 ?_
          simp only [Act.put, List.setIfInBounds_toArray, List.set_cons_succ, List.set_cons_zero]
          refine wpAnyH_take (i := 29) (oi := ⟨some 4, _, _, _, _, _⟩) (v := .bool true) rfl (by kernel_rfl) (by kernel_rfl) (by kernel_rfl) (fun _ _ _ h => h) (.inl ⟨by kernel_rfl, fun W h => by kernel_rfl⟩) hV9 ?_
          simp only [Act.put, List.setIfInBounds_toArray, List.set_cons_succ, List.set_cons_zero]
          refine wpAnyH_done (by kernel_rfl) ?_ _
          go_wp2
          go_ret
          exact ⟨rfl, b9⟩
end Go.Proofs.Ytholddbmnlnkkaa
