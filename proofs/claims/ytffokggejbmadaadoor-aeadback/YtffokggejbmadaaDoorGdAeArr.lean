/-
  What aead.arrayOf answers, at each of its three kinds. Written by mkarr.py.
-/
import Derived.Test.YtffokggejbmadaaDoorGdAeLock
namespace Go.Proofs.YtffokggejbmadaaDoor
open Go Go.RowKit

theorem array32_no (b : SL) (w : World) (h : b.len ≠ 32) :
    Calls Tryd.prog 33 #[.slice b.a b.len b.cap] w fun e w' => e = .returned (.tuple #[.agg (bs z32b), .bool false]) ∧ Below w.heap.size w w' := by
  have hne : ((b.len : Int) != 32) = true := by simp; omega
  have r0 : Row ((w.alloc (.cells (bs z32b) 33)).alloc (.cells (bs z32b) 33)) w.heap.size 33 (bs z32b) := (Row.new _ _ _).alloc _
  have r1 : Row ((w.alloc (.cells (bs z32b) 33)).alloc (.cells (bs z32b) 33)) (w.heap.size + 1) 33 (bs z32b) := Row.new1 _ _ _ _
  have b0 : Below w.heap.size w ((w.alloc (.cells (bs z32b) 33)).alloc (.cells (bs z32b) 33)) := ((Below.refl _ w).alloc (Nat.le_refl _) _).alloc (by simp) _
  have hz : (bs z32b).size = 32 := by rw [bs_size]; rfl
  go_enter Tryd.func33, Tryd.ntmps33
  go_wp2_with (first
    | (with_reducible (show wpList _ _ _ (⟨_, Op.alloc 33, _, _, _, _⟩ :: _) _ _)
       refine alloc_row rfl 33 rfl (bs z32b) (by kernel_rfl) ?_)
    | (with_reducible (show wpList _ _ _ (⟨_, Op.load 33 _, _, _, _, _⟩ :: _) _ _)
       refine load_row rfl 33 _ rfl (w.heap.size + 1) rfl _ _ r1 32 5 Tryd.underlying33 (by kernel_rfl) hz ?_)
    | (with_reducible (show wpList _ _ _ (⟨_, Op.store 33 _ _, _, _, _, _⟩ :: _) _ _)
       refine store_row rfl 33 _ _ rfl w.heap.size (bs z32b) rfl rfl _ _ r0 32 (by kernel_rfl) hz hz (bs_one _) ?_))
  refine bodyPost_ret (result_row_tmp rfl _ _ w.heap.size _ _ (r0.put _) 32 5 (.bool false) rfl rfl Tryd.underlying33 (by kernel_rfl) hz) rfl ⟨rfl, bSetRow b0 (Nat.le_refl _) _⟩

set_option maxRecDepth 20000 in
set_option maxHeartbeats 1000000 in
theorem array32_yes (b : SL) (w : World) (hb : b.Ok w) (h : b.len = 32) :
    Calls Tryd.prog 33 #[.slice b.a b.len b.cap] w fun e w' => e = .returned (.tuple #[.agg (bs b.b), .bool true]) ∧ Below w.heap.size w w' := by
  obtain ⟨ba, bl, bc, bg, bo, bb⟩ := b
  simp only at h
  subst h
  have HB := veil hb
  clear hb
  have hbl : bb.length = 32 := HB.out.hb
  have HBL := veil hbl
  have he : ba = some ⟨bg, bo, none⟩ := HB.out.at_ (show 0 < 32 by omega)
  subst he
  have hlt : bg < w.heap.size := HB.out.lt (show 0 < 32 by omega)
  clear hbl
  have r0 : Row ((w.alloc (.cells (bs z32b) 33)).alloc (.cells (bs z32b) 33)) w.heap.size 33 (bs z32b) := (Row.new _ _ _).alloc _
  have r1 : Row ((w.alloc (.cells (bs z32b) 33)).alloc (.cells (bs z32b) 33)) (w.heap.size + 1) 33 (bs z32b) := Row.new1 _ _ _ _
  have b0 : Below w.heap.size w ((w.alloc (.cells (bs z32b) 33)).alloc (.cells (bs z32b) 33)) := ((Below.refl _ w).alloc (Nat.le_refl _) _).alloc (by simp) _
  have hz : (bs z32b).size = 32 := by rw [bs_size]; rfl
  go_enter Tryd.func33, Tryd.ntmps33
  go_wp2_with (first
    | (with_reducible (show wpList _ _ _ (⟨_, Op.alloc 33, _, _, _, _⟩ :: _) _ _)
       refine alloc_row rfl 33 rfl (bs z32b) (by kernel_rfl) ?_)
    | (with_reducible (show wpList _ _ _ (⟨_, Op.load 33 _, _, _, _, _⟩ :: _) _ _)
       refine load_row rfl 33 _ rfl (w.heap.size + 1) rfl _ _ r1 32 5 Tryd.underlying33 (by kernel_rfl) hz ?_))
  go_loopw [15] (fun iv wr => ∃ (k : Nat) (zs : List By), k ≤ 32 ∧ iv = .int .i64 k ∧ Hid (zs.length = 32) ∧ Hid (∀ j, j < k → gb zs j = gb bb j) ∧ Row wr w.heap.size 33 (bs z32b) ∧ Row wr (w.heap.size + 1) 33 (bs zs) ∧ Below w.heap.size w wr)
    (fun iv _ => 32 - (intOf iv).toNat)
  case atStart =>
    exact ⟨0, z32b, by omega, rfl, (show z32b.length = 32 from rfl), (fun j hj => by omega), r0, r1, b0⟩
  case round =>
    clear r0 r1 b0
    obtain ⟨k, zs, hk, rfl, HL, HD, r0, r1, hbel⟩ := hrel
    by_cases h16 : k < 32
    · have hdk : decide ((k : Int) < 32) = true := by simp; omega
      have cx : wr.cell? ⟨bg, bo + k, none⟩ = some (.int .u8 (v8 (gb bb k))) := (hbel.cell (p := ⟨bg, bo + k, none⟩) hlt).trans (HB.out.cell k h16)
      have cz := r1.cellB (j := k) (by rw [HL.out]; exact h16)
      have fx := r1.frozen k
      generalize hX : gb bb k = X at *
      have HX := veil hX
      clear hX
      go_wp2
      go_roundw
      case rel =>
        have q1 := r1.set k (.int .u8 (v8 X))
        rw [bs_set] at q1
        refine ⟨k + 1, _, by omega, by go_num, ?_, ?_, r0.other (by show w.heap.size ≠ w.heap.size + 1; omega) _, q1, hbel.setCell (p := ⟨w.heap.size + 1, k, none⟩) (by show w.heap.size ≤ w.heap.size + 1; omega) _⟩
        · show List.length _ = 32
          rw [List.length_set]; exact HL.out
        · intro j hj
          rw [gb_set _ (by rw [HL.out]; exact h16)]
          split
          · rename_i h; subst h; exact HX.out.symm
          · exact HD.out j (by omega)
      case measure => simp [intOf]; omega
    · have hdk : decide ((k : Int) < 32) = false := by simp; omega
      rw [show k = 32 by omega] at HD
      have e : zs = bb := gb_ext (by rw [HL.out, HBL.out]) (fun p hp => HD.out p (by rw [HL.out] at hp; exact hp))
      subst e
      have hsz : (bs zs).size = 32 := by rw [bs_size, HL.out]
      go_wp2_with (first
        | (with_reducible (show wpList _ _ _ (⟨_, Op.load 33 _, _, _, _, _⟩ :: _) _ _)
           refine load_row rfl 33 _ rfl (w.heap.size + 1) rfl _ _ r1 32 5 Tryd.underlying33 (by kernel_rfl) hsz ?_)
        | (with_reducible (show wpList _ _ _ (⟨_, Op.store 33 _ _, _, _, _, _⟩ :: _) _ _)
           refine store_row rfl 33 _ _ rfl w.heap.size (bs zs) rfl rfl _ _ r0 32 (by kernel_rfl) hz hsz (bs_one _) ?_))
      refine bodyPost_ret (result_row_tmp rfl _ _ w.heap.size _ _ (r0.put _) 32 5 (.bool true) rfl rfl Tryd.underlying33 (by kernel_rfl) hsz) rfl ⟨rfl, bSetRow hbel (Nat.le_refl _) _⟩

theorem array12_no (b : SL) (w : World) (h : b.len ≠ 12) :
    Calls Tryd.prog 34 #[.slice b.a b.len b.cap] w fun e w' => e = .returned (.tuple #[.agg (bs z12), .bool false]) ∧ Below w.heap.size w w' := by
  have hne : ((b.len : Int) != 12) = true := by simp; omega
  have r0 : Row ((w.alloc (.cells (bs z12) 34)).alloc (.cells (bs z12) 34)) w.heap.size 34 (bs z12) := (Row.new _ _ _).alloc _
  have r1 : Row ((w.alloc (.cells (bs z12) 34)).alloc (.cells (bs z12) 34)) (w.heap.size + 1) 34 (bs z12) := Row.new1 _ _ _ _
  have b0 : Below w.heap.size w ((w.alloc (.cells (bs z12) 34)).alloc (.cells (bs z12) 34)) := ((Below.refl _ w).alloc (Nat.le_refl _) _).alloc (by simp) _
  have hz : (bs z12).size = 12 := by rw [bs_size]; rfl
  go_enter Tryd.func34, Tryd.ntmps34
  go_wp2_with (first
    | (with_reducible (show wpList _ _ _ (⟨_, Op.alloc 34, _, _, _, _⟩ :: _) _ _)
       refine alloc_row rfl 34 rfl (bs z12) (by kernel_rfl) ?_)
    | (with_reducible (show wpList _ _ _ (⟨_, Op.load 34 _, _, _, _, _⟩ :: _) _ _)
       refine load_row rfl 34 _ rfl (w.heap.size + 1) rfl _ _ r1 12 5 Tryd.underlying34 (by kernel_rfl) hz ?_)
    | (with_reducible (show wpList _ _ _ (⟨_, Op.store 34 _ _, _, _, _, _⟩ :: _) _ _)
       refine store_row rfl 34 _ _ rfl w.heap.size (bs z12) rfl rfl _ _ r0 12 (by kernel_rfl) hz hz (bs_one _) ?_))
  refine bodyPost_ret (result_row_tmp rfl _ _ w.heap.size _ _ (r0.put _) 12 5 (.bool false) rfl rfl Tryd.underlying34 (by kernel_rfl) hz) rfl ⟨rfl, bSetRow b0 (Nat.le_refl _) _⟩

set_option maxRecDepth 20000 in
set_option maxHeartbeats 1000000 in
theorem array12_yes (b : SL) (w : World) (hb : b.Ok w) (h : b.len = 12) :
    Calls Tryd.prog 34 #[.slice b.a b.len b.cap] w fun e w' => e = .returned (.tuple #[.agg (bs b.b), .bool true]) ∧ Below w.heap.size w w' := by
  obtain ⟨ba, bl, bc, bg, bo, bb⟩ := b
  simp only at h
  subst h
  have HB := veil hb
  clear hb
  have hbl : bb.length = 12 := HB.out.hb
  have HBL := veil hbl
  have he : ba = some ⟨bg, bo, none⟩ := HB.out.at_ (show 0 < 12 by omega)
  subst he
  have hlt : bg < w.heap.size := HB.out.lt (show 0 < 12 by omega)
  clear hbl
  have r0 : Row ((w.alloc (.cells (bs z12) 34)).alloc (.cells (bs z12) 34)) w.heap.size 34 (bs z12) := (Row.new _ _ _).alloc _
  have r1 : Row ((w.alloc (.cells (bs z12) 34)).alloc (.cells (bs z12) 34)) (w.heap.size + 1) 34 (bs z12) := Row.new1 _ _ _ _
  have b0 : Below w.heap.size w ((w.alloc (.cells (bs z12) 34)).alloc (.cells (bs z12) 34)) := ((Below.refl _ w).alloc (Nat.le_refl _) _).alloc (by simp) _
  have hz : (bs z12).size = 12 := by rw [bs_size]; rfl
  go_enter Tryd.func34, Tryd.ntmps34
  go_wp2_with (first
    | (with_reducible (show wpList _ _ _ (⟨_, Op.alloc 34, _, _, _, _⟩ :: _) _ _)
       refine alloc_row rfl 34 rfl (bs z12) (by kernel_rfl) ?_)
    | (with_reducible (show wpList _ _ _ (⟨_, Op.load 34 _, _, _, _, _⟩ :: _) _ _)
       refine load_row rfl 34 _ rfl (w.heap.size + 1) rfl _ _ r1 12 5 Tryd.underlying34 (by kernel_rfl) hz ?_))
  go_loopw [15] (fun iv wr => ∃ (k : Nat) (zs : List By), k ≤ 12 ∧ iv = .int .i64 k ∧ Hid (zs.length = 12) ∧ Hid (∀ j, j < k → gb zs j = gb bb j) ∧ Row wr w.heap.size 34 (bs z12) ∧ Row wr (w.heap.size + 1) 34 (bs zs) ∧ Below w.heap.size w wr)
    (fun iv _ => 12 - (intOf iv).toNat)
  case atStart =>
    exact ⟨0, z12, by omega, rfl, (show z12.length = 12 from rfl), (fun j hj => by omega), r0, r1, b0⟩
  case round =>
    clear r0 r1 b0
    obtain ⟨k, zs, hk, rfl, HL, HD, r0, r1, hbel⟩ := hrel
    by_cases h16 : k < 12
    · have hdk : decide ((k : Int) < 12) = true := by simp; omega
      have cx : wr.cell? ⟨bg, bo + k, none⟩ = some (.int .u8 (v8 (gb bb k))) := (hbel.cell (p := ⟨bg, bo + k, none⟩) hlt).trans (HB.out.cell k h16)
      have cz := r1.cellB (j := k) (by rw [HL.out]; exact h16)
      have fx := r1.frozen k
      generalize hX : gb bb k = X at *
      have HX := veil hX
      clear hX
      go_wp2
      go_roundw
      case rel =>
        have q1 := r1.set k (.int .u8 (v8 X))
        rw [bs_set] at q1
        refine ⟨k + 1, _, by omega, by go_num, ?_, ?_, r0.other (by show w.heap.size ≠ w.heap.size + 1; omega) _, q1, hbel.setCell (p := ⟨w.heap.size + 1, k, none⟩) (by show w.heap.size ≤ w.heap.size + 1; omega) _⟩
        · show List.length _ = 12
          rw [List.length_set]; exact HL.out
        · intro j hj
          rw [gb_set _ (by rw [HL.out]; exact h16)]
          split
          · rename_i h; subst h; exact HX.out.symm
          · exact HD.out j (by omega)
      case measure => simp [intOf]; omega
    · have hdk : decide ((k : Int) < 12) = false := by simp; omega
      rw [show k = 12 by omega] at HD
      have e : zs = bb := gb_ext (by rw [HL.out, HBL.out]) (fun p hp => HD.out p (by rw [HL.out] at hp; exact hp))
      subst e
      have hsz : (bs zs).size = 12 := by rw [bs_size, HL.out]
      go_wp2_with (first
        | (with_reducible (show wpList _ _ _ (⟨_, Op.load 34 _, _, _, _, _⟩ :: _) _ _)
           refine load_row rfl 34 _ rfl (w.heap.size + 1) rfl _ _ r1 12 5 Tryd.underlying34 (by kernel_rfl) hsz ?_)
        | (with_reducible (show wpList _ _ _ (⟨_, Op.store 34 _ _, _, _, _, _⟩ :: _) _ _)
           refine store_row rfl 34 _ _ rfl w.heap.size (bs zs) rfl rfl _ _ r0 12 (by kernel_rfl) hz hsz (bs_one _) ?_))
      refine bodyPost_ret (result_row_tmp rfl _ _ w.heap.size _ _ (r0.put _) 12 5 (.bool true) rfl rfl Tryd.underlying34 (by kernel_rfl) hsz) rfl ⟨rfl, bSetRow hbel (Nat.le_refl _) _⟩

theorem array16_no (b : SL) (w : World) (h : b.len ≠ 16) :
    Calls Tryd.prog 17 #[.slice b.a b.len b.cap] w fun e w' => e = .returned (.tuple #[.agg (bs z16), .bool false]) ∧ Below w.heap.size w w' := by
  have hne : ((b.len : Int) != 16) = true := by simp; omega
  have r0 : Row ((w.alloc (.cells (bs z16) 40)).alloc (.cells (bs z16) 40)) w.heap.size 40 (bs z16) := (Row.new _ _ _).alloc _
  have r1 : Row ((w.alloc (.cells (bs z16) 40)).alloc (.cells (bs z16) 40)) (w.heap.size + 1) 40 (bs z16) := Row.new1 _ _ _ _
  have b0 : Below w.heap.size w ((w.alloc (.cells (bs z16) 40)).alloc (.cells (bs z16) 40)) := ((Below.refl _ w).alloc (Nat.le_refl _) _).alloc (by simp) _
  have hz : (bs z16).size = 16 := by rw [bs_size]; rfl
  go_enter Tryd.func17, Tryd.ntmps17
  go_wp2_with (first
    | (with_reducible (show wpList _ _ _ (⟨_, Op.alloc 40, _, _, _, _⟩ :: _) _ _)
       refine alloc_row rfl 40 rfl (bs z16) (by kernel_rfl) ?_)
    | (with_reducible (show wpList _ _ _ (⟨_, Op.load 40 _, _, _, _, _⟩ :: _) _ _)
       refine load_row rfl 40 _ rfl (w.heap.size + 1) rfl _ _ r1 16 5 Tryd.underlying40 (by kernel_rfl) hz ?_)
    | (with_reducible (show wpList _ _ _ (⟨_, Op.store 40 _ _, _, _, _, _⟩ :: _) _ _)
       refine store_row rfl 40 _ _ rfl w.heap.size (bs z16) rfl rfl _ _ r0 16 (by kernel_rfl) hz hz (bs_one _) ?_))
  refine bodyPost_ret (result_row_tmp rfl _ _ w.heap.size _ _ (r0.put _) 16 5 (.bool false) rfl rfl Tryd.underlying40 (by kernel_rfl) hz) rfl ⟨rfl, bSetRow b0 (Nat.le_refl _) _⟩

set_option maxRecDepth 20000 in
set_option maxHeartbeats 1000000 in
theorem array16_yes (b : SL) (w : World) (hb : b.Ok w) (h : b.len = 16) :
    Calls Tryd.prog 17 #[.slice b.a b.len b.cap] w fun e w' => e = .returned (.tuple #[.agg (bs b.b), .bool true]) ∧ Below w.heap.size w w' := by
  obtain ⟨ba, bl, bc, bg, bo, bb⟩ := b
  simp only at h
  subst h
  have HB := veil hb
  clear hb
  have hbl : bb.length = 16 := HB.out.hb
  have HBL := veil hbl
  have he : ba = some ⟨bg, bo, none⟩ := HB.out.at_ (show 0 < 16 by omega)
  subst he
  have hlt : bg < w.heap.size := HB.out.lt (show 0 < 16 by omega)
  clear hbl
  have r0 : Row ((w.alloc (.cells (bs z16) 40)).alloc (.cells (bs z16) 40)) w.heap.size 40 (bs z16) := (Row.new _ _ _).alloc _
  have r1 : Row ((w.alloc (.cells (bs z16) 40)).alloc (.cells (bs z16) 40)) (w.heap.size + 1) 40 (bs z16) := Row.new1 _ _ _ _
  have b0 : Below w.heap.size w ((w.alloc (.cells (bs z16) 40)).alloc (.cells (bs z16) 40)) := ((Below.refl _ w).alloc (Nat.le_refl _) _).alloc (by simp) _
  have hz : (bs z16).size = 16 := by rw [bs_size]; rfl
  go_enter Tryd.func17, Tryd.ntmps17
  go_wp2_with (first
    | (with_reducible (show wpList _ _ _ (⟨_, Op.alloc 40, _, _, _, _⟩ :: _) _ _)
       refine alloc_row rfl 40 rfl (bs z16) (by kernel_rfl) ?_)
    | (with_reducible (show wpList _ _ _ (⟨_, Op.load 40 _, _, _, _, _⟩ :: _) _ _)
       refine load_row rfl 40 _ rfl (w.heap.size + 1) rfl _ _ r1 16 5 Tryd.underlying40 (by kernel_rfl) hz ?_))
  go_loopw [15] (fun iv wr => ∃ (k : Nat) (zs : List By), k ≤ 16 ∧ iv = .int .i64 k ∧ Hid (zs.length = 16) ∧ Hid (∀ j, j < k → gb zs j = gb bb j) ∧ Row wr w.heap.size 40 (bs z16) ∧ Row wr (w.heap.size + 1) 40 (bs zs) ∧ Below w.heap.size w wr)
    (fun iv _ => 16 - (intOf iv).toNat)
  case atStart =>
    exact ⟨0, z16, by omega, rfl, (show z16.length = 16 from rfl), (fun j hj => by omega), r0, r1, b0⟩
  case round =>
    clear r0 r1 b0
    obtain ⟨k, zs, hk, rfl, HL, HD, r0, r1, hbel⟩ := hrel
    by_cases h16 : k < 16
    · have hdk : decide ((k : Int) < 16) = true := by simp; omega
      have cx : wr.cell? ⟨bg, bo + k, none⟩ = some (.int .u8 (v8 (gb bb k))) := (hbel.cell (p := ⟨bg, bo + k, none⟩) hlt).trans (HB.out.cell k h16)
      have cz := r1.cellB (j := k) (by rw [HL.out]; exact h16)
      have fx := r1.frozen k
      generalize hX : gb bb k = X at *
      have HX := veil hX
      clear hX
      go_wp2
      go_roundw
      case rel =>
        have q1 := r1.set k (.int .u8 (v8 X))
        rw [bs_set] at q1
        refine ⟨k + 1, _, by omega, by go_num, ?_, ?_, r0.other (by show w.heap.size ≠ w.heap.size + 1; omega) _, q1, hbel.setCell (p := ⟨w.heap.size + 1, k, none⟩) (by show w.heap.size ≤ w.heap.size + 1; omega) _⟩
        · show List.length _ = 16
          rw [List.length_set]; exact HL.out
        · intro j hj
          rw [gb_set _ (by rw [HL.out]; exact h16)]
          split
          · rename_i h; subst h; exact HX.out.symm
          · exact HD.out j (by omega)
      case measure => simp [intOf]; omega
    · have hdk : decide ((k : Int) < 16) = false := by simp; omega
      rw [show k = 16 by omega] at HD
      have e : zs = bb := gb_ext (by rw [HL.out, HBL.out]) (fun p hp => HD.out p (by rw [HL.out] at hp; exact hp))
      subst e
      have hsz : (bs zs).size = 16 := by rw [bs_size, HL.out]
      go_wp2_with (first
        | (with_reducible (show wpList _ _ _ (⟨_, Op.load 40 _, _, _, _, _⟩ :: _) _ _)
           refine load_row rfl 40 _ rfl (w.heap.size + 1) rfl _ _ r1 16 5 Tryd.underlying40 (by kernel_rfl) hsz ?_)
        | (with_reducible (show wpList _ _ _ (⟨_, Op.store 40 _ _, _, _, _, _⟩ :: _) _ _)
           refine store_row rfl 40 _ _ rfl w.heap.size (bs zs) rfl rfl _ _ r0 16 (by kernel_rfl) hz hsz (bs_one _) ?_))
      refine bodyPost_ret (result_row_tmp rfl _ _ w.heap.size _ _ (r0.put _) 16 5 (.bool true) rfl rfl Tryd.underlying40 (by kernel_rfl) hsz) rfl ⟨rfl, bSetRow hbel (Nat.le_refl _) _⟩
end Go.Proofs.YtffokggejbmadaaDoor
