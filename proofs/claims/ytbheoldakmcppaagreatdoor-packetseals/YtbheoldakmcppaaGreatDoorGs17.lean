/-
  Out of ShaBlocksIt, ShaSum.
-/
import Derived.Test.YtbheoldakmcppaaGreatDoorGs4
import Derived.Test.YtbheoldakmcppaaGreatDoorGs1
import Derived.Test.YtbheoldakmcppaaGreatDoorRows
import Derived.BigRegionIn
import Derived.Laws.CopyRow
import Derived.Laws.IdiomCopy
import Derived.Test.YtbheoldakmcppaaGreatDoorGs14
import Derived.Test.YtbheoldakmcppaaGreatDoorGs16

/-! What sha.blocks tells: the blocks of bytes, one by one. -/
namespace Go.Proofs.YtbheoldakmcppaaGreatDoor
open Go Go.RowKit Go.Shelf
attribute [local go_sem] Oper.semAt_some

theorem run_arrayAt {P : Program} (t e : TypeId) (n : Nat) (hu : P.underlying t = some (.array n e)) (x : Option Addr) (L C : Nat) (h : n ≤ L) (W : World) : (Instr.arrayAt t (.slice x L C)).run P W = .ok (.pointer x) W := by
  simp [Instr.arrayAt, run_underlying hu, show ¬ L < n by omega]
/-- What is told of a block. -/
def encB (x : Blk) : Array Value := #[.agg (bs x.1)]
def lenOfV : Value → Nat
  | .slice _ l _ => l
  | _ => 0
/-- 64 bytes 00. -/
def zB : List By := List.replicate 64 0
theorem bl_bs (x : List By) : (bl x).toArray = bs x := rfl

set_option maxRecDepth 100000 in
set_option maxHeartbeats 1000000 in
theorem blocks1_in (F : Fence) (n : Nat) (h6 : F.fn 217) (hro : F.round = none) (hn : 1 ≤ n) (l Bn st g off : Nat) (a : Option Addr) (len cap : Nat) (b : List By) (hb : b.length = len) (hl : len ≤ 1048576) (hcap : len ≤ cap) (ha : 0 < len → a = some ⟨g, off, none⟩) (hgs : 0 < len → g ≠ st) (hBs : Bn ≠ st) (J : List Blk → World → Prop)
    (W : World) (hBn : W.cell? ⟨Bn, 0, none⟩ = some (.slice a len cap)) (hBl : Bn < W.heap.size) (hst : st < W.heap.size) (hgl : 0 < len → g < W.heap.size) (hc : ∀ j : Nat, j < len → W.cell? ⟨g, off + j, none⟩ = some (.int .u8 (v8 (gb b j))))
    (hJ : ∀ s A B, J s A → Below W.heap.size A B → J s B)
    (hY : ∀ pre x W1, J pre W1 → YieldAt F (n - 1) Tryz.prog l (encB x) W1 fun e W' => e = .returned (.bool true) ∧ J (pre ++ [x]) W' ∧ Keep1 st W1 W')
    (h0 : J [] W) :
    CallsIn F n Tryz.prog 217 #[.func (.yield l) #[] #[], .pointer (some ⟨Bn, 0, none⟩)] W fun e W' => (∃ v, e = .returned v) ∧ J (blkTo b (nb b)) W' := by
  have HB : Hid (b.length = len) := hb
  have HA : Hid (0 < len → a = some ⟨g, off, none⟩) := ha
  have HG : Hid (0 < len → g ≠ st) := hgs
  have HGL : Hid (0 < len → g < W.heap.size) := hgl
  have HC : Hid (∀ j : Nat, j < len → W.cell? ⟨g, off + j, none⟩ = some (.int .u8 (v8 (gb b j)))) := hc
  clear hb ha hgs hgl hc
  refine callsIn_of_wp Tryz.func217 rfl h6 ?_ hro
  simp only [Tryz.ntmps217, List.size_toArray, List.length_cons, List.length_nil, Nat.reduceAdd, Nat.reduceSub, Array.replicate_succ, Array.replicate_zero, List.push_toArray, List.append_toArray, List.nil_append, List.cons_append]
  gi_wp2
  gi_loopw [3] (fun rv wr => ∃ (i L C : Nat) (a' : Option Addr), len = 64 * i + L ∧ cap = 64 * i + C ∧ L ≤ C ∧ rv = .slice a' L C ∧ Hid (0 < L → a' = some ⟨g, off + 64 * i, none⟩) ∧ J (blkTo b i) wr ∧ Keep1 st W wr)
    (fun rv _ => lenOfV rv)
  case atStart =>
    exact ⟨0, len, cap, a, by omega, by omega, hcap, rfl, fun h => by rw [HA.out h]; simp, h0, Keep1.refl _ _⟩
  case round =>
    obtain ⟨i, L, C, a', rfl, rfl, hLC, rfl, HA', hJi, hk⟩ := hrel
    by_cases h64 : 64 ≤ L
    · have hpos : 0 < L := by omega
      rw [HA'.out hpos]
      have hfull : Hid ((blkAt b i).1 = (b.drop (64 * i)).take 64) := blkAt_full b i (by rw [HB.out]; omega)
      have hrange : wr.rangeAt g (off + 64 * i) (bl (blkAt b i).1) := by
        intro j v hv
        have hj : j < 64 := by have := (List.getElem?_eq_some_iff.1 hv).1; simpa [bl, (blkAt b i).2] using this
        rw [Nat.add_assoc, hk.cell (HGL.out (by omega)) (HG.out (by omega)), HC.out (64 * i + j) (by omega)]
        rw [← hv]
        unfold bl gb
        rw [hfull.out, List.getElem?_map, List.getElem?_take, if_pos hj, List.getElem?_drop, List.getElem?_eq_getElem (by rw [HB.out]; omega)]
        rfl
      have hclen : (bl (blkAt b i).1).length = 64 := by simp [bl, (blkAt b i).2]
      obtain ⟨fn, tmps, assign, body, hy, hR⟩ := hY (blkTo b i) (blkAt b i) wr hJi
      unfold encB at hy
      rw [← bl_bs] at hy
      rw [← blkTo_succ] at hR
      generalize (blkAt b i).1 = x at *
      have hLi : ¬ ((L : Int) < 64) := by omega
      have harr := fun W => run_arrayAt (P := Tryz.prog) 187 5 64 Tryz.underlying187 (some ⟨g, off + 64 * i, none⟩) L C h64 W
      by_cases hC : C = 64
      · subst hC
        obtain rfl : L = 64 := by omega
        gi_wp2_with (with_reducible (show wpListIn _ _ _ _ _ (⟨_, Op.load 187 _, _, _, _, _⟩ :: _) _ _)
                     refine load_midIn rfl 187 _ rfl g (off + 64 * i) rfl (bl x) hrange 64 5 Tryz.underlying187 (by kernel_rfl) hclen ?_)
        refine hR.mono ?_
        rintro e W3 ⟨rfl, hJ3, hk3⟩
        gi_wp2
        go_roundw
        case rel => exact ⟨i + 1, 0, 0, some ⟨g, off + 64 * i, none⟩, by omega, by omega, by omega, rfl, fun h => by omega, hJ3, hk.trans hk3⟩
        case measure => simp [lenOfV]
      · have hC' : 64 < C := by omega
        gi_wp2_with (with_reducible (show wpListIn _ _ _ _ _ (⟨_, Op.load 187 _, _, _, _, _⟩ :: _) _ _)
                     refine load_midIn rfl 187 _ rfl g (off + 64 * i) rfl (bl x) hrange 64 5 Tryz.underlying187 (by kernel_rfl) hclen ?_)
        refine hR.mono ?_
        rintro e W3 ⟨rfl, hJ3, hk3⟩
        gi_wp2
        go_roundw
        case rel => exact ⟨i + 1, L - 64, C - 64, some ⟨g, off + 64 * (i + 1), none⟩, by omega, by omega, by omega, by first | rfl | (rw [show off + 64 * (i + 1) = off + 64 * i + 64 by omega]), fun h => rfl, hJ3, hk.trans hk3⟩
        case measure => simp [lenOfV]; omega
    · have hL64 : L < 64 := by omega
      have hq : Hid (b.length / 64 = i ∧ b.length % 64 = L) := show b.length / 64 = i ∧ b.length % 64 = L by rw [HB.out]; omega
      have hrest : Hid ((b.drop (64 * i)).length = L) := show (b.drop (64 * i)).length = L by rw [List.length_drop, HB.out]; omega
      have hcp : (Builtin.copy_ #[22, 22] 3 #[.slice (some ⟨wr.heap.size, 0, none⟩) 64 64, .slice a' L C]).run Tryz.prog (wr.alloc (.cells (bs zB) 187)) = .ok (goInt L) (wr.alloc (.cells (bs (b.drop (64 * i) ++ List.replicate (64 - L) 0)) 187)) := by
        by_cases hL0 : L = 0
        · have h0 : b.drop (64 * i) = [] := List.eq_nil_of_length_eq_zero (by rw [hrest.out, hL0])
          rw [h0, hL0]
          exact run_copy_none _ _ _ _ 5 _ _ _ _ _ _ Tryz.underlying22 (by kernel_rfl) (by simp)
        · rw [HA'.out (by omega)]
          have := run_copy_row (P := Tryz.prog) (wr.alloc (.cells (bs zB) 187)) 22 22 3 5 wr.heap.size 0 64 64 ⟨g, off + 64 * i, none⟩ L C (bs zB) 187 (bl (b.drop (64 * i))) Tryz.underlying22 (by kernel_rfl) (heap_alloc_new _ _) (by simp only [bl, List.length_map, hrest.out]; exact (Nat.min_eq_left (by omega)).symm)
            (fun j v hv => by
              have hj : j < L := by have := (List.getElem?_eq_some_iff.1 hv).1; simpa only [bl, List.length_map, hrest.out] using this
              rw [Addr.add_mid, Nat.add_assoc]
              have hg1 : g < wr.heap.size := Nat.lt_of_lt_of_le (HGL.out (by omega)) hk.size
              rw [show (wr.alloc (.cells (bs zB) 187)).cell? ⟨g, off + (64 * i + j), none⟩ = wr.cell? ⟨g, off + (64 * i + j), none⟩ from World.cell?_of_block (w := wr) (Below.heap_alloc wr _ g hg1), hk.cell (HGL.out (by omega)) (HG.out (by omega)), HC.out (64 * i + j) (by omega), ← hv]
              unfold bl gb
              rw [List.getElem?_map, List.getElem?_drop, List.getElem?_eq_getElem (by rw [HB.out]; omega)]
              rfl)
            (by simp only [bl, List.length_map, hrest.out, bs_size]; show 0 + L ≤ 64; omega) (fun v hv => by
              obtain ⟨z, _, rfl⟩ := List.mem_map.1 hv
              rfl)
          rw [World.setRow_alloc_new] at this
          rw [show (bl (b.drop (64 * i))).length = L by simp only [bl, List.length_map, hrest.out]] at this
          refine this.trans ?_
          congr 3
          apply Array.ext'
          simp only [bs, bl, zB, List.take_zero, List.nil_append, Nat.zero_add, List.map_append, List.map_replicate, List.drop_replicate]
      have hset : (bs (b.drop (64 * i) ++ List.replicate (64 - L) 0)).setIfInBounds L (.int .u8 128) = bs (b.drop (64 * i) ++ (128 :: List.replicate (63 - L) 0)) := by
        rw [← set_128 _ L hrest.out hL64, ← bs_set]
        rfl
      have hT0 : (b.drop (64 * i) ++ (128 :: List.replicate (63 - L) 0)).length = 64 := by
        rw [List.length_append, hrest.out, List.length_cons, List.length_replicate]; omega
      have hT := veil hT0
      clear hT0
      have hGW : W.heap.size ≤ wr.heap.size := hk.size
      obtain ⟨v0, hv0⟩ : ∃ v0, (wr.alloc (.cells (bs (b.drop (64 * i) ++ List.replicate (64 - L) 0)) 187)).cell? ⟨wr.heap.size, L, none⟩ = some v0 := ⟨_, (Row.new _ _ _).cellB (by rw [List.length_append, hrest.out, List.length_replicate]; omega)⟩
      have hcB : wr.cell? ⟨Bn, 0, none⟩ = some (.slice a (64 * i + L) (64 * i + C)) := (hk.cell hBl hBs).trans hBn
      have hd10 : decide ((64 : Int) ≤ (L : Int)) = false := by simp; omega
      by_cases hsm : L + 9 ≤ 64
      · have hdc : decide ((64 : Int) < (L : Int) + 1 + 8) = false := by simp; omega
        have HLB : Hid ((blkAt b i).1 = (b.drop (64 * i) ++ (128 :: List.replicate (63 - L) 0)).take 56 ++ lenB b.length) := show _ = _ by
          have h := blkAt_small b (by rw [hq.out.2]; exact hsm)
          rw [hq.out.1, hq.out.2] at h
          rw [h]
          have e : b.drop (64 * i) ++ (128 :: List.replicate (63 - L) (0 : By)) = (b.drop (64 * i) ++ (128 :: List.replicate (55 - L) 0)) ++ List.replicate 8 0 := by
            rw [show 63 - L = (55 - L) + 8 by omega, ← List.replicate_append_replicate]
            simp only [List.append_assoc, List.cons_append]
          rw [e, List.take_append_of_le_length (by rw [List.length_append, hrest.out, List.length_cons, List.length_replicate]; omega), List.take_of_length_le (by rw [List.length_append, hrest.out, List.length_cons, List.length_replicate]; omega)]
          simp only [List.append_assoc, List.cons_append]
        have HNB : Hid (nb b = i + 1) := show nb b = i + 1 by rw [nb_small b (by rw [hq.out.2]; exact hsm), hq.out.1]
        have HN : Hid (b.length = 64 * i + L) := HB.out
        rw [HN.out] at HLB
        have jV : J (blkTo b i) (wr.alloc (.cells (bs (b.drop (64 * i) ++ (128 :: List.replicate (63 - L) 0))) 187)) := hJ _ _ _ hJi ((Below.refl _ wr).alloc (by exact Nat.le_refl _) _ |>.mono hGW)
        have rV : Row (wr.alloc (.cells (bs (b.drop (64 * i) ++ (128 :: List.replicate (63 - L) 0))) 187)) wr.heap.size 187 (bs (b.drop (64 * i) ++ (128 :: List.replicate (63 - L) 0))) := Row.new _ _ _
        have hbase := hT
        have cV : (wr.alloc (.cells (bs (b.drop (64 * i) ++ (128 :: List.replicate (63 - L) 0))) 187)).cell? ⟨Bn, 0, none⟩ = some (.slice a (64 * i + L) (64 * i + C)) := (World.cell?_of_block (w := wr) (Below.heap_alloc wr _ Bn (Nat.lt_of_lt_of_le hBl hk.size))).trans hcB
        clear hrest hT
        generalize b.drop (64 * i) ++ (128 :: List.replicate (63 - L) 0) = T at *
        generalize b.drop (64 * i) ++ List.replicate (64 - L) 0 = T0 at *
        gi_wp2_with (first
          | (with_reducible (show wpListIn _ _ _ _ _ (⟨_, Op.alloc 187, _, _, _, _⟩ :: _) _ _)
             refine alloc_rowIn rfl 187 rfl (bs zB) (by kernel_rfl) ?_))
        generalize wr.heap.size = G at *
        gi_loopw [39] (fun iv wv => ∃ k : Nat, k ≤ 8 ∧ iv = .int .i64 k ∧ Row wv G 187 (bs (lenSet T (64 * i + L) k)) ∧ J (blkTo b i) wv)
          (fun iv _ => 8 - (intOf iv).toNat)
        case atStart => exact ⟨0, by omega, rfl, rV, jV⟩
        case round =>
          clear rV jV cV
          obtain ⟨k, hk8, rfl, rV, jV⟩ := hrel
          by_cases hlt : k < 8
          · obtain ⟨v, hv⟩ : ∃ v, wr.cell? ⟨G, 63 - k, none⟩ = some v := ⟨_, rV.cellB (by rw [lenSet_length, hbase.out]; omega)⟩
            have fV := rV.frozen (63 - k)
            have hsh := veil (lenByte i L k)
            gi_wp2
            go_roundw
            case rel =>
              rw [hsh.out]
              refine ⟨k + 1, by omega, by go_num, ?_, hJ _ _ _ jV ((Below.refl _ _).setCell (p := ⟨G, 63 - k, none⟩) hGW _)⟩
              have := rV.set (63 - k) (.int .u8 (v8 (BitVec.ofNat 8 (8 * (64 * i + L) / 2 ^ (8 * k)))))
              rw [bs_set] at this
              exact this
            case measure => simp [intOf]; omega
          · rw [show k = 8 by omega, lenSet_all _ _ hbase.out, ← HLB.out] at rV
            have hd8 : decide ((k : Int) < 8) = false := by simp; omega
            obtain ⟨fn, tmps, assign, body, hy, hR⟩ := hY (blkTo b i) (blkAt b (i)) wr jV
            unfold encB at hy
            rw [← blkTo_succ, ← HNB.out] at hR
            have hx64 : (bs (blkAt b (i)).1).size = 64 := by rw [bs_size, (blkAt b (i)).2]
            clear HLB hbase
            generalize (blkAt b (i)).1 = x at *
            gi_wp2_with (with_reducible (show wpListIn _ _ _ _ _ (⟨_, Op.load 187 _, _, _, _, _⟩ :: _) _ _)
                         refine load_rowIn rfl 187 _ rfl G rfl _ _ rV 64 5 Tryz.underlying187 (by kernel_rfl) hx64 ?_)
            refine hR.mono ?_
            rintro e W5 ⟨rfl, hJ5, hk5⟩
            gi_wp2
            go_end0
            exact ⟨⟨_, rfl⟩, hJ5⟩
      · have hdc : decide ((64 : Int) < (L : Int) + 1 + 8) = true := by simp; omega
        have HBG := blkAt_great b (by rw [hq.out.2]; omega)
        rw [hq.out.1, hq.out.2] at HBG
        have HX1 := veil HBG.1
        have HLB := veil (HBG.2.trans (show List.replicate 56 (0 : By) ++ lenB b.length = zB.take 56 ++ lenB (64 * i + L) by rw [HB.out]; rfl))
        have HNB : Hid (nb b = i + 1 + 1) := show nb b = i + 1 + 1 by rw [nb_great b (by rw [hq.out.2]; omega), hq.out.1]
        have jV : J (blkTo b i) (wr.alloc (.cells (bs (b.drop (64 * i) ++ (128 :: List.replicate (63 - L) 0))) 187)) := hJ _ _ _ hJi ((Below.refl _ wr).alloc (by exact Nat.le_refl _) _ |>.mono hGW)
        have rV : Row (wr.alloc (.cells (bs (b.drop (64 * i) ++ (128 :: List.replicate (63 - L) 0))) 187)) wr.heap.size 187 (bs (b.drop (64 * i) ++ (128 :: List.replicate (63 - L) 0))) := Row.new _ _ _
        have cV : (wr.alloc (.cells (bs (b.drop (64 * i) ++ (128 :: List.replicate (63 - L) 0))) 187)).cell? ⟨Bn, 0, none⟩ = some (.slice a (64 * i + L) (64 * i + C)) := (World.cell?_of_block (w := wr) (Below.heap_alloc wr _ Bn (Nat.lt_of_lt_of_le hBl hk.size))).trans hcB
        obtain ⟨fn, tmps, assign, body, hy, hR⟩ := hY (blkTo b i) (blkAt b i) _ jV
        unfold encB at hy
        rw [← blkTo_succ] at hR
        rw [HX1.out] at hy
        have hxs : (bs (b.drop (64 * i) ++ (128 :: List.replicate (63 - L) 0))).size = 64 := by rw [bs_size, hT.out]
        have hwr : Bn < wr.heap.size := Nat.lt_of_lt_of_le hBl hk.size
        have hstG : wr.heap.size ≠ st := by omega
        clear hrest hT HBG HX1
        generalize b.drop (64 * i) ++ (128 :: List.replicate (63 - L) 0) = T at *
        generalize b.drop (64 * i) ++ List.replicate (64 - L) 0 = T0 at *
        gi_wp2_with (first
          | (with_reducible (show wpListIn _ _ _ _ _ (⟨_, Op.alloc 187, _, _, _, _⟩ :: _) _ _)
             refine alloc_rowIn rfl 187 rfl (bs zB) (by kernel_rfl) ?_)
          | (with_reducible (show wpListIn _ _ _ _ _ (⟨_, Op.load 187 _, _, _, _, _⟩ :: _) _ _)
             refine load_rowIn rfl 187 _ rfl wr.heap.size rfl _ _ rV 64 5 Tryz.underlying187 (by kernel_rfl) hxs ?_))
        refine hR.mono ?_
        rintro e W3 ⟨rfl, hJ3, hk3⟩
        have r3 : Row W3 wr.heap.size 187 (bs T) := hk3.row rV hstG
        have c3 : (W3.setRow wr.heap.size (bs zB)).cell? ⟨Bn, 0, none⟩ = some (.slice a (64 * i + L) (64 * i + C)) := (World.cell?_of_block (w := W3) (setRow_other W3 wr.heap.size Bn (bs zB) (by omega))).trans ((hk3.cell (by simp; omega) hBs).trans cV)
        have rV2 := r3.put (bs zB)
        have jV2 : J (blkTo b (i + 1)) (W3.setRow wr.heap.size (bs zB)) := hJ _ _ _ hJ3 (bSetRow (Below.refl _ _) hGW _)
        have hbase : Hid (zB.length = 64) := rfl
        clear rV jV cV
        have rV := rV2
        have jV := jV2
        have cV := c3
        clear rV2 jV2 c3
        gi_wp2_with (first
          | (with_reducible (show wpListIn _ _ _ _ _ (⟨_, Op.build 187 _, _, _, _, _⟩ :: _) _ _)
             refine build_rowIn rfl 187 _ rfl (bs zB) (by kernel_rfl) ?_)
          | (with_reducible (show wpListIn _ _ _ _ _ (⟨_, Op.store 187 _ _, _, _, _, _⟩ :: _) _ _)
             refine store_rowIn rfl 187 _ _ rfl wr.heap.size (bs zB) rfl rfl _ _ r3 64 (by kernel_rfl) hxs (by rfl) (bs_one _) ?_))
        generalize wr.heap.size = G at *
        gi_loopw [39] (fun iv wv => ∃ k : Nat, k ≤ 8 ∧ iv = .int .i64 k ∧ Row wv G 187 (bs (lenSet zB (64 * i + L) k)) ∧ J (blkTo b (i + 1)) wv)
          (fun iv _ => 8 - (intOf iv).toNat)
        case atStart => exact ⟨0, by omega, rfl, rV, jV⟩
        case round =>
          clear rV jV cV
          obtain ⟨k, hk8, rfl, rV, jV⟩ := hrel
          by_cases hlt : k < 8
          · obtain ⟨v, hv⟩ : ∃ v, wr.cell? ⟨G, 63 - k, none⟩ = some v := ⟨_, rV.cellB (by rw [lenSet_length, hbase.out]; omega)⟩
            have fV := rV.frozen (63 - k)
            have hsh := veil (lenByte i L k)
            gi_wp2
            go_roundw
            case rel =>
              rw [hsh.out]
              refine ⟨k + 1, by omega, by go_num, ?_, hJ _ _ _ jV ((Below.refl _ _).setCell (p := ⟨G, 63 - k, none⟩) hGW _)⟩
              have := rV.set (63 - k) (.int .u8 (v8 (BitVec.ofNat 8 (8 * (64 * i + L) / 2 ^ (8 * k)))))
              rw [bs_set] at this
              exact this
            case measure => simp [intOf]; omega
          · rw [show k = 8 by omega, lenSet_all _ _ hbase.out, ← HLB.out] at rV
            have hd8 : decide ((k : Int) < 8) = false := by simp; omega
            obtain ⟨fn, tmps, assign, body, hy, hR⟩ := hY (blkTo b (i + 1)) (blkAt b (i + 1)) wr jV
            unfold encB at hy
            rw [← blkTo_succ, ← HNB.out] at hR
            have hx64 : (bs (blkAt b (i + 1)).1).size = 64 := by rw [bs_size, (blkAt b (i + 1)).2]
            clear HLB hbase
            generalize (blkAt b (i + 1)).1 = x at *
            gi_wp2_with (with_reducible (show wpListIn _ _ _ _ _ (⟨_, Op.load 187 _, _, _, _, _⟩ :: _) _ _)
                         refine load_rowIn rfl 187 _ rfl G rfl _ _ rV 64 5 Tryz.underlying187 (by kernel_rfl) hx64 ?_)
            refine hR.mono ?_
            rintro e W5 ⟨rfl, hJ5, hk5⟩
            gi_wp2
            go_end0
            exact ⟨⟨_, rfl⟩, hJ5⟩
end Go.Proofs.YtbheoldakmcppaaGreatDoor

/-! What sha.Sum answers. -/
namespace Go.Proofs.YtbheoldakmcppaaGreatDoor
open Go Go.RowKit Go.Shelf
attribute [local go_sem] Oper.semAt_some

def z8w : List Wd := List.replicate 8 0
def z64w : List Wd := List.replicate 64 0
theorem setRow_alloc1 (w : World) (c c' : Array Value) (t : TypeId) (o : Obj) : ((w.alloc (.cells c t)).alloc o).setRow w.heap.size c' = (w.alloc (.cells c' t)).alloc o := by
  have e : ((w.heap.push (.cells c t)).push o).modify w.heap.size (fun | .cells _ elem frozen => .cells c' elem frozen | o => o) = (w.heap.push (.cells c' t)).push o := by
    apply Array.ext_getElem?
    intro i
    rw [Array.getElem?_modify]
    by_cases hi : w.heap.size = i
    · subst hi
      simp [Array.getElem?_push]
    · rw [if_neg hi]
      simp only [Array.getElem?_push, Array.size_push]
      split
      · rfl
      · split
        · omega
        · rfl
  simp only [World.setRow, World.alloc]
  congr 1

set_option maxHeartbeats 400000 in
theorem blocks_in (F : Fence) (n : Nat) (h5 : F.fn 205) (hro : F.round = none) (a : Option Addr) (len cap : Nat) (w : World) :
    CallsIn F n Tryz.prog 205 #[.slice a len cap] w fun e w' => e = .returned (.func (.func 217) #[] #[.pointer (some ⟨w.heap.size, 0, none⟩)]) ∧ w' = w.alloc (.cells #[.slice a len cap] 22) := by
  refine callsIn_of_wp Tryz.func205 rfl h5 ?_ hro
  simp only [Tryz.ntmps205, List.size_toArray, List.length_cons, List.length_nil, Nat.reduceAdd, Nat.reduceSub, Array.replicate_succ, Array.replicate_zero, List.push_toArray, List.append_toArray, List.nil_append, List.cons_append]
  gi_wp2
  go_ret
  exact ⟨rfl, rfl⟩

theorem blocks_tells (F : Fence) (n : Nat) (h6 : F.fn 217) (hro : F.round = none) (hn : 1 ≤ n) (Bn st g off : Nat) (a : Option Addr) (len cap : Nat) (b : List By) (hb : b.length = len) (hl : len ≤ 1048576) (hcap : len ≤ cap) (ha : 0 < len → a = some ⟨g, off, none⟩) (hgs : 0 < len → g ≠ st) (hBs : Bn ≠ st)
    (w : World) (hBn : w.cell? ⟨Bn, 0, none⟩ = some (.slice a len cap)) (hBl : Bn < w.heap.size) (hst : st < w.heap.size) (hgl : 0 < len → g < w.heap.size) (hc : ∀ j : Nat, j < len → w.cell? ⟨g, off + j, none⟩ = some (.int .u8 (v8 (gb b j)))) :
    Tells F n Tryz.prog 217 #[.pointer (some ⟨Bn, 0, none⟩)] encB st (blkTo b (nb b)) w := fun l J W hW hJ hY h0 =>
  blocks1_in F n h6 hro hn l Bn st g off a len cap b hb hl hcap ha hgs hBs J W ((hW.cell (p := ⟨Bn, 0, none⟩) hBl).trans hBn) (Nat.lt_of_lt_of_le hBl hW.size) (Nat.lt_of_lt_of_le hst hW.size) (fun h => Nat.lt_of_lt_of_le (hgl h) hW.size)
    (fun j hj => (hW.cell (p := ⟨g, off + j, none⟩) (hgl (by omega))).trans (hc j hj)) hJ hY h0

set_option maxRecDepth 100000 in
set_option maxHeartbeats 1000000 in
theorem sum_any (g off : Nat) (a : Option Addr) (len cap : Nat) (b : List By) (w : World) (hb : b.length = len) (hl : len ≤ 1048576) (hcap : len ≤ cap) (ha : 0 < len → a = some ⟨g, off, none⟩) (hgl : 0 < len → g < w.heap.size) (hc : ∀ j : Nat, j < len → w.cell? ⟨g, off + j, none⟩ = some (.int .u8 (v8 (gb b j)))) :
    Calls Tryz.prog 197 #[.slice a len cap] w fun e w' => e = .returned (.tuple #[.agg (bs (sumL b)), .int .i64 0]) ∧ Below w.heap.size w w' := by
  have HB := veil hb
  have HA := veil ha
  have HGL := veil hgl
  have HC := veil hc
  clear hb ha hgl hc
  have hgt : ¬ ((1048576 : Int) < (len : Int)) := by omega
  refine (callsIn_wide (n := 4)).1 ?_
  refine callsIn_of_wp_marks Tryz.func197 rfl trivial ?_ rfl
  simp only [Tryz.ntmps197, List.size_toArray, List.length_cons, List.length_nil, Nat.reduceAdd, Nat.reduceSub, Array.replicate_succ, Array.replicate_zero, List.push_toArray, List.append_toArray, List.nil_append, List.cons_append]
  gi_wp2_with (with_reducible (show wpListIn _ _ _ _ _ (⟨_, Op.alloc 78, _, _, _, _⟩ :: _) _ _)
               refine alloc_rowIn rfl 78 rfl (bs z32) (by kernel_rfl) ?_)
  refine ⟨trivial, (callsIn_wide.2 (cubeWords_any _)).mono ?_⟩
  rintro e1 w1 ⟨rfl, hb1⟩
  have q0 : Row w1 w.heap.size 78 (bs z32) := Row.below (Row.new _ _ _) hb1 (by simp)
  have hbel1 : Below w.heap.size w w1 := ((Below.refl _ w).alloc (Nat.le_refl _) _).trans (hb1.mono (by simp))
  clear hb1
  gi_wp2_with fail
  refine ⟨trivial, (callsIn_wide.2 (squareWords_any _)).mono ?_⟩
  rintro e2 w2 ⟨rfl, hb2⟩
  have q1 := q0.below hb2 q0.lt
  have hbel2 := hbel1.trans (hb2.mono hbel1.size)
  clear hb2 hbel1 q0
  have hs2 := q1.lt
  have rA : Row ((w2.alloc (.cells (ws z64w) 274)).alloc (.cells (ws z8w) 276)) w2.heap.size 274 (ws z64w) := (Row.new _ _ _).alloc _
  have hrA := setRow_alloc1 w2 (ws z64w) (ws KW) 274 (.cells (ws z8w) 276)
  gi_wp2_with (first
    | (with_reducible (show wpListIn _ _ _ _ _ (⟨_, Op.alloc 274, _, _, _, _⟩ :: _) _ _)
       refine alloc_rowIn rfl 274 rfl (ws z64w) (by kernel_rfl) ?_)
    | (with_reducible (show wpListIn _ _ _ _ _ (⟨_, Op.alloc 276, _, _, _, _⟩ :: _) _ _)
       refine alloc_rowIn rfl 276 rfl (ws z8w) (by kernel_rfl) ?_)
    | (with_reducible (show wpListIn _ _ _ _ _ (⟨_, Op.store 274 _ _, _, _, _, _⟩ :: _) _ _)
       refine store_rowIn rfl 274 _ _ rfl w2.heap.size (ws KW) rfl rfl _ _ rA 64 (by kernel_rfl) (by rfl) (by rw [ws_size, KW_length]) (ws_one _) ?_
       rw [hrA])
    | (with_reducible (show wpListIn _ _ _ _ _ (⟨_, Op.store 276 _ _, _, _, _, _⟩ :: _) _ _)
       refine store_newIn (w := w2.alloc (.cells (ws KW) 274)) (by rfl) 276 _ _ (by rfl) (w2.alloc (.cells (ws z64w) 274)).heap.size (ws HW) (by rfl) (by rfl) 276 (ws z8w) (by simp) 8 (by kernel_rfl) (by rfl) (by rw [ws_size, HW_length]) (ws_one _) ?_))
  refine ⟨trivial, (blocks_in _ _ trivial rfl _ _ _ _).mono ?_⟩
  rintro e3 w3 ⟨rfl, hw⟩
  rw [hw]
  clear hw
  gi_wp2
  clear rA hrA
  obtain ⟨W0, hW0⟩ : ∃ W0, W0 = ((w2.alloc (.cells (ws KW) 274)).alloc (.cells (ws HW) 276)).alloc (.cells #[.slice a len cap] 22) := ⟨_, rfl⟩
  rw [← hW0]
  have hs0 : W0.heap.size = w2.heap.size + 3 := by rw [hW0]; simp
  have RK : Row W0 w2.heap.size 274 (ws KW) := by rw [hW0]; exact ((Row.new _ _ _).alloc _).alloc _
  have RS : Row W0 (w2.heap.size + 1) 276 (ws HW) := by rw [hW0]; exact (Row.new1 _ _ _ _).alloc _
  have R0 : Row W0 w.heap.size 78 (bs z32) := by rw [hW0]; exact ((q1.alloc _).alloc _).alloc _
  have CB : W0.cell? ⟨w2.heap.size + 1 + 1, 0, none⟩ = some (.slice a len cap) := by
    rw [hW0, (Row.new2 w2 _ _ 22 #[.slice a len cap]).cell 0]
    rfl
  have hbel0 : Below w.heap.size w W0 := by
    rw [hW0]
    exact ((hbel2.alloc hbel2.size _).alloc (by have := hbel2.size; simp; omega) _).alloc (by have := hbel2.size; simp; omega) _
  have hw2 := hbel2.size
  clear hW0 hbel2 q1
  refine rangeFunc_tells (F := Fence.wide) (n := 4) rfl (by decide) (gf := 217) (lb := #[.pointer (some ⟨w2.heap.size + 1 + 1, 0, none⟩)]) rfl trivial (enters_of Tryz.func217 (by kernel_rfl) rfl) (encs := encB) (fun _ => rfl) (w2.heap.size + 1) (by omega) (blkTo b (nb b))
    (blocks_tells Fence.wide (4 - 1) trivial rfl (by decide) (w2.heap.size + 1 + 1) (w2.heap.size + 1) g off a len cap b HB.out hl hcap HA.out (fun h => by have := HGL.out h; omega) (by omega) W0 CB (by omega) (by omega) (fun h => by have := HGL.out h; omega) (fun j hj => (hbel0.cell (p := ⟨g, off + j, none⟩) (HGL.out (by omega))).trans (HC.out j hj)))
    (fun pre W => Row W (w2.heap.size + 1) 276 (ws (chain HW pre)) ∧ Row W w2.heap.size 274 (ws KW) ∧ Row W w.heap.size 78 (bs z32) ∧ Below w.heap.size w W)
    (fun s A B h hb => ⟨h.1.below hb (by omega), h.2.1.below hb (by omega), h.2.2.1.below hb (by omega), h.2.2.2.trans (hb.mono (by omega))⟩) ⟨RS, RK, R0, hbel0⟩
    (fun x bk => { tmps := #[.slice a len cap, undef, .pointer (some ⟨w.heap.size, 0, none⟩), .int .i64 0, .pointer (some ⟨w2.heap.size, 0, none⟩), .pointer (some ⟨w2.heap.size + 1, 0, none⟩), .pointer (some ⟨bk, 0, none⟩), .slice a len cap, .int .i64 (len : Int), .bool false, undef, .agg (ws KW), .agg (ws HW), .slice a len cap, .func (.func 217) #[] #[.pointer (some ⟨w2.heap.size + 1 + 1, 0, none⟩)], .agg (bs x.1), undef, undef, undef, undef, undef, undef], defers := [] })
    (fun x bk W => Row W bk 187 (bs x.1)) (fun x bk W W' h e => e.trans h) ?assign ?body ?done
  case assign =>
    intro l x W K hK
    unfold encB
    have hx := x.2
    have hx64 : (bs x.1).size = 64 := by rw [bs_size, hx]
    clear hx
    go_simp
    gi_wp2_with (first
      | (with_reducible (show wpListIn _ _ _ _ _ (⟨_, Op.alloc 187, _, _, _, _⟩ :: _) _ _)
         refine alloc_rowIn rfl 187 rfl (bs zB) (by kernel_rfl) ?_)
      | (with_reducible (show wpListIn _ _ _ _ _ (⟨_, Op.store 187 _ _, _, _, _, _⟩ :: _) _ _)
         refine store_newIn (w := W) (by rfl) 187 _ _ (by rfl) W.heap.size (bs x.1) (by rfl) (by rfl) 187 (bs zB) (by rfl) 64 (by kernel_rfl) (by rfl) hx64 (bs_one _) ?_))
    exact hK _ ((Below.refl _ W).alloc (Nat.le_refl _) _) (by simp) (Row.new _ _ _)
  case body =>
    rintro l pre x bk W ⟨hS, hK, h0, hbel⟩ hx hbk hlt
    have hx64 : (bs x.1).size = 64 := by rw [bs_size, x.2]
    have hc8 := veil (chain_length HW HW_length pre)
    gi_wp2_with (first
      | (with_reducible (show wpListIn _ _ _ _ _ (⟨_, Op.load 276 _, _, _, _, _⟩ :: _) _ _)
         refine load_rowIn rfl 276 _ rfl (w2.heap.size + 1) rfl _ _ hS 8 91 Tryz.underlying276 (by kernel_rfl) (by rw [ws_size, hc8.out]) ?_)
      | (with_reducible (show wpListIn _ _ _ _ _ (⟨_, Op.load 274 _, _, _, _, _⟩ :: _) _ _)
         refine load_rowIn rfl 274 _ rfl w2.heap.size rfl _ _ hK 64 91 Tryz.underlying274 (by kernel_rfl) (by rw [ws_size, KW_length]) ?_)
      | (with_reducible (show wpListIn _ _ _ _ _ (⟨_, Op.load 187 _, _, _, _, _⟩ :: _) _ _)
         refine load_rowIn rfl 187 _ rfl bk rfl _ _ hx 64 5 Tryz.underlying187 (by kernel_rfl) hx64 ?_))
    refine ⟨trivial, (CallsIn.inRound l (callsIn_wide.2 (further_any (chain HW pre) KW x.1 hc8.out KW_length x.2 W))).mono ?_⟩
    rintro e W1 ⟨rfl, hb1⟩
    have k1 := hS.below hb1 hS.lt
    gi_wp2_with (with_reducible (show wpListIn _ _ _ _ _ (⟨_, Op.store 276 _ _, _, _, _, _⟩ :: _) _ _)
                 refine store_rowIn rfl 276 _ _ rfl (w2.heap.size + 1) (ws (furtherL (chain HW pre) KW x.1)) rfl rfl _ _ k1 8 (by kernel_rfl) (by rw [ws_size, hc8.out]) (by rw [ws_size, furtherL_length]) (ws_one _) ?_)
    refine ⟨(Keep1.of_below hb1).trans (Keep1.setRow _ _ _), by rw [chain_snoc]; exact k1.put _, (hK.below hb1 hK.lt).putOther (by omega) _, (h0.below hb1 h0.lt).putOther (by omega) _, bSetRow (hbel.trans (hb1.mono hbel.size)) (by omega) _⟩
  case done =>
    rintro D W hD ⟨hS, hK, h0, hbel⟩ hDd
    have hc8 := veil (chain_length HW HW_length (blkTo b (nb b)))
    have HSum : Hid (sumL b = sumB (chain HW (blkTo b (nb b)))) := rfl
    gi_wp2_with (with_reducible (show wpListIn _ _ _ _ _ (⟨_, Op.load 276 _, _, _, _, _⟩ :: _) _ _)
                 refine load_rowIn rfl 276 _ rfl (w2.heap.size + 1) rfl _ _ hS 8 91 Tryz.underlying276 (by kernel_rfl) (by rw [ws_size, hc8.out]) ?_)
    refine ⟨trivial, (callsIn_wide.2 (asBytes_any (chain HW (blkTo b (nb b))) hc8.out W)).mono ?_⟩
    rintro e W1 ⟨rfl, hb1⟩
    rw [← HSum.out]
    have k0 := h0.below hb1 h0.lt
    have kD : W1.heap[D]? = some (.deferred (some [])) := (hb1.block D (Array.getElem?_eq_some_iff.1 hDd).1).trans hDd
    have kb := hbel.trans (hb1.mono hbel.size)
    gi_wp2_with (with_reducible (show wpListIn _ _ _ _ _ (⟨_, Op.store 78 _ _, _, _, _, _⟩ :: _) _ _)
                 refine store_rowIn rfl 78 _ _ rfl w.heap.size (bs (sumL b)) rfl rfl _ _ k0 32 (by kernel_rfl) (by rfl) (by rw [bs_size, sumL_length]) (bs_one _) ?_)
    have kD2 : (W1.setRow w.heap.size (bs (sumL b))).heap[D]? = some (.deferred (some [])) := (setRow_other _ _ _ _ (by omega)).trans kD
    have k3 := k0.put (bs (sumL b))
    have kb3 := bSetRow kb (Nat.le_refl _) (bs (sumL b))
    generalize W1.setRow w.heap.size (bs (sumL b)) = W4 at *
    have hlt4 : D < W4.heap.size := (Array.getElem?_eq_some_iff.1 kD2).1
    have kp : Below D W4 (W4.putObj D (.deferred none)) := below_putObj _ (Nat.le_refl _) (by omega)
    refine ⟨by simp, .inl ⟨_, _, rfl, run_takeDeferred kD2, ?_⟩⟩
    exact ⟨_, result_row_tmp rfl _ _ w.heap.size _ _ (k3.below kp (by omega)) 32 5 (.int .i64 0) rfl rfl Tryz.underlying78 (by kernel_rfl) (by rw [bs_size, sumL_length]), rfl, kb3.trans (kp.mono (by omega))⟩
end Go.Proofs.YtbheoldakmcppaaGreatDoor
