/-
  What sha.Sum answers.
-/
import Derived.Test.YtcfmpkolcelnlaaGreatDoorGmShaBlocksIt
import Derived.Test.YtcfmpkolcelnlaaGreatDoorGmShaWords
import Derived.Test.YtcfmpkolcelnlaaGreatDoorGmShaFurtherW
import Derived.Test.YtcfmpkolcelnlaaGreatDoorGmShaBytes
namespace Go.Proofs.YtcfmpkolcelnlaaGreatDoor
open Go Go.RowKit Go.Shelf
attribute [local go_sem] Oper.semAt_some

def z8w : List Wd := List.replicate 8 0
def z64w : List Wd := List.replicate 64 0
theorem setRow_alloc1 (w : World) (c c' : Array Value) (t : TypeId) (o : Obj) : ((w.alloc (.cells c t)).alloc o).setRow w.heap.size c' = (w.alloc (.cells c' t)).alloc o := by
  have e : ((w.heap.push (.cells c t)).push o).modify w.heap.size (fun | .cells _ elem frozen => .cells c' elem frozen | o => o) = (w.heap.push (.cells c' t)).push o := by
    apply Array.ext_getElem?
    intro i
    rw [Array.getElem?_modify]
    by_cases hi : w.heap.size = i
    · subst hi
      simp [Array.getElem?_push]
    · rw [if_neg hi]
      simp only [Array.getElem?_push, Array.size_push]
      split
      · rfl
      · split
        · omega
        · rfl
  simp only [World.setRow, World.alloc]
  congr 1

set_option maxHeartbeats 400000 in
theorem blocks_in (F : Fence) (n : Nat) (h5 : F.fn 213) (hro : F.round = none) (a : Option Addr) (len cap : Nat) (w : World) :
    CallsIn F n Tryz.prog 213 #[.slice a len cap] w fun e w' => e = .returned (.func (.func 228) #[] #[.pointer (some ⟨w.heap.size, 0, none⟩)]) ∧ w' = w.alloc (.cells #[.slice a len cap] 30) := by
  refine callsIn_of_wp Tryz.func213 rfl h5 ?_ hro
  simp only [Tryz.ntmps213, List.size_toArray, List.length_cons, List.length_nil, Nat.reduceAdd, Nat.reduceSub, Array.replicate_succ, Array.replicate_zero, List.push_toArray, List.append_toArray, List.nil_append, List.cons_append]
  gi_wp2
  go_ret
  exact ⟨rfl, rfl⟩

theorem blocks_tells (F : Fence) (n : Nat) (h6 : F.fn 228) (hro : F.round = none) (hn : 1 ≤ n) (Bn st g off : Nat) (a : Option Addr) (len cap : Nat) (b : List By) (hb : b.length = len) (hl : len ≤ 1048576) (hcap : len ≤ cap) (ha : 0 < len → a = some ⟨g, off, none⟩) (hgs : 0 < len → g ≠ st) (hBs : Bn ≠ st)
    (w : World) (hBn : w.cell? ⟨Bn, 0, none⟩ = some (.slice a len cap)) (hBl : Bn < w.heap.size) (hst : st < w.heap.size) (hgl : 0 < len → g < w.heap.size) (hc : ∀ j : Nat, j < len → w.cell? ⟨g, off + j, none⟩ = some (.int .u8 (v8 (gb b j)))) :
    Tells F n Tryz.prog 228 #[.pointer (some ⟨Bn, 0, none⟩)] encB st (blkTo b (nb b)) w := fun l J W hW hJ hY h0 =>
  blocks1_in F n h6 hro hn l Bn st g off a len cap b hb hl hcap ha hgs hBs J W ((hW.cell (p := ⟨Bn, 0, none⟩) hBl).trans hBn) (Nat.lt_of_lt_of_le hBl hW.size) (Nat.lt_of_lt_of_le hst hW.size) (fun h => Nat.lt_of_lt_of_le (hgl h) hW.size)
    (fun j hj => (hW.cell (p := ⟨g, off + j, none⟩) (hgl (by omega))).trans (hc j hj)) hJ hY h0

set_option maxRecDepth 100000 in
set_option maxHeartbeats 1000000 in
theorem sum_any (g off : Nat) (a : Option Addr) (len cap : Nat) (b : List By) (w : World) (hb : b.length = len) (hl : len ≤ 1048576) (hcap : len ≤ cap) (ha : 0 < len → a = some ⟨g, off, none⟩) (hgl : 0 < len → g < w.heap.size) (hc : ∀ j : Nat, j < len → w.cell? ⟨g, off + j, none⟩ = some (.int .u8 (v8 (gb b j)))) :
    Calls Tryz.prog 205 #[.slice a len cap] w fun e w' => e = .returned (.tuple #[.agg (bs (sumL b)), .int .i64 0]) ∧ Below w.heap.size w w' := by
  have HB := veil hb
  have HA := veil ha
  have HGL := veil hgl
  have HC := veil hc
  clear hb ha hgl hc
  have hgt : ¬ ((1048576 : Int) < (len : Int)) := by omega
  refine (callsIn_wide (n := 4)).1 ?_
  refine callsIn_of_wp_marks Tryz.func205 rfl trivial ?_ rfl
  simp only [Tryz.ntmps205, List.size_toArray, List.length_cons, List.length_nil, Nat.reduceAdd, Nat.reduceSub, Array.replicate_succ, Array.replicate_zero, List.push_toArray, List.append_toArray, List.nil_append, List.cons_append]
  gi_wp2_with (with_reducible (show wpListIn _ _ _ _ _ (⟨_, Op.alloc 112, _, _, _, _⟩ :: _) _ _)
               refine alloc_rowIn rfl 112 rfl (bs z32) (by kernel_rfl) ?_)
  refine ⟨trivial, (callsIn_wide.2 (cubeWords_any _)).mono ?_⟩
  rintro e1 w1 ⟨rfl, hb1⟩
  have q0 : Row w1 w.heap.size 112 (bs z32) := Row.below (Row.new _ _ _) hb1 (by simp)
  have hbel1 : Below w.heap.size w w1 := ((Below.refl _ w).alloc (Nat.le_refl _) _).trans (hb1.mono (by simp))
  clear hb1
  gi_wp2_with fail
  refine ⟨trivial, (callsIn_wide.2 (squareWords_any _)).mono ?_⟩
  rintro e2 w2 ⟨rfl, hb2⟩
  have q1 := q0.below hb2 q0.lt
  have hbel2 := hbel1.trans (hb2.mono hbel1.size)
  clear hb2 hbel1 q0
  have hs2 := q1.lt
  have rA : Row ((w2.alloc (.cells (ws z64w) 286)).alloc (.cells (ws z8w) 288)) w2.heap.size 286 (ws z64w) := (Row.new _ _ _).alloc _
  have hrA := setRow_alloc1 w2 (ws z64w) (ws KW) 286 (.cells (ws z8w) 288)
  gi_wp2_with (first
    | (with_reducible (show wpListIn _ _ _ _ _ (⟨_, Op.alloc 286, _, _, _, _⟩ :: _) _ _)
       refine alloc_rowIn rfl 286 rfl (ws z64w) (by kernel_rfl) ?_)
    | (with_reducible (show wpListIn _ _ _ _ _ (⟨_, Op.alloc 288, _, _, _, _⟩ :: _) _ _)
       refine alloc_rowIn rfl 288 rfl (ws z8w) (by kernel_rfl) ?_)
    | (with_reducible (show wpListIn _ _ _ _ _ (⟨_, Op.store 286 _ _, _, _, _, _⟩ :: _) _ _)
       refine store_rowIn rfl 286 _ _ rfl w2.heap.size (ws KW) rfl rfl _ _ rA 64 (by kernel_rfl) (by rfl) (by rw [ws_size, KW_length]) (ws_one _) ?_
       rw [hrA])
    | (with_reducible (show wpListIn _ _ _ _ _ (⟨_, Op.store 288 _ _, _, _, _, _⟩ :: _) _ _)
       refine store_newIn (w := w2.alloc (.cells (ws KW) 286)) (by rfl) 288 _ _ (by rfl) (w2.alloc (.cells (ws z64w) 286)).heap.size (ws HW) (by rfl) (by rfl) 288 (ws z8w) (by simp) 8 (by kernel_rfl) (by rfl) (by rw [ws_size, HW_length]) (ws_one _) ?_))
  refine ⟨trivial, (blocks_in _ _ trivial rfl _ _ _ _).mono ?_⟩
  rintro e3 w3 ⟨rfl, hw⟩
  rw [hw]
  clear hw
  gi_wp2
  clear rA hrA
  obtain ⟨W0, hW0⟩ : ∃ W0, W0 = ((w2.alloc (.cells (ws KW) 286)).alloc (.cells (ws HW) 288)).alloc (.cells #[.slice a len cap] 30) := ⟨_, rfl⟩
  rw [← hW0]
  have hs0 : W0.heap.size = w2.heap.size + 3 := by rw [hW0]; simp
  have RK : Row W0 w2.heap.size 286 (ws KW) := by rw [hW0]; exact ((Row.new _ _ _).alloc _).alloc _
  have RS : Row W0 (w2.heap.size + 1) 288 (ws HW) := by rw [hW0]; exact (Row.new1 _ _ _ _).alloc _
  have R0 : Row W0 w.heap.size 112 (bs z32) := by rw [hW0]; exact ((q1.alloc _).alloc _).alloc _
  have CB : W0.cell? ⟨w2.heap.size + 1 + 1, 0, none⟩ = some (.slice a len cap) := by
    rw [hW0, (Row.new2 w2 _ _ 30 #[.slice a len cap]).cell 0]
    rfl
  have hbel0 : Below w.heap.size w W0 := by
    rw [hW0]
    exact ((hbel2.alloc hbel2.size _).alloc (by have := hbel2.size; simp; omega) _).alloc (by have := hbel2.size; simp; omega) _
  have hw2 := hbel2.size
  clear hW0 hbel2 q1
  refine rangeFunc_tells (F := Fence.wide) (n := 4) rfl (by decide) (gf := 228) (lb := #[.pointer (some ⟨w2.heap.size + 1 + 1, 0, none⟩)]) rfl trivial (enters_of Tryz.func228 (by kernel_rfl) rfl) (encs := encB) (fun _ => rfl) (w2.heap.size + 1) (by omega) (blkTo b (nb b))
    (blocks_tells Fence.wide (4 - 1) trivial rfl (by decide) (w2.heap.size + 1 + 1) (w2.heap.size + 1) g off a len cap b HB.out hl hcap HA.out (fun h => by have := HGL.out h; omega) (by omega) W0 CB (by omega) (by omega) (fun h => by have := HGL.out h; omega) (fun j hj => (hbel0.cell (p := ⟨g, off + j, none⟩) (HGL.out (by omega))).trans (HC.out j hj)))
    (fun pre W => Row W (w2.heap.size + 1) 288 (ws (chain HW pre)) ∧ Row W w2.heap.size 286 (ws KW) ∧ Row W w.heap.size 112 (bs z32) ∧ Below w.heap.size w W)
    (fun s A B h hb => ⟨h.1.below hb (by omega), h.2.1.below hb (by omega), h.2.2.1.below hb (by omega), h.2.2.2.trans (hb.mono (by omega))⟩) ⟨RS, RK, R0, hbel0⟩
    (fun x bk => { tmps := #[.slice a len cap, undef, .pointer (some ⟨w.heap.size, 0, none⟩), .int .i64 0, .pointer (some ⟨w2.heap.size, 0, none⟩), .pointer (some ⟨w2.heap.size + 1, 0, none⟩), .pointer (some ⟨bk, 0, none⟩), .slice a len cap, .int .i64 (len : Int), .bool false, undef, .agg (ws KW), .agg (ws HW), .slice a len cap, .func (.func 228) #[] #[.pointer (some ⟨w2.heap.size + 1 + 1, 0, none⟩)], .agg (bs x.1), undef, undef, undef, undef, undef, undef], defers := [] })
    (fun x bk W => Row W bk 216 (bs x.1)) (fun x bk W W' h e => e.trans h) ?assign ?body ?done
  case assign =>
    intro l x W K hK
    unfold encB
    have hx := x.2
    have hx64 : (bs x.1).size = 64 := by rw [bs_size, hx]
    clear hx
    go_simp
    gi_wp2_with (first
      | (with_reducible (show wpListIn _ _ _ _ _ (⟨_, Op.alloc 216, _, _, _, _⟩ :: _) _ _)
         refine alloc_rowIn rfl 216 rfl (bs zB) (by kernel_rfl) ?_)
      | (with_reducible (show wpListIn _ _ _ _ _ (⟨_, Op.store 216 _ _, _, _, _, _⟩ :: _) _ _)
         refine store_newIn (w := W) (by rfl) 216 _ _ (by rfl) W.heap.size (bs x.1) (by rfl) (by rfl) 216 (bs zB) (by rfl) 64 (by kernel_rfl) (by rfl) hx64 (bs_one _) ?_))
    exact hK _ ((Below.refl _ W).alloc (Nat.le_refl _) _) (by simp) (Row.new _ _ _)
  case body =>
    rintro l pre x bk W ⟨hS, hK, h0, hbel⟩ hx hbk hlt
    have hx64 : (bs x.1).size = 64 := by rw [bs_size, x.2]
    have hc8 := veil (chain_length HW HW_length pre)
    gi_wp2_with (first
      | (with_reducible (show wpListIn _ _ _ _ _ (⟨_, Op.load 288 _, _, _, _, _⟩ :: _) _ _)
         refine load_rowIn rfl 288 _ rfl (w2.heap.size + 1) rfl _ _ hS 8 122 Tryz.underlying288 (by kernel_rfl) (by rw [ws_size, hc8.out]) ?_)
      | (with_reducible (show wpListIn _ _ _ _ _ (⟨_, Op.load 286 _, _, _, _, _⟩ :: _) _ _)
         refine load_rowIn rfl 286 _ rfl w2.heap.size rfl _ _ hK 64 122 Tryz.underlying286 (by kernel_rfl) (by rw [ws_size, KW_length]) ?_)
      | (with_reducible (show wpListIn _ _ _ _ _ (⟨_, Op.load 216 _, _, _, _, _⟩ :: _) _ _)
         refine load_rowIn rfl 216 _ rfl bk rfl _ _ hx 64 5 Tryz.underlying216 (by kernel_rfl) hx64 ?_))
    refine ⟨trivial, (CallsIn.inRound l (callsIn_wide.2 (further_any (chain HW pre) KW x.1 hc8.out KW_length x.2 W))).mono ?_⟩
    rintro e W1 ⟨rfl, hb1⟩
    have k1 := hS.below hb1 hS.lt
    gi_wp2_with (with_reducible (show wpListIn _ _ _ _ _ (⟨_, Op.store 288 _ _, _, _, _, _⟩ :: _) _ _)
                 refine store_rowIn rfl 288 _ _ rfl (w2.heap.size + 1) (ws (furtherL (chain HW pre) KW x.1)) rfl rfl _ _ k1 8 (by kernel_rfl) (by rw [ws_size, hc8.out]) (by rw [ws_size, furtherL_length]) (ws_one _) ?_)
    refine ⟨(Keep1.of_below hb1).trans (Keep1.setRow _ _ _), by rw [chain_snoc]; exact k1.put _, (hK.below hb1 hK.lt).putOther (by omega) _, (h0.below hb1 h0.lt).putOther (by omega) _, bSetRow (hbel.trans (hb1.mono hbel.size)) (by omega) _⟩
  case done =>
    rintro D W hD ⟨hS, hK, h0, hbel⟩ hDd
    have hc8 := veil (chain_length HW HW_length (blkTo b (nb b)))
    have HSum : Hid (sumL b = sumB (chain HW (blkTo b (nb b)))) := rfl
    gi_wp2_with (with_reducible (show wpListIn _ _ _ _ _ (⟨_, Op.load 288 _, _, _, _, _⟩ :: _) _ _)
                 refine load_rowIn rfl 288 _ rfl (w2.heap.size + 1) rfl _ _ hS 8 122 Tryz.underlying288 (by kernel_rfl) (by rw [ws_size, hc8.out]) ?_)
    refine ⟨trivial, (callsIn_wide.2 (asBytes_any (chain HW (blkTo b (nb b))) hc8.out W)).mono ?_⟩
    rintro e W1 ⟨rfl, hb1⟩
    rw [← HSum.out]
    have k0 := h0.below hb1 h0.lt
    have kD : W1.heap[D]? = some (.deferred (some [])) := (hb1.block D (Array.getElem?_eq_some_iff.1 hDd).1).trans hDd
    have kb := hbel.trans (hb1.mono hbel.size)
    gi_wp2_with (with_reducible (show wpListIn _ _ _ _ _ (⟨_, Op.store 112 _ _, _, _, _, _⟩ :: _) _ _)
                 refine store_rowIn rfl 112 _ _ rfl w.heap.size (bs (sumL b)) rfl rfl _ _ k0 32 (by kernel_rfl) (by rfl) (by rw [bs_size, sumL_length]) (bs_one _) ?_)
    have kD2 : (W1.setRow w.heap.size (bs (sumL b))).heap[D]? = some (.deferred (some [])) := (setRow_other _ _ _ _ (by omega)).trans kD
    have k3 := k0.put (bs (sumL b))
    have kb3 := bSetRow kb (Nat.le_refl _) (bs (sumL b))
    generalize W1.setRow w.heap.size (bs (sumL b)) = W4 at *
    have hlt4 : D < W4.heap.size := (Array.getElem?_eq_some_iff.1 kD2).1
    have kp : Below D W4 (W4.putObj D (.deferred none)) := below_putObj _ (Nat.le_refl _) (by omega)
    refine ⟨by simp, .inl ⟨_, _, rfl, run_takeDeferred kD2, ?_⟩⟩
    exact ⟨_, result_row_tmp rfl _ _ w.heap.size _ _ (k3.below kp (by omega)) 32 5 (.int .i64 0) rfl rfl Tryz.underlying112 (by kernel_rfl) (by rw [bs_size, sumL_length]), rfl, kb3.trans (kp.mono (by omega))⟩
end Go.Proofs.YtcfmpkolcelnlaaGreatDoor
