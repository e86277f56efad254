/-
  A greeting as bytes: the document's Put. Written by mkherefput.py.
-/
import Derived.Test.YtjccjlhnjihfjaaDoorGhHeOf
import Derived.Test.YtjccjlhnjihfjaaDoorGhHeBackW
import Derived.Test.YtjccjlhnjihfjaaDoorGhFrVarR
namespace Go.Proofs.YtjccjlhnjihfjaaDoor
open Go Go.RowKit

theorem isSize_numH (n : Nat) : IsSize (n : Int) (Fr.szN n) := by
  unfold IsSize Fr.szN
  by_cases c1 : n < 64
  · rw [if_pos c1]; exact .inl ⟨by omega, rfl⟩
  by_cases c2 : n < 16384
  · rw [if_neg c1, if_pos c2]; exact .inr (.inl ⟨by omega, by omega, rfl⟩)
  by_cases c3 : n < 1073741824
  · rw [if_neg c1, if_neg c2, if_pos c3]; exact .inr (.inr (.inl ⟨by omega, by omega, rfl⟩))
  · rw [if_neg c1, if_neg c2, if_neg c3]; exact .inr (.inr (.inr ⟨by omega, rfl⟩))
theorem ref_putH (n : Nat) (w : World) (h : n ≤ 4611686018427387903) :
    Calls Tryd.prog 27 #[.int .u64 (n : Int)] w fun e w' => ∃ s : SL, e = .returned (.tuple #[.slice s.a s.len s.cap, .int .i64 0]) ∧ s.Ok w' ∧ s.b = Fr.numL n ∧ s.len = Fr.szN n ∧ Below w.heap.size w w' := by
  refine (refput_own (n : Int) _ w (by omega) (by omega) (isSize_numH n)).mono ?_
  rintro e w' ⟨g, c, rfl, ⟨_, hown⟩, hB⟩
  rw [putL_num n h, vb_map, List.length_map] at hown
  obtain ⟨s, hv, hsl, hsb, hok, _⟩ := SL.of_own hown
  refine ⟨s, ?_, hok, hsb, by rw [hsl, Fr.numL_length], hB⟩
  rw [putL_num n h, List.length_map, ← hv]
  rfl
theorem ref_putH_no (n : Int) (w : World) (h : 4611686018427387903 < n) :
    Calls Tryd.prog 27 #[.int .u64 n] w fun e w' => e = .returned (.tuple #[.slice none 0 0, .int .i64 1]) ∧ w' = w := by
  go_enter Tryd.func27, Tryd.ntmps27
  go_wp2
  go_ret2
  exact ⟨rfl, rfl⟩
theorem nn_slR {w : World} {g : Nat} {t : TypeId} {h : He.H} (hr : Row w g t (heC h)) (hf : h.Fine) : (SL.mk (some ⟨g, 1, none⟩) 32 32 g 1 h.nn).Ok w :=
  ⟨hf.n32, Nat.le_refl _, fun e => (by cases e), fun _ => rfl, fun _ => hr.lt, fun j hj => hr.rangeH 1 _ heC_nn j _ (vb_get h.nn j (by rw [hf.n32]; exact hj))⟩
theorem pf_slR {w : World} {g : Nat} {t : TypeId} {h : He.H} (hr : Row w g t (heC h)) (hf : h.Fine) : (SL.mk (some ⟨g, 37, none⟩) 32 32 g 37 h.pf).Ok w :=
  ⟨hf.p32, Nat.le_refl _, fun e => (by cases e), fun _ => rfl, fun _ => hr.lt, fun j hj => hr.rangeH 37 _ (heC_pf hf.n32) j _ (vb_get h.pf j (by rw [hf.p32]; exact hj))⟩
theorem below_growH {w W W' : World} {n : Nat} {v : Value} {xs : List Value} (h : Below w.heap.size w W) (hg : W.grownBy W' v.ownBlock) (ho : W.ownsRow w.heap.size 5 1 v n xs) : Below w.heap.size w W' :=
  ⟨hg.os.trans h.os, hg.tape.trans h.tape, hg.output.trans h.output, Nat.le_trans h.size hg.size, fun k hk => (hg.block k (Nat.lt_of_lt_of_le hk h.size) (fun e => by have := (ho.lt k e.symm).1; omega)).trans (h.block k hk)⟩
theorem row_growH {W W' : World} {g : Nat} {t : TypeId} {cs : Array Value} {r : Option Nat} (h : Row W g t cs) (hg : W.grownBy W' r) (hne : some g ≠ r) : Row W' g t cs := (hg.block g h.lt hne).trans h
/-- A row of bytes doesn't lie in a block of another type. -/
theorem own_not_row {W : World} {B n g : Nat} {t : TypeId} {v : Value} {xs : List Value} {cs : Array Value} (h : W.ownsRow B 5 1 v n xs) (hr : Row W g t cs) (hb : v.ownBlock = some g) (ht : t ≠ 5) : False := by
  rcases h.2 with ⟨rfl, _⟩ | ⟨g', cap, cur, rfl, _, hg, _⟩
  · cases hb
  · have e : g' = g := by simpa [Value.ownBlock] using hb
    subst e
    unfold Row at hr
    rw [hg] at hr
    injection hr with e
    injection e with _ e
    exact ht e.symm
def PutQ (xs : List By) (E : Nat) (w : World) (e : Ending) (w' : World) : Prop :=
  ∃ q : SL, e = .returned (.tuple #[.slice q.a q.len q.cap, .int .i64 (E : Int)]) ∧ q.Ok w' ∧ q.b = xs ∧ Below w.heap.size w w'
def nilH : SL := ⟨none, 0, 0, 0, 0, []⟩
theorem nilH_ok (w : World) : nilH.Ok w := ⟨rfl, Nat.le_refl _, fun _ => ⟨rfl, rfl⟩, fun h => absurd h (Nat.lt_irrefl _), fun h => absurd h (Nat.lt_irrefl _), fun _ h => absurd h (Nat.not_lt_zero _)⟩
theorem z4_built : Tryd.prog.built 25 [] = some (qv He.z4).toArray := by kernel_rfl
theorem zs_built : Tryd.prog.built 23 [] = some (bs He.zs) := by kernel_rfl

set_option maxRecDepth 20000 in
set_option maxHeartbeats 2000000 in
theorem refPut_lo (h : He.H) (hf : h.Fine) (w : World) (hk : h.k = 0) :
    Calls Tryd.prog 9 #[.agg (heC h)] w (PutQ [] 1 w) := by
  obtain ⟨W0, hW0⟩ : ∃ W0, W0 = w.alloc (.cells (heC h) 34) := ⟨_, rfl⟩
  have b0 : Below w.heap.size w W0 := by rw [hW0]; exact (Below.refl _ w).alloc (Nat.le_refl _) _
  have r0 : Row W0 w.heap.size 34 (heC h) := by rw [hW0]; exact Row.new _ _ _
  have HF := veil hf
  have R0 := veil r0
  have B0 := veil b0
  have hh : (heC h)[0]? = some (.int .u8 (v8 h.k)) := rfl
  have hlt := r0.lt
  have RN := veil (r0.rangeH 1 (vb h.nn) heC_nn)
  have RL := veil (r0.rangeH 33 (qv h.l) (heC_l hf.n32))
  have RP := veil (r0.rangeH 37 (vb h.pf) (heC_pf hf.n32))
  have HIN := veil (show (Tryd.prog.info? 23).map (·.size) = some (vb h.nn).length by rw [vb_length, hf.n32]; kernel_rfl)
  have HIP := veil (show (Tryd.prog.info? 23).map (·.size) = some (vb h.pf).length by rw [vb_length, hf.p32]; kernel_rfl)
  have kv : v8 h.k = 0 := by rw [hk]; rfl
  rw [kv] at hh
  rw [hW0] at RN RL RP
  clear hf r0 b0
  go_enter Tryd.func9, Tryd.ntmps9
  go_wp2_with (first
    | (with_reducible (show wpList _ _ _ (⟨some 22, Op.load 23 _, _, _, _, _⟩ :: _) _ _)
       refine value_G (by rfl) (.agg (bs h.pf)) (run_midH 23 _ w.heap.size 37 (vb h.pf) _ rfl rfl Tryd.underlying23 rfl HIP.out _ RP.out) ?_)
    | (with_reducible (show wpList _ _ _ (⟨some 23, Op.build _ _, _, _, _, _⟩ :: _) _ _)
       refine value_G (by rfl) (.agg (bs He.zs)) (exec_buildH 23 #[] rfl (bs He.zs) zs_built _) ?_)
    | (with_reducible (show wpList _ _ _ (⟨some 24, Op.binOp _ _ _ _ _, _, _, _, _⟩ :: _) _ _)
       refine value_G (by rfl) (.bool (!decide (h.pf = He.zs))) (exec_neqB (.tmp 22) (.tmp 23) _ h.pf He.zs HF.out.p32 rfl rfl rfl rfl _) ?_)
    | (with_reducible (show wpList _ _ _ (⟨some 33, Op.load 23 _, _, _, _, _⟩ :: _) _ _)
       refine value_G (by rfl) (.agg (bs h.nn)) (run_midH 23 _ w.heap.size 1 (vb h.nn) _ rfl rfl Tryd.underlying23 rfl HIN.out _ RN.out) ?_)
    | (with_reducible (show wpList _ _ _ (⟨some 34, Op.build _ _, _, _, _, _⟩ :: _) _ _)
       refine value_G (by rfl) (.agg (bs He.zs)) (exec_buildH 23 #[] rfl (bs He.zs) zs_built _) ?_)
    | (with_reducible (show wpList _ _ _ (⟨some 35, Op.binOp _ _ _ _ _, _, _, _, _⟩ :: _) _ _)
       refine value_G (by rfl) (.bool (!decide (h.nn = He.zs))) (exec_neqB (.tmp 33) (.tmp 34) _ h.nn He.zs HF.out.n32 rfl rfl rfl rfl _) ?_)
    | (with_reducible (show wpList _ _ _ (⟨some 38, Op.load 25 _, _, _, _, _⟩ :: _) _ _)
       refine value_G (by rfl) (.agg (qv h.l).toArray) (run_midH 25 _ w.heap.size 33 (qv h.l) _ rfl rfl Tryd.underlying25 rfl (by kernel_rfl) _ RL.out) ?_)
    | (with_reducible (show wpList _ _ _ (⟨some 39, Op.build _ _, _, _, _, _⟩ :: _) _ _)
       refine value_G (by rfl) (.agg (qv He.z4).toArray) (exec_buildH 25 #[] rfl (qv He.z4).toArray z4_built _) ?_)
    | (with_reducible (show wpList _ _ _ (⟨some 40, Op.binOp _ _ _ _ _, _, _, _, _⟩ :: _) _ _)
       refine value_G (by rfl) (.bool (!decide (h.l = He.z4))) (exec_neqL (.tmp 38) (.tmp 39) _ h.l He.z4 rfl rfl rfl _) ?_))
  rw [← hW0]
  go_ret2
  exact ⟨nilH, rfl, nilH_ok _, rfl, B0.out⟩

set_option maxRecDepth 20000 in
set_option maxHeartbeats 2000000 in
theorem refPut_hi (h : He.H) (hf : h.Fine) (w : World) (hk : 3 < v8 h.k) :
    Calls Tryd.prog 9 #[.agg (heC h)] w (PutQ [] 1 w) := by
  obtain ⟨W0, hW0⟩ : ∃ W0, W0 = w.alloc (.cells (heC h) 34) := ⟨_, rfl⟩
  have b0 : Below w.heap.size w W0 := by rw [hW0]; exact (Below.refl _ w).alloc (Nat.le_refl _) _
  have r0 : Row W0 w.heap.size 34 (heC h) := by rw [hW0]; exact Row.new _ _ _
  have HF := veil hf
  have R0 := veil r0
  have B0 := veil b0
  have hh : (heC h)[0]? = some (.int .u8 (v8 h.k)) := rfl
  have hlt := r0.lt
  have RN := veil (r0.rangeH 1 (vb h.nn) heC_nn)
  have RL := veil (r0.rangeH 33 (qv h.l) (heC_l hf.n32))
  have RP := veil (r0.rangeH 37 (vb h.pf) (heC_pf hf.n32))
  have HIN := veil (show (Tryd.prog.info? 23).map (·.size) = some (vb h.nn).length by rw [vb_length, hf.n32]; kernel_rfl)
  have HIP := veil (show (Tryd.prog.info? 23).map (·.size) = some (vb h.pf).length by rw [vb_length, hf.p32]; kernel_rfl)
  have kd1 : decide (v8 h.k < 1) = false := decide_eq_false (by omega)
  have kd2 : decide ((3 : Int) < v8 h.k) = true := decide_eq_true hk
  rw [hW0] at RN RL RP
  clear hf r0 b0
  go_enter Tryd.func9, Tryd.ntmps9
  go_wp2_with (first
    | (with_reducible (show wpList _ _ _ (⟨some 22, Op.load 23 _, _, _, _, _⟩ :: _) _ _)
       refine value_G (by rfl) (.agg (bs h.pf)) (run_midH 23 _ w.heap.size 37 (vb h.pf) _ rfl rfl Tryd.underlying23 rfl HIP.out _ RP.out) ?_)
    | (with_reducible (show wpList _ _ _ (⟨some 23, Op.build _ _, _, _, _, _⟩ :: _) _ _)
       refine value_G (by rfl) (.agg (bs He.zs)) (exec_buildH 23 #[] rfl (bs He.zs) zs_built _) ?_)
    | (with_reducible (show wpList _ _ _ (⟨some 24, Op.binOp _ _ _ _ _, _, _, _, _⟩ :: _) _ _)
       refine value_G (by rfl) (.bool (!decide (h.pf = He.zs))) (exec_neqB (.tmp 22) (.tmp 23) _ h.pf He.zs HF.out.p32 rfl rfl rfl rfl _) ?_)
    | (with_reducible (show wpList _ _ _ (⟨some 33, Op.load 23 _, _, _, _, _⟩ :: _) _ _)
       refine value_G (by rfl) (.agg (bs h.nn)) (run_midH 23 _ w.heap.size 1 (vb h.nn) _ rfl rfl Tryd.underlying23 rfl HIN.out _ RN.out) ?_)
    | (with_reducible (show wpList _ _ _ (⟨some 34, Op.build _ _, _, _, _, _⟩ :: _) _ _)
       refine value_G (by rfl) (.agg (bs He.zs)) (exec_buildH 23 #[] rfl (bs He.zs) zs_built _) ?_)
    | (with_reducible (show wpList _ _ _ (⟨some 35, Op.binOp _ _ _ _ _, _, _, _, _⟩ :: _) _ _)
       refine value_G (by rfl) (.bool (!decide (h.nn = He.zs))) (exec_neqB (.tmp 33) (.tmp 34) _ h.nn He.zs HF.out.n32 rfl rfl rfl rfl _) ?_)
    | (with_reducible (show wpList _ _ _ (⟨some 38, Op.load 25 _, _, _, _, _⟩ :: _) _ _)
       refine value_G (by rfl) (.agg (qv h.l).toArray) (run_midH 25 _ w.heap.size 33 (qv h.l) _ rfl rfl Tryd.underlying25 rfl (by kernel_rfl) _ RL.out) ?_)
    | (with_reducible (show wpList _ _ _ (⟨some 39, Op.build _ _, _, _, _, _⟩ :: _) _ _)
       refine value_G (by rfl) (.agg (qv He.z4).toArray) (exec_buildH 25 #[] rfl (qv He.z4).toArray z4_built _) ?_)
    | (with_reducible (show wpList _ _ _ (⟨some 40, Op.binOp _ _ _ _ _, _, _, _, _⟩ :: _) _ _)
       refine value_G (by rfl) (.bool (!decide (h.l = He.z4))) (exec_neqL (.tmp 38) (.tmp 39) _ h.l He.z4 rfl rfl rfl _) ?_))
  rw [← hW0]
  go_ret2
  exact ⟨nilH, rfl, nilH_ok _, rfl, B0.out⟩

set_option maxRecDepth 20000 in
set_option maxHeartbeats 2000000 in
theorem refPut_n1 (h : He.H) (hf : h.Fine) (w : World) (hk : h.k = 1) (hp : h.pf ≠ He.zs) :
    Calls Tryd.prog 9 #[.agg (heC h)] w (PutQ [] 1 w) := by
  obtain ⟨W0, hW0⟩ : ∃ W0, W0 = w.alloc (.cells (heC h) 34) := ⟨_, rfl⟩
  have b0 : Below w.heap.size w W0 := by rw [hW0]; exact (Below.refl _ w).alloc (Nat.le_refl _) _
  have r0 : Row W0 w.heap.size 34 (heC h) := by rw [hW0]; exact Row.new _ _ _
  have HF := veil hf
  have R0 := veil r0
  have B0 := veil b0
  have hh : (heC h)[0]? = some (.int .u8 (v8 h.k)) := rfl
  have hlt := r0.lt
  have RN := veil (r0.rangeH 1 (vb h.nn) heC_nn)
  have RL := veil (r0.rangeH 33 (qv h.l) (heC_l hf.n32))
  have RP := veil (r0.rangeH 37 (vb h.pf) (heC_pf hf.n32))
  have HIN := veil (show (Tryd.prog.info? 23).map (·.size) = some (vb h.nn).length by rw [vb_length, hf.n32]; kernel_rfl)
  have HIP := veil (show (Tryd.prog.info? 23).map (·.size) = some (vb h.pf).length by rw [vb_length, hf.p32]; kernel_rfl)
  have kv : v8 h.k = 1 := by rw [hk]; rfl
  rw [kv] at hh
  have dp : decide (h.pf = He.zs) = false := decide_eq_false hp
  rw [hW0] at RN RL RP
  clear hf r0 b0
  go_enter Tryd.func9, Tryd.ntmps9
  go_wp2_with (first
    | (with_reducible (show wpList _ _ _ (⟨some 22, Op.load 23 _, _, _, _, _⟩ :: _) _ _)
       refine value_G (by rfl) (.agg (bs h.pf)) (run_midH 23 _ w.heap.size 37 (vb h.pf) _ rfl rfl Tryd.underlying23 rfl HIP.out _ RP.out) ?_)
    | (with_reducible (show wpList _ _ _ (⟨some 23, Op.build _ _, _, _, _, _⟩ :: _) _ _)
       refine value_G (by rfl) (.agg (bs He.zs)) (exec_buildH 23 #[] rfl (bs He.zs) zs_built _) ?_)
    | (with_reducible (show wpList _ _ _ (⟨some 24, Op.binOp _ _ _ _ _, _, _, _, _⟩ :: _) _ _)
       refine value_G (by rfl) (.bool (!decide (h.pf = He.zs))) (exec_neqB (.tmp 22) (.tmp 23) _ h.pf He.zs HF.out.p32 rfl rfl rfl rfl _) ?_)
    | (with_reducible (show wpList _ _ _ (⟨some 33, Op.load 23 _, _, _, _, _⟩ :: _) _ _)
       refine value_G (by rfl) (.agg (bs h.nn)) (run_midH 23 _ w.heap.size 1 (vb h.nn) _ rfl rfl Tryd.underlying23 rfl HIN.out _ RN.out) ?_)
    | (with_reducible (show wpList _ _ _ (⟨some 34, Op.build _ _, _, _, _, _⟩ :: _) _ _)
       refine value_G (by rfl) (.agg (bs He.zs)) (exec_buildH 23 #[] rfl (bs He.zs) zs_built _) ?_)
    | (with_reducible (show wpList _ _ _ (⟨some 35, Op.binOp _ _ _ _ _, _, _, _, _⟩ :: _) _ _)
       refine value_G (by rfl) (.bool (!decide (h.nn = He.zs))) (exec_neqB (.tmp 33) (.tmp 34) _ h.nn He.zs HF.out.n32 rfl rfl rfl rfl _) ?_)
    | (with_reducible (show wpList _ _ _ (⟨some 38, Op.load 25 _, _, _, _, _⟩ :: _) _ _)
       refine value_G (by rfl) (.agg (qv h.l).toArray) (run_midH 25 _ w.heap.size 33 (qv h.l) _ rfl rfl Tryd.underlying25 rfl (by kernel_rfl) _ RL.out) ?_)
    | (with_reducible (show wpList _ _ _ (⟨some 39, Op.build _ _, _, _, _, _⟩ :: _) _ _)
       refine value_G (by rfl) (.agg (qv He.z4).toArray) (exec_buildH 25 #[] rfl (qv He.z4).toArray z4_built _) ?_)
    | (with_reducible (show wpList _ _ _ (⟨some 40, Op.binOp _ _ _ _ _, _, _, _, _⟩ :: _) _ _)
       refine value_G (by rfl) (.bool (!decide (h.l = He.z4))) (exec_neqL (.tmp 38) (.tmp 39) _ h.l He.z4 rfl rfl rfl _) ?_))
  rw [← hW0]
  go_ret2
  exact ⟨nilH, rfl, nilH_ok _, rfl, B0.out⟩

set_option maxRecDepth 20000 in
set_option maxHeartbeats 2000000 in
theorem refPut_n3a (h : He.H) (hf : h.Fine) (w : World) (hk : h.k = 3) (hp : h.nn ≠ He.zs) :
    Calls Tryd.prog 9 #[.agg (heC h)] w (PutQ [] 1 w) := by
  obtain ⟨W0, hW0⟩ : ∃ W0, W0 = w.alloc (.cells (heC h) 34) := ⟨_, rfl⟩
  have b0 : Below w.heap.size w W0 := by rw [hW0]; exact (Below.refl _ w).alloc (Nat.le_refl _) _
  have r0 : Row W0 w.heap.size 34 (heC h) := by rw [hW0]; exact Row.new _ _ _
  have HF := veil hf
  have R0 := veil r0
  have B0 := veil b0
  have hh : (heC h)[0]? = some (.int .u8 (v8 h.k)) := rfl
  have hlt := r0.lt
  have RN := veil (r0.rangeH 1 (vb h.nn) heC_nn)
  have RL := veil (r0.rangeH 33 (qv h.l) (heC_l hf.n32))
  have RP := veil (r0.rangeH 37 (vb h.pf) (heC_pf hf.n32))
  have HIN := veil (show (Tryd.prog.info? 23).map (·.size) = some (vb h.nn).length by rw [vb_length, hf.n32]; kernel_rfl)
  have HIP := veil (show (Tryd.prog.info? 23).map (·.size) = some (vb h.pf).length by rw [vb_length, hf.p32]; kernel_rfl)
  have kv : v8 h.k = 3 := by rw [hk]; rfl
  rw [kv] at hh
  have dp : decide (h.nn = He.zs) = false := decide_eq_false hp
  rw [hW0] at RN RL RP
  clear hf r0 b0
  go_enter Tryd.func9, Tryd.ntmps9
  go_wp2_with (first
    | (with_reducible (show wpList _ _ _ (⟨some 22, Op.load 23 _, _, _, _, _⟩ :: _) _ _)
       refine value_G (by rfl) (.agg (bs h.pf)) (run_midH 23 _ w.heap.size 37 (vb h.pf) _ rfl rfl Tryd.underlying23 rfl HIP.out _ RP.out) ?_)
    | (with_reducible (show wpList _ _ _ (⟨some 23, Op.build _ _, _, _, _, _⟩ :: _) _ _)
       refine value_G (by rfl) (.agg (bs He.zs)) (exec_buildH 23 #[] rfl (bs He.zs) zs_built _) ?_)
    | (with_reducible (show wpList _ _ _ (⟨some 24, Op.binOp _ _ _ _ _, _, _, _, _⟩ :: _) _ _)
       refine value_G (by rfl) (.bool (!decide (h.pf = He.zs))) (exec_neqB (.tmp 22) (.tmp 23) _ h.pf He.zs HF.out.p32 rfl rfl rfl rfl _) ?_)
    | (with_reducible (show wpList _ _ _ (⟨some 33, Op.load 23 _, _, _, _, _⟩ :: _) _ _)
       refine value_G (by rfl) (.agg (bs h.nn)) (run_midH 23 _ w.heap.size 1 (vb h.nn) _ rfl rfl Tryd.underlying23 rfl HIN.out _ RN.out) ?_)
    | (with_reducible (show wpList _ _ _ (⟨some 34, Op.build _ _, _, _, _, _⟩ :: _) _ _)
       refine value_G (by rfl) (.agg (bs He.zs)) (exec_buildH 23 #[] rfl (bs He.zs) zs_built _) ?_)
    | (with_reducible (show wpList _ _ _ (⟨some 35, Op.binOp _ _ _ _ _, _, _, _, _⟩ :: _) _ _)
       refine value_G (by rfl) (.bool (!decide (h.nn = He.zs))) (exec_neqB (.tmp 33) (.tmp 34) _ h.nn He.zs HF.out.n32 rfl rfl rfl rfl _) ?_)
    | (with_reducible (show wpList _ _ _ (⟨some 38, Op.load 25 _, _, _, _, _⟩ :: _) _ _)
       refine value_G (by rfl) (.agg (qv h.l).toArray) (run_midH 25 _ w.heap.size 33 (qv h.l) _ rfl rfl Tryd.underlying25 rfl (by kernel_rfl) _ RL.out) ?_)
    | (with_reducible (show wpList _ _ _ (⟨some 39, Op.build _ _, _, _, _, _⟩ :: _) _ _)
       refine value_G (by rfl) (.agg (qv He.z4).toArray) (exec_buildH 25 #[] rfl (qv He.z4).toArray z4_built _) ?_)
    | (with_reducible (show wpList _ _ _ (⟨some 40, Op.binOp _ _ _ _ _, _, _, _, _⟩ :: _) _ _)
       refine value_G (by rfl) (.bool (!decide (h.l = He.z4))) (exec_neqL (.tmp 38) (.tmp 39) _ h.l He.z4 rfl rfl rfl _) ?_))
  rw [← hW0]
  go_ret2
  exact ⟨nilH, rfl, nilH_ok _, rfl, B0.out⟩

set_option maxRecDepth 20000 in
set_option maxHeartbeats 2000000 in
theorem refPut_n3b (h : He.H) (hf : h.Fine) (w : World) (hk : h.k = 3) (hn : h.nn = He.zs) (hp : h.l ≠ He.z4) :
    Calls Tryd.prog 9 #[.agg (heC h)] w (PutQ [] 1 w) := by
  obtain ⟨W0, hW0⟩ : ∃ W0, W0 = w.alloc (.cells (heC h) 34) := ⟨_, rfl⟩
  have b0 : Below w.heap.size w W0 := by rw [hW0]; exact (Below.refl _ w).alloc (Nat.le_refl _) _
  have r0 : Row W0 w.heap.size 34 (heC h) := by rw [hW0]; exact Row.new _ _ _
  have HF := veil hf
  have R0 := veil r0
  have B0 := veil b0
  have hh : (heC h)[0]? = some (.int .u8 (v8 h.k)) := rfl
  have hlt := r0.lt
  have RN := veil (r0.rangeH 1 (vb h.nn) heC_nn)
  have RL := veil (r0.rangeH 33 (qv h.l) (heC_l hf.n32))
  have RP := veil (r0.rangeH 37 (vb h.pf) (heC_pf hf.n32))
  have HIN := veil (show (Tryd.prog.info? 23).map (·.size) = some (vb h.nn).length by rw [vb_length, hf.n32]; kernel_rfl)
  have HIP := veil (show (Tryd.prog.info? 23).map (·.size) = some (vb h.pf).length by rw [vb_length, hf.p32]; kernel_rfl)
  have kv : v8 h.k = 3 := by rw [hk]; rfl
  rw [kv] at hh
  have dn : decide (h.nn = He.zs) = true := decide_eq_true hn
  have dp : decide (h.l = He.z4) = false := decide_eq_false hp
  clear hn hp hk
  rw [hW0] at RN RL RP
  clear hf r0 b0
  go_enter Tryd.func9, Tryd.ntmps9
  go_wp2_with (first
    | (with_reducible (show wpList _ _ _ (⟨some 22, Op.load 23 _, _, _, _, _⟩ :: _) _ _)
       refine value_G (by rfl) (.agg (bs h.pf)) (run_midH 23 _ w.heap.size 37 (vb h.pf) _ rfl rfl Tryd.underlying23 rfl HIP.out _ RP.out) ?_)
    | (with_reducible (show wpList _ _ _ (⟨some 23, Op.build _ _, _, _, _, _⟩ :: _) _ _)
       refine value_G (by rfl) (.agg (bs He.zs)) (exec_buildH 23 #[] rfl (bs He.zs) zs_built _) ?_)
    | (with_reducible (show wpList _ _ _ (⟨some 24, Op.binOp _ _ _ _ _, _, _, _, _⟩ :: _) _ _)
       refine value_G (by rfl) (.bool (!decide (h.pf = He.zs))) (exec_neqB (.tmp 22) (.tmp 23) _ h.pf He.zs HF.out.p32 rfl rfl rfl rfl _) ?_)
    | (with_reducible (show wpList _ _ _ (⟨some 33, Op.load 23 _, _, _, _, _⟩ :: _) _ _)
       refine value_G (by rfl) (.agg (bs h.nn)) (run_midH 23 _ w.heap.size 1 (vb h.nn) _ rfl rfl Tryd.underlying23 rfl HIN.out _ RN.out) ?_)
    | (with_reducible (show wpList _ _ _ (⟨some 34, Op.build _ _, _, _, _, _⟩ :: _) _ _)
       refine value_G (by rfl) (.agg (bs He.zs)) (exec_buildH 23 #[] rfl (bs He.zs) zs_built _) ?_)
    | (with_reducible (show wpList _ _ _ (⟨some 35, Op.binOp _ _ _ _ _, _, _, _, _⟩ :: _) _ _)
       refine value_G (by rfl) (.bool (!decide (h.nn = He.zs))) (exec_neqB (.tmp 33) (.tmp 34) _ h.nn He.zs HF.out.n32 rfl rfl rfl rfl _) ?_)
    | (with_reducible (show wpList _ _ _ (⟨some 38, Op.load 25 _, _, _, _, _⟩ :: _) _ _)
       refine value_G (by rfl) (.agg (qv h.l).toArray) (run_midH 25 _ w.heap.size 33 (qv h.l) _ rfl rfl Tryd.underlying25 rfl (by kernel_rfl) _ RL.out) ?_)
    | (with_reducible (show wpList _ _ _ (⟨some 39, Op.build _ _, _, _, _, _⟩ :: _) _ _)
       refine value_G (by rfl) (.agg (qv He.z4).toArray) (exec_buildH 25 #[] rfl (qv He.z4).toArray z4_built _) ?_)
    | (with_reducible (show wpList _ _ _ (⟨some 40, Op.binOp _ _ _ _ _, _, _, _, _⟩ :: _) _ _)
       refine value_G (by rfl) (.bool (!decide (h.l = He.z4))) (exec_neqL (.tmp 38) (.tmp 39) _ h.l He.z4 rfl rfl rfl _) ?_))
  rw [← hW0]
  go_ret2
  exact ⟨nilH, rfl, nilH_ok _, rfl, B0.out⟩

set_option maxRecDepth 20000 in
set_option maxHeartbeats 2000000 in
theorem refPut_y3 (h : He.H) (hf : h.Fine) (w : World) (hk : h.k = 3) (hn : h.nn = He.zs) (hp : h.l = He.z4) :
    Calls Tryd.prog 9 #[.agg (heC h)] w (PutQ (He.putO h) (He.putE h) w) := by
  obtain ⟨W0, hW0⟩ : ∃ W0, W0 = w.alloc (.cells (heC h) 34) := ⟨_, rfl⟩
  have b0 : Below w.heap.size w W0 := by rw [hW0]; exact (Below.refl _ w).alloc (Nat.le_refl _) _
  have r0 : Row W0 w.heap.size 34 (heC h) := by rw [hW0]; exact Row.new _ _ _
  have HF := veil hf
  have R0 := veil r0
  have B0 := veil b0
  have hh : (heC h)[0]? = some (.int .u8 (v8 h.k)) := rfl
  have hlt := r0.lt
  have RN := veil (r0.rangeH 1 (vb h.nn) heC_nn)
  have RL := veil (r0.rangeH 33 (qv h.l) (heC_l hf.n32))
  have RP := veil (r0.rangeH 37 (vb h.pf) (heC_pf hf.n32))
  have HIN := veil (show (Tryd.prog.info? 23).map (·.size) = some (vb h.nn).length by rw [vb_length, hf.n32]; kernel_rfl)
  have HIP := veil (show (Tryd.prog.info? 23).map (·.size) = some (vb h.pf).length by rw [vb_length, hf.p32]; kernel_rfl)
  obtain ⟨i0, hi, hz0, hz1, hz2⟩ := info_parts (P := Tryd.prog) (e := 5) (z := .int .u8 0) (size := 1) (bytes := 1) (by kernel_rfl)
  have kv : v8 h.k = 3 := by rw [hk]; rfl
  rw [kv] at hh
  have ho : He.opn h.k = false := by rw [hk]; rfl
  have hpv : He.prv h.k = true := by rw [hk]; rfl
  have dn : decide (h.nn = He.zs) = true := decide_eq_true hn
  have dp : decide (h.l = He.z4) = true := decide_eq_true hp
  have hhad : h = h.had := by
    unfold He.H.had
    rw [ho, hpv]
    simp only [if_true, Bool.false_eq_true, if_false]
    rw [← hp, ← hn]
  have hfit : h.l.Fit := by rw [hp]; decide
  have HFITS := veil hfit
  have hisk : He.isK h.k = true := by rw [hk]; rfl
  have HYES := veil (show h.l.Fit → He.putO h = h.k :: ([] ++ h.pf) ∧ He.putE h = 0 from fun hfit => by
    have hm : h.may := ⟨hisk, hhad, hfit⟩
    refine ⟨?_, by unfold He.putE; rw [if_pos hm]⟩
    unfold He.putO
    rw [if_pos hm]
    unfold He.H.bytes
    rw [ho, hpv]
    rfl)
  have HNO := veil (show ¬ h.l.Fit → He.putO h = [] ∧ He.putE h = 1 from fun hn => by
    have hm : ¬ h.may := fun hm => hn hm.2.2
    exact ⟨by unfold He.putO; rw [if_neg hm], by unfold He.putE; rw [if_neg hm]⟩)
  rw [hW0] at RN RL RP
  obtain ⟨W1, hW1⟩ : ∃ W1, W1 = W0.alloc (.cells #[.int .u8 (v8 h.k)] 5) := ⟨_, rfl⟩
  have o1 : W1.ownsRow W0.heap.size 5 1 (.slice (some ⟨W0.heap.size, 0, none⟩) 1 1) 1 (vb [h.k]) := by rw [hW1]; exact own_litV W0 [h.k] (show 1 ≤ maxLen by unfold maxLen; decide)
  have b1 : Below W0.heap.size W0 W1 := by rw [hW1]; exact (Below.refl _ W0).alloc (Nat.le_refl _) _
  have r1 : Row W1 w.heap.size 34 (heC h) := r0.below b1 hlt
  have O1 := veil (own_low o1 b0.size)
  have R1 := veil r1
  have B1 := veil (b0.trans (b1.mono b0.size))
  have hsz0 : W0.heap.size = w.heap.size + 1 := by rw [hW0]; simp
  rw [hW0, kv] at hW1
  rw [hsz0] at O1
  have HW1 := veil hW1
  have c1 : W1.cell? ⟨w.heap.size, 0, none⟩ = some (.int .u8 3) := by have := r1.cell 0; rw [hh] at this; exact this
  clear hlt hf r0 b0 o1 b1 r1 hk ho hpv hisk hhad hW1 hsz0 R0 B0
  have HR1 := R1
  clear hn hp
  go_enter Tryd.func9, Tryd.ntmps9
  go_wp2_with (first
    | (with_reducible (show wpList _ _ _ (⟨some 22, Op.load 23 _, _, _, _, _⟩ :: _) _ _)
       refine value_G (by rfl) (.agg (bs h.pf)) (run_midH 23 _ w.heap.size 37 (vb h.pf) _ rfl rfl Tryd.underlying23 rfl HIP.out _ RP.out) ?_)
    | (with_reducible (show wpList _ _ _ (⟨some 23, Op.build _ _, _, _, _, _⟩ :: _) _ _)
       refine value_G (by rfl) (.agg (bs He.zs)) (exec_buildH 23 #[] rfl (bs He.zs) zs_built _) ?_)
    | (with_reducible (show wpList _ _ _ (⟨some 24, Op.binOp _ _ _ _ _, _, _, _, _⟩ :: _) _ _)
       refine value_G (by rfl) (.bool (!decide (h.pf = He.zs))) (exec_neqB (.tmp 22) (.tmp 23) _ h.pf He.zs HF.out.p32 rfl rfl rfl rfl _) ?_)
    | (with_reducible (show wpList _ _ _ (⟨some 33, Op.load 23 _, _, _, _, _⟩ :: _) _ _)
       refine value_G (by rfl) (.agg (bs h.nn)) (run_midH 23 _ w.heap.size 1 (vb h.nn) _ rfl rfl Tryd.underlying23 rfl HIN.out _ RN.out) ?_)
    | (with_reducible (show wpList _ _ _ (⟨some 34, Op.build _ _, _, _, _, _⟩ :: _) _ _)
       refine value_G (by rfl) (.agg (bs He.zs)) (exec_buildH 23 #[] rfl (bs He.zs) zs_built _) ?_)
    | (with_reducible (show wpList _ _ _ (⟨some 35, Op.binOp _ _ _ _ _, _, _, _, _⟩ :: _) _ _)
       refine value_G (by rfl) (.bool (!decide (h.nn = He.zs))) (exec_neqB (.tmp 33) (.tmp 34) _ h.nn He.zs HF.out.n32 rfl rfl rfl rfl _) ?_)
    | (with_reducible (show wpList _ _ _ (⟨some 38, Op.load 25 _, _, _, _, _⟩ :: _) _ _)
       refine value_G (by rfl) (.agg (qv h.l).toArray) (run_midH 25 _ w.heap.size 33 (qv h.l) _ rfl rfl Tryd.underlying25 rfl (by kernel_rfl) _ RL.out) ?_)
    | (with_reducible (show wpList _ _ _ (⟨some 39, Op.build _ _, _, _, _, _⟩ :: _) _ _)
       refine value_G (by rfl) (.agg (qv He.z4).toArray) (exec_buildH 25 #[] rfl (qv He.z4).toArray z4_built _) ?_)
    | (with_reducible (show wpList _ _ _ (⟨some 40, Op.binOp _ _ _ _ _, _, _, _, _⟩ :: _) _ _)
       refine value_G (by rfl) (.bool (!decide (h.l = He.z4))) (exec_neqL (.tmp 38) (.tmp 39) _ h.l He.z4 rfl rfl rfl _) ?_)
    | (with_reducible (show wpList _ _ _ (⟨some 77, Op.call _, _, _, _, _⟩ :: _) _ _)
       rw [← HW1.out]
       refine append_sl rfl _ _ 28 rfl w.heap.size i0 Tryd.underlying28 hi hz0 hz1 hz2 (.slice (some ⟨w.heap.size + 1, 0, none⟩) 1 1) 1 ([h.k]) rfl O1.out (SL.mk (some ⟨w.heap.size, 37, none⟩) 32 32 w.heap.size 37 h.pf) (pf_slR R1.out HF.out) rfl (show 1 + 32 ≤ 8388608 by decide) B1.out.size ?_
       intro v7 w7 hown7 hgrow7
       obtain ⟨a7, c7, rfl⟩ := own_shapeF hown7
       have B7 := veil (below_growH B1.out hgrow7 O1.out)
       have O7 := veil hown7
       clear hown7 hgrow7))
  go_ret2
  obtain ⟨e1, e2⟩ := HYES.out HFITS.out
  obtain ⟨q, hv, hql, hqb, hqok, _⟩ := SL.of_own O7.out
  rw [e1, e2]
  refine ⟨q, ?_, hqok, ?_, B7.out⟩
  · rw [← show q.v = .slice q.a q.len q.cap from rfl, hv]
    rfl
  · rw [hqb]
    simp

set_option maxRecDepth 20000 in
set_option maxHeartbeats 2000000 in
theorem refPut_y1 (h : He.H) (hf : h.Fine) (w : World) (hk : h.k = 1) (hp : h.pf = He.zs) :
    Calls Tryd.prog 9 #[.agg (heC h)] w (PutQ (He.putO h) (He.putE h) w) := by
  obtain ⟨W0, hW0⟩ : ∃ W0, W0 = w.alloc (.cells (heC h) 34) := ⟨_, rfl⟩
  have b0 : Below w.heap.size w W0 := by rw [hW0]; exact (Below.refl _ w).alloc (Nat.le_refl _) _
  have r0 : Row W0 w.heap.size 34 (heC h) := by rw [hW0]; exact Row.new _ _ _
  have HF := veil hf
  have R0 := veil r0
  have B0 := veil b0
  have hh : (heC h)[0]? = some (.int .u8 (v8 h.k)) := rfl
  have hlt := r0.lt
  have RN := veil (r0.rangeH 1 (vb h.nn) heC_nn)
  have RL := veil (r0.rangeH 33 (qv h.l) (heC_l hf.n32))
  have RP := veil (r0.rangeH 37 (vb h.pf) (heC_pf hf.n32))
  have HIN := veil (show (Tryd.prog.info? 23).map (·.size) = some (vb h.nn).length by rw [vb_length, hf.n32]; kernel_rfl)
  have HIP := veil (show (Tryd.prog.info? 23).map (·.size) = some (vb h.pf).length by rw [vb_length, hf.p32]; kernel_rfl)
  obtain ⟨i0, hi, hz0, hz1, hz2⟩ := info_parts (P := Tryd.prog) (e := 5) (z := .int .u8 0) (size := 1) (bytes := 1) (by kernel_rfl)
  have kv : v8 h.k = 1 := by rw [hk]; rfl
  rw [kv] at hh
  have ho : He.opn h.k = true := by rw [hk]; rfl
  have hpv : He.prv h.k = false := by rw [hk]; rfl
  have dp : decide (h.pf = He.zs) = true := decide_eq_true hp
  have hhad : h = h.had := by
    unfold He.H.had
    rw [ho, hpv]
    simp only [if_true, Bool.false_eq_true, if_false]
    rw [← hp]
  have hisk : He.isK h.k = true := by rw [hk]; rfl
  have HYES := veil (show h.l.Fit → He.putO h = h.k :: ((h.nn ++ He.limsL h.l) ++ []) ∧ He.putE h = 0 from fun hfit => by
    have hm : h.may := ⟨hisk, hhad, hfit⟩
    refine ⟨?_, by unfold He.putE; rw [if_pos hm]⟩
    unfold He.putO
    rw [if_pos hm]
    unfold He.H.bytes
    rw [ho, hpv]
    rfl)
  have HNO := veil (show ¬ h.l.Fit → He.putO h = [] ∧ He.putE h = 1 from fun hn => by
    have hm : ¬ h.may := fun hm => hn hm.2.2
    exact ⟨by unfold He.putO; rw [if_neg hm], by unfold He.putE; rw [if_neg hm]⟩)
  rw [hW0] at RN RL RP
  obtain ⟨W1, hW1⟩ : ∃ W1, W1 = W0.alloc (.cells #[.int .u8 (v8 h.k)] 5) := ⟨_, rfl⟩
  have o1 : W1.ownsRow W0.heap.size 5 1 (.slice (some ⟨W0.heap.size, 0, none⟩) 1 1) 1 (vb [h.k]) := by rw [hW1]; exact own_litV W0 [h.k] (show 1 ≤ maxLen by unfold maxLen; decide)
  have b1 : Below W0.heap.size W0 W1 := by rw [hW1]; exact (Below.refl _ W0).alloc (Nat.le_refl _) _
  have r1 : Row W1 w.heap.size 34 (heC h) := r0.below b1 hlt
  have O1 := veil (own_low o1 b0.size)
  have R1 := veil r1
  have B1 := veil (b0.trans (b1.mono b0.size))
  have hsz0 : W0.heap.size = w.heap.size + 1 := by rw [hW0]; simp
  rw [hW0, kv] at hW1
  rw [hsz0] at O1
  have HW1 := veil hW1
  have c1 : W1.cell? ⟨w.heap.size, 0, none⟩ = some (.int .u8 1) := by have := r1.cell 0; rw [hh] at this; exact this
  clear hlt hf r0 b0 o1 b1 r1 hk ho hpv hisk hhad hW1 hsz0 R0 B0
  clear hp
  go_enter Tryd.func9, Tryd.ntmps9
  go_wp2_with (first
    | (with_reducible (show wpList _ _ _ (⟨some 22, Op.load 23 _, _, _, _, _⟩ :: _) _ _)
       refine value_G (by rfl) (.agg (bs h.pf)) (run_midH 23 _ w.heap.size 37 (vb h.pf) _ rfl rfl Tryd.underlying23 rfl HIP.out _ RP.out) ?_)
    | (with_reducible (show wpList _ _ _ (⟨some 23, Op.build _ _, _, _, _, _⟩ :: _) _ _)
       refine value_G (by rfl) (.agg (bs He.zs)) (exec_buildH 23 #[] rfl (bs He.zs) zs_built _) ?_)
    | (with_reducible (show wpList _ _ _ (⟨some 24, Op.binOp _ _ _ _ _, _, _, _, _⟩ :: _) _ _)
       refine value_G (by rfl) (.bool (!decide (h.pf = He.zs))) (exec_neqB (.tmp 22) (.tmp 23) _ h.pf He.zs HF.out.p32 rfl rfl rfl rfl _) ?_)
    | (with_reducible (show wpList _ _ _ (⟨some 33, Op.load 23 _, _, _, _, _⟩ :: _) _ _)
       refine value_G (by rfl) (.agg (bs h.nn)) (run_midH 23 _ w.heap.size 1 (vb h.nn) _ rfl rfl Tryd.underlying23 rfl HIN.out _ RN.out) ?_)
    | (with_reducible (show wpList _ _ _ (⟨some 34, Op.build _ _, _, _, _, _⟩ :: _) _ _)
       refine value_G (by rfl) (.agg (bs He.zs)) (exec_buildH 23 #[] rfl (bs He.zs) zs_built _) ?_)
    | (with_reducible (show wpList _ _ _ (⟨some 35, Op.binOp _ _ _ _ _, _, _, _, _⟩ :: _) _ _)
       refine value_G (by rfl) (.bool (!decide (h.nn = He.zs))) (exec_neqB (.tmp 33) (.tmp 34) _ h.nn He.zs HF.out.n32 rfl rfl rfl rfl _) ?_)
    | (with_reducible (show wpList _ _ _ (⟨some 38, Op.load 25 _, _, _, _, _⟩ :: _) _ _)
       refine value_G (by rfl) (.agg (qv h.l).toArray) (run_midH 25 _ w.heap.size 33 (qv h.l) _ rfl rfl Tryd.underlying25 rfl (by kernel_rfl) _ RL.out) ?_)
    | (with_reducible (show wpList _ _ _ (⟨some 39, Op.build _ _, _, _, _, _⟩ :: _) _ _)
       refine value_G (by rfl) (.agg (qv He.z4).toArray) (exec_buildH 25 #[] rfl (qv He.z4).toArray z4_built _) ?_)
    | (with_reducible (show wpList _ _ _ (⟨some 40, Op.binOp _ _ _ _ _, _, _, _, _⟩ :: _) _ _)
       refine value_G (by rfl) (.bool (!decide (h.l = He.z4))) (exec_neqL (.tmp 38) (.tmp 39) _ h.l He.z4 rfl rfl rfl _) ?_)
    | (with_reducible (show wpList _ _ _ (⟨some 53, Op.call _, _, _, _, _⟩ :: _) _ _)
       rw [← HW1.out]
       refine append_sl rfl _ _ 28 rfl w.heap.size i0 Tryd.underlying28 hi hz0 hz1 hz2 (.slice (some ⟨w.heap.size + 1, 0, none⟩) 1 1) 1 [h.k] rfl O1.out (SL.mk (some ⟨w.heap.size, 1, none⟩) 32 32 w.heap.size 1 h.nn) (nn_slR R1.out HF.out) rfl (show 1 + 32 ≤ 8388608 by decide) B1.out.size ?_
       intro v2 w2 hown2 hgrow2
       obtain ⟨a2, c2, rfl⟩ := own_shapeF hown2
       have B2 := veil (below_growH B1.out hgrow2 O1.out)
       have R2 := veil (row_growH R1.out hgrow2 (show some w.heap.size ≠ some (w.heap.size + 1) by simp))
       have O2 := veil hown2
       clear hown2 hgrow2))
  go_loopw [4, 5] (fun ov iv wr => ∃ j N : Nat, j ≤ 4 ∧ iv = .int .i64 j ∧ Hid (∀ i, i < j → nAt h.l i ≤ 4611686018427387903) ∧ Hid ((([h.k] ++ h.nn) ++ numsTo h.l j).length = N) ∧ Hid (wr.ownsRow w.heap.size 5 1 ov N (vb (([h.k] ++ h.nn) ++ numsTo h.l j))) ∧ Hid (Row wr w.heap.size 34 (heC h)) ∧ Hid (∀ q, ov.ownBlock = some q → w.heap.size < q) ∧ Hid (Below w.heap.size w wr))
    (fun _ iv _ => 4 - (intOf iv).toNat)
  case atStart =>
    refine ⟨0, 1 + 32, by decide, rfl, (fun i hi => absurd hi (Nat.not_lt_zero _)), ?_, ?_, R2.out, ?_, B2.out⟩
    · show _ = _
      rw [numsTo, List.append_nil, List.length_append, HF.out.n32]
      rfl
    · have := O2.out
      show World.ownsRow _ _ _ _ _ _ _
      rw [numsTo, List.append_nil]
      exact this
    · intro q hq
      have h1 := (O2.out.lt q hq).1
      rcases Nat.lt_or_ge w.heap.size q with h2 | h2
      · exact h2
      · exfalso
        obtain rfl : q = w.heap.size := by omega
        exact own_not_row O2.out R2.out hq (by decide)
  case round =>
    clear O2 R2 B2 HW1 O1 R1 B1 c1
    obtain ⟨j, N, hj4, rfl, HJ, HN, OJ, RJ, NJ, BJ⟩ := hrel
    obtain ⟨aJ, cJ, rfl⟩ := own_shapeF OJ.out
    have c1 : wr.cell? ⟨w.heap.size, 0, none⟩ = some (.int .u8 1) := by have := RJ.out.cell 0; rw [hh] at this; exact this
    by_cases hlt : j < 4
    · have hdk : decide ((j : Int) < 4) = true := by simp; omega
      have hj0 : (0 : Int) ≤ (j : Int) := by omega
      have hjI : (j : Int) < 4 := by omega
      have cj : wr.cell? ⟨w.heap.size, 33 + j, none⟩ = some (.int .u64 (nAt h.l j : Int)) := RJ.out.rangeH 33 _ (heC_l HF.out.n32) j _ (qv_lAtN _ j hlt)
      go_wp2_with fail
      by_cases hm : nAt h.l j ≤ 4611686018427387903
      · refine (ref_putH (nAt h.l j) wr hm).mono ?_
        rintro e4 w4 ⟨z, rfl, hz, hzb, hzl, bb4⟩
        have R4 := veil (RJ.out.below bb4 RJ.out.lt)
        have O4 := veil (own_below OJ.out bb4)
        have B4 := veil (BJ.out.trans (bb4.mono BJ.out.size))
        have HZ := veil hz
        have HZB := veil hzb
        have HZL := veil hz.hb
        have hle : N + z.len ≤ 8388608 := by
          have h1 := numsTo_le h.l j
          have h2 := Fr.szN_le (nAt h.l j)
          have h3 := HF.out.n32
          rw [← HN.out, List.length_append, List.length_append, List.length_singleton, hzl]
          omega
        clear hz hzb hzl bb4 cj c1
        go_wp2_with (with_reducible (show wpList _ _ _ (⟨some 70, Op.call _, _, _, _, _⟩ :: _) _ _)
                     refine append_sl rfl _ _ 28 rfl w.heap.size i0 Tryd.underlying28 hi hz0 hz1 hz2 _ _ _ rfl O4.out z HZ.out rfl hle B4.out.size ?_
                     intro v5 w5 hown5 hgrow5)
        have R5 := veil (row_growH R4.out hgrow5 (fun e => by have := NJ.out _ e.symm; omega))
        have B5 := veil (below_growH B4.out hgrow5 O4.out)
        have HO5 := veil hown5
        clear hown5 hgrow5
        go_roundw
        case rel =>
          refine ⟨j + 1, N + z.len, by omega, by go_num, ?_, ?_, ?_, R5.out, ?_, B5.out⟩
          · intro i hi
            by_cases e : i = j
            · rw [e]; exact hm
            · exact HJ.out i (by omega)
          · show _ = _
            rw [numsTo, ← List.append_assoc, List.length_append, HN.out, ← HZB.out, HZL.out]
          · have := HO5.out
            rw [HZB.out] at this
            show World.ownsRow _ _ _ _ _ _ _
            rw [numsTo, ← List.append_assoc]
            exact this
          · intro q hq
            have h1 := (HO5.out.lt q hq).1
            rcases Nat.lt_or_ge w.heap.size q with h2 | h2
            · exact h2
            · exfalso
              obtain rfl : q = w.heap.size := by omega
              exact own_not_row HO5.out R5.out hq (by decide)
        case measure => simp [intOf]; omega
      · have HNF := veil (show ¬ h.l.Fit from fun hf => hm ((fit_at h.l).1 hf j hlt))
        refine (ref_putH_no (nAt h.l j : Int) wr (by omega)).mono ?_
        rintro e4 w4 ⟨rfl, hw4⟩
        obtain rfl := hw4
        go_wp2_with fail
        go_ret2
        obtain ⟨e1, e2⟩ := HNO.out HNF.out
        rw [e1, e2]
        exact ⟨nilH, rfl, nilH_ok _, rfl, BJ.out⟩
    · have hdk : decide ((j : Int) < 4) = false := by simp; omega
      obtain rfl : j = 4 := by omega
      have HFITS := veil (show h.l.Fit from (fit_at h.l).2 HJ.out)
      have hle : N + 32 ≤ 8388608 := by
        have h1 := numsTo_le h.l 4
        have h3 := HF.out.n32
        rw [← HN.out, List.length_append, List.length_append, List.length_singleton]
        omega
      go_wp2_with fail
      go_ret2
      obtain ⟨e1, e2⟩ := HYES.out HFITS.out
      obtain ⟨q, hv, hql, hqb, hqok, _⟩ := SL.of_own OJ.out
      rw [e1, e2]
      refine ⟨q, ?_, hqok, ?_, BJ.out⟩
      · rw [← show q.v = .slice q.a q.len q.cap from rfl, hv]
        rfl
      · rw [hqb]
        rw [numsTo_four]
        simp

set_option maxRecDepth 20000 in
set_option maxHeartbeats 2000000 in
theorem refPut_y2 (h : He.H) (hf : h.Fine) (w : World) (hk : h.k = 2) :
    Calls Tryd.prog 9 #[.agg (heC h)] w (PutQ (He.putO h) (He.putE h) w) := by
  obtain ⟨W0, hW0⟩ : ∃ W0, W0 = w.alloc (.cells (heC h) 34) := ⟨_, rfl⟩
  have b0 : Below w.heap.size w W0 := by rw [hW0]; exact (Below.refl _ w).alloc (Nat.le_refl _) _
  have r0 : Row W0 w.heap.size 34 (heC h) := by rw [hW0]; exact Row.new _ _ _
  have HF := veil hf
  have R0 := veil r0
  have B0 := veil b0
  have hh : (heC h)[0]? = some (.int .u8 (v8 h.k)) := rfl
  have hlt := r0.lt
  have RN := veil (r0.rangeH 1 (vb h.nn) heC_nn)
  have RL := veil (r0.rangeH 33 (qv h.l) (heC_l hf.n32))
  have RP := veil (r0.rangeH 37 (vb h.pf) (heC_pf hf.n32))
  have HIN := veil (show (Tryd.prog.info? 23).map (·.size) = some (vb h.nn).length by rw [vb_length, hf.n32]; kernel_rfl)
  have HIP := veil (show (Tryd.prog.info? 23).map (·.size) = some (vb h.pf).length by rw [vb_length, hf.p32]; kernel_rfl)
  obtain ⟨i0, hi, hz0, hz1, hz2⟩ := info_parts (P := Tryd.prog) (e := 5) (z := .int .u8 0) (size := 1) (bytes := 1) (by kernel_rfl)
  have kv : v8 h.k = 2 := by rw [hk]; rfl
  rw [kv] at hh
  have ho : He.opn h.k = true := by rw [hk]; rfl
  have hpv : He.prv h.k = true := by rw [hk]; rfl
  have hhad : h = h.had := by
    unfold He.H.had
    rw [ho, hpv]
    rfl
  have hisk : He.isK h.k = true := by rw [hk]; rfl
  have HYES := veil (show h.l.Fit → He.putO h = h.k :: ((h.nn ++ He.limsL h.l) ++ h.pf) ∧ He.putE h = 0 from fun hfit => by
    have hm : h.may := ⟨hisk, hhad, hfit⟩
    refine ⟨?_, by unfold He.putE; rw [if_pos hm]⟩
    unfold He.putO
    rw [if_pos hm]
    unfold He.H.bytes
    rw [ho, hpv]
    rfl)
  have HNO := veil (show ¬ h.l.Fit → He.putO h = [] ∧ He.putE h = 1 from fun hn => by
    have hm : ¬ h.may := fun hm => hn hm.2.2
    exact ⟨by unfold He.putO; rw [if_neg hm], by unfold He.putE; rw [if_neg hm]⟩)
  rw [hW0] at RN RL RP
  obtain ⟨W1, hW1⟩ : ∃ W1, W1 = W0.alloc (.cells #[.int .u8 (v8 h.k)] 5) := ⟨_, rfl⟩
  have o1 : W1.ownsRow W0.heap.size 5 1 (.slice (some ⟨W0.heap.size, 0, none⟩) 1 1) 1 (vb [h.k]) := by rw [hW1]; exact own_litV W0 [h.k] (show 1 ≤ maxLen by unfold maxLen; decide)
  have b1 : Below W0.heap.size W0 W1 := by rw [hW1]; exact (Below.refl _ W0).alloc (Nat.le_refl _) _
  have r1 : Row W1 w.heap.size 34 (heC h) := r0.below b1 hlt
  have O1 := veil (own_low o1 b0.size)
  have R1 := veil r1
  have B1 := veil (b0.trans (b1.mono b0.size))
  have hsz0 : W0.heap.size = w.heap.size + 1 := by rw [hW0]; simp
  rw [hW0, kv] at hW1
  rw [hsz0] at O1
  have HW1 := veil hW1
  have c1 : W1.cell? ⟨w.heap.size, 0, none⟩ = some (.int .u8 2) := by have := r1.cell 0; rw [hh] at this; exact this
  clear hlt hf r0 b0 o1 b1 r1 hk ho hpv hisk hhad hW1 hsz0 R0 B0
  go_enter Tryd.func9, Tryd.ntmps9
  go_wp2_with (first
    | (with_reducible (show wpList _ _ _ (⟨some 22, Op.load 23 _, _, _, _, _⟩ :: _) _ _)
       refine value_G (by rfl) (.agg (bs h.pf)) (run_midH 23 _ w.heap.size 37 (vb h.pf) _ rfl rfl Tryd.underlying23 rfl HIP.out _ RP.out) ?_)
    | (with_reducible (show wpList _ _ _ (⟨some 23, Op.build _ _, _, _, _, _⟩ :: _) _ _)
       refine value_G (by rfl) (.agg (bs He.zs)) (exec_buildH 23 #[] rfl (bs He.zs) zs_built _) ?_)
    | (with_reducible (show wpList _ _ _ (⟨some 24, Op.binOp _ _ _ _ _, _, _, _, _⟩ :: _) _ _)
       refine value_G (by rfl) (.bool (!decide (h.pf = He.zs))) (exec_neqB (.tmp 22) (.tmp 23) _ h.pf He.zs HF.out.p32 rfl rfl rfl rfl _) ?_)
    | (with_reducible (show wpList _ _ _ (⟨some 33, Op.load 23 _, _, _, _, _⟩ :: _) _ _)
       refine value_G (by rfl) (.agg (bs h.nn)) (run_midH 23 _ w.heap.size 1 (vb h.nn) _ rfl rfl Tryd.underlying23 rfl HIN.out _ RN.out) ?_)
    | (with_reducible (show wpList _ _ _ (⟨some 34, Op.build _ _, _, _, _, _⟩ :: _) _ _)
       refine value_G (by rfl) (.agg (bs He.zs)) (exec_buildH 23 #[] rfl (bs He.zs) zs_built _) ?_)
    | (with_reducible (show wpList _ _ _ (⟨some 35, Op.binOp _ _ _ _ _, _, _, _, _⟩ :: _) _ _)
       refine value_G (by rfl) (.bool (!decide (h.nn = He.zs))) (exec_neqB (.tmp 33) (.tmp 34) _ h.nn He.zs HF.out.n32 rfl rfl rfl rfl _) ?_)
    | (with_reducible (show wpList _ _ _ (⟨some 38, Op.load 25 _, _, _, _, _⟩ :: _) _ _)
       refine value_G (by rfl) (.agg (qv h.l).toArray) (run_midH 25 _ w.heap.size 33 (qv h.l) _ rfl rfl Tryd.underlying25 rfl (by kernel_rfl) _ RL.out) ?_)
    | (with_reducible (show wpList _ _ _ (⟨some 39, Op.build _ _, _, _, _, _⟩ :: _) _ _)
       refine value_G (by rfl) (.agg (qv He.z4).toArray) (exec_buildH 25 #[] rfl (qv He.z4).toArray z4_built _) ?_)
    | (with_reducible (show wpList _ _ _ (⟨some 40, Op.binOp _ _ _ _ _, _, _, _, _⟩ :: _) _ _)
       refine value_G (by rfl) (.bool (!decide (h.l = He.z4))) (exec_neqL (.tmp 38) (.tmp 39) _ h.l He.z4 rfl rfl rfl _) ?_)
    | (with_reducible (show wpList _ _ _ (⟨some 53, Op.call _, _, _, _, _⟩ :: _) _ _)
       rw [← HW1.out]
       refine append_sl rfl _ _ 28 rfl w.heap.size i0 Tryd.underlying28 hi hz0 hz1 hz2 (.slice (some ⟨w.heap.size + 1, 0, none⟩) 1 1) 1 [h.k] rfl O1.out (SL.mk (some ⟨w.heap.size, 1, none⟩) 32 32 w.heap.size 1 h.nn) (nn_slR R1.out HF.out) rfl (show 1 + 32 ≤ 8388608 by decide) B1.out.size ?_
       intro v2 w2 hown2 hgrow2
       obtain ⟨a2, c2, rfl⟩ := own_shapeF hown2
       have B2 := veil (below_growH B1.out hgrow2 O1.out)
       have R2 := veil (row_growH R1.out hgrow2 (show some w.heap.size ≠ some (w.heap.size + 1) by simp))
       have O2 := veil hown2
       clear hown2 hgrow2))
  go_loopw [4, 5] (fun ov iv wr => ∃ j N : Nat, j ≤ 4 ∧ iv = .int .i64 j ∧ Hid (∀ i, i < j → nAt h.l i ≤ 4611686018427387903) ∧ Hid ((([h.k] ++ h.nn) ++ numsTo h.l j).length = N) ∧ Hid (wr.ownsRow w.heap.size 5 1 ov N (vb (([h.k] ++ h.nn) ++ numsTo h.l j))) ∧ Hid (Row wr w.heap.size 34 (heC h)) ∧ Hid (∀ q, ov.ownBlock = some q → w.heap.size < q) ∧ Hid (Below w.heap.size w wr))
    (fun _ iv _ => 4 - (intOf iv).toNat)
  case atStart =>
    refine ⟨0, 1 + 32, by decide, rfl, (fun i hi => absurd hi (Nat.not_lt_zero _)), ?_, ?_, R2.out, ?_, B2.out⟩
    · show _ = _
      rw [numsTo, List.append_nil, List.length_append, HF.out.n32]
      rfl
    · have := O2.out
      show World.ownsRow _ _ _ _ _ _ _
      rw [numsTo, List.append_nil]
      exact this
    · intro q hq
      have h1 := (O2.out.lt q hq).1
      rcases Nat.lt_or_ge w.heap.size q with h2 | h2
      · exact h2
      · exfalso
        obtain rfl : q = w.heap.size := by omega
        exact own_not_row O2.out R2.out hq (by decide)
  case round =>
    clear O2 R2 B2 HW1 O1 R1 B1 c1
    obtain ⟨j, N, hj4, rfl, HJ, HN, OJ, RJ, NJ, BJ⟩ := hrel
    obtain ⟨aJ, cJ, rfl⟩ := own_shapeF OJ.out
    have c1 : wr.cell? ⟨w.heap.size, 0, none⟩ = some (.int .u8 2) := by have := RJ.out.cell 0; rw [hh] at this; exact this
    by_cases hlt : j < 4
    · have hdk : decide ((j : Int) < 4) = true := by simp; omega
      have hj0 : (0 : Int) ≤ (j : Int) := by omega
      have hjI : (j : Int) < 4 := by omega
      have cj : wr.cell? ⟨w.heap.size, 33 + j, none⟩ = some (.int .u64 (nAt h.l j : Int)) := RJ.out.rangeH 33 _ (heC_l HF.out.n32) j _ (qv_lAtN _ j hlt)
      go_wp2_with fail
      by_cases hm : nAt h.l j ≤ 4611686018427387903
      · refine (ref_putH (nAt h.l j) wr hm).mono ?_
        rintro e4 w4 ⟨z, rfl, hz, hzb, hzl, bb4⟩
        have R4 := veil (RJ.out.below bb4 RJ.out.lt)
        have O4 := veil (own_below OJ.out bb4)
        have B4 := veil (BJ.out.trans (bb4.mono BJ.out.size))
        have HZ := veil hz
        have HZB := veil hzb
        have HZL := veil hz.hb
        have hle : N + z.len ≤ 8388608 := by
          have h1 := numsTo_le h.l j
          have h2 := Fr.szN_le (nAt h.l j)
          have h3 := HF.out.n32
          rw [← HN.out, List.length_append, List.length_append, List.length_singleton, hzl]
          omega
        clear hz hzb hzl bb4 cj c1
        go_wp2_with (with_reducible (show wpList _ _ _ (⟨some 70, Op.call _, _, _, _, _⟩ :: _) _ _)
                     refine append_sl rfl _ _ 28 rfl w.heap.size i0 Tryd.underlying28 hi hz0 hz1 hz2 _ _ _ rfl O4.out z HZ.out rfl hle B4.out.size ?_
                     intro v5 w5 hown5 hgrow5)
        have R5 := veil (row_growH R4.out hgrow5 (fun e => by have := NJ.out _ e.symm; omega))
        have B5 := veil (below_growH B4.out hgrow5 O4.out)
        have HO5 := veil hown5
        clear hown5 hgrow5
        go_roundw
        case rel =>
          refine ⟨j + 1, N + z.len, by omega, by go_num, ?_, ?_, ?_, R5.out, ?_, B5.out⟩
          · intro i hi
            by_cases e : i = j
            · rw [e]; exact hm
            · exact HJ.out i (by omega)
          · show _ = _
            rw [numsTo, ← List.append_assoc, List.length_append, HN.out, ← HZB.out, HZL.out]
          · have := HO5.out
            rw [HZB.out] at this
            show World.ownsRow _ _ _ _ _ _ _
            rw [numsTo, ← List.append_assoc]
            exact this
          · intro q hq
            have h1 := (HO5.out.lt q hq).1
            rcases Nat.lt_or_ge w.heap.size q with h2 | h2
            · exact h2
            · exfalso
              obtain rfl : q = w.heap.size := by omega
              exact own_not_row HO5.out R5.out hq (by decide)
        case measure => simp [intOf]; omega
      · have HNF := veil (show ¬ h.l.Fit from fun hf => hm ((fit_at h.l).1 hf j hlt))
        refine (ref_putH_no (nAt h.l j : Int) wr (by omega)).mono ?_
        rintro e4 w4 ⟨rfl, hw4⟩
        obtain rfl := hw4
        go_wp2_with fail
        go_ret2
        obtain ⟨e1, e2⟩ := HNO.out HNF.out
        rw [e1, e2]
        exact ⟨nilH, rfl, nilH_ok _, rfl, BJ.out⟩
    · have hdk : decide ((j : Int) < 4) = false := by simp; omega
      obtain rfl : j = 4 := by omega
      have HFITS := veil (show h.l.Fit from (fit_at h.l).2 HJ.out)
      have hle : N + 32 ≤ 8388608 := by
        have h1 := numsTo_le h.l 4
        have h3 := HF.out.n32
        rw [← HN.out, List.length_append, List.length_append, List.length_singleton]
        omega
      go_wp2_with (first
        | (with_reducible (show wpList _ _ _ (⟨some 77, Op.call _, _, _, _, _⟩ :: _) _ _)
           refine append_sl rfl _ _ 28 rfl w.heap.size i0 Tryd.underlying28 hi hz0 hz1 hz2 (.slice aJ N cJ) N (([h.k] ++ h.nn) ++ numsTo h.l 4) rfl OJ.out (SL.mk (some ⟨w.heap.size, 37, none⟩) 32 32 w.heap.size 37 h.pf) (pf_slR RJ.out HF.out) rfl (hle) BJ.out.size ?_
           intro v7 w7 hown7 hgrow7
           obtain ⟨a7, c7, rfl⟩ := own_shapeF hown7
           have B7 := veil (below_growH BJ.out hgrow7 OJ.out)
           have O7 := veil hown7
           clear hown7 hgrow7))
      go_ret2
      obtain ⟨e1, e2⟩ := HYES.out HFITS.out
      obtain ⟨q, hv, hql, hqb, hqok, _⟩ := SL.of_own O7.out
      rw [e1, e2]
      refine ⟨q, ?_, hqok, ?_, B7.out⟩
      · rw [← show q.v = .slice q.a q.len q.cap from rfl, hv]
        rfl
      · rw [hqb]
        rw [numsTo_four]
        simp

theorem refPut_any (h : He.H) (hf : h.Fine) (w : World) :
    Calls Tryd.prog 9 #[.agg (heC h)] w (PutQ (He.putO h) (He.putE h) w) := by
  have bad : ¬ (He.isK h.k = true ∧ h = h.had) → He.putO h = [] ∧ He.putE h = 1 := fun hn => by
    have hm : ¬ h.may := fun hm => hn ⟨hm.1, hm.2.1⟩
    exact ⟨by unfold He.putO; rw [if_neg hm], by unfold He.putE; rw [if_neg hm]⟩
  by_cases k1 : h.k = 1
  · by_cases hp : h.pf = He.zs
    · exact refPut_y1 h hf w k1 hp
    · obtain ⟨e1, e2⟩ := bad fun hn => hp (by
        have e := congrArg He.H.pf hn.2
        unfold He.H.had at e
        rw [k1] at e
        exact e)
      rw [e1, e2]
      exact refPut_n1 h hf w k1 hp
  by_cases k2 : h.k = 2
  · exact refPut_y2 h hf w k2
  by_cases k3 : h.k = 3
  · by_cases hn : h.nn = He.zs
    · by_cases hl : h.l = He.z4
      · exact refPut_y3 h hf w k3 hn hl
      · obtain ⟨e1, e2⟩ := bad fun hx => hl (by
          have e := congrArg He.H.l hx.2
          unfold He.H.had at e
          rw [k3] at e
          exact e)
        rw [e1, e2]
        exact refPut_n3b h hf w k3 hn hl
    · obtain ⟨e1, e2⟩ := bad fun hx => hn (by
        have e := congrArg He.H.nn hx.2
        unfold He.H.had at e
        rw [k3] at e
        exact e)
      rw [e1, e2]
      exact refPut_n3a h hf w k3 hn
  have hno : He.isK h.k = false := by
    unfold He.isK He.opn He.prv
    rw [beq_eq_false_iff_ne.2 k1, beq_eq_false_iff_ne.2 k2, beq_eq_false_iff_ne.2 k3]
    rfl
  obtain ⟨e1, e2⟩ := bad fun hn => by rw [hno] at hn; cases hn.1
  rw [e1, e2]
  by_cases k0 : h.k = 0
  · exact refPut_lo h hf w k0
  · refine refPut_hi h hf w ?_
    have t0 : h.k.toNat ≠ 0 := fun e => k0 (BitVec.eq_of_toNat_eq e)
    have t1 : h.k.toNat ≠ 1 := fun e => k1 (BitVec.eq_of_toNat_eq e)
    have t2 : h.k.toNat ≠ 2 := fun e => k2 (BitVec.eq_of_toNat_eq e)
    have t3 : h.k.toNat ≠ 3 := fun e => k3 (BitVec.eq_of_toNat_eq e)
    unfold v8
    omega
end Go.Proofs.YtjccjlhnjihfjaaDoor
