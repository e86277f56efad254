/-
  Of a greeting what its kind has.
-/
import Derived.Test.YtjccjlhnjihfjaaDoorGhHeMem
import Derived.Test.YtjccjlhnjihfjaaDoorGhPcLine
namespace Go.Proofs.YtjccjlhnjihfjaaDoor
open Go Go.RowKit

section
variable {P : Program} {a : Act} {o : Oper}
theorem run_midH (ty : TypeId) (x : Operand) (g off : Nat) (cs : List Value) (d : TypeDesc) (ho : o.op = .load ty x) (hx : a.eval x = .pointer (some ⟨g, off, none⟩)) (hu : P.underlying ty = some d) (hd : d.isRow = true) (hi : (P.info? ty).map (·.size) = some cs.length) (W : World) (hc : W.rangeAt g off cs) :
    (execOp a.eval o).run P W = .ok (.value (.agg cs.toArray)) W := by
  have h := run_loadAt_mid (P := P) W g off ty cs d hc hu hd hi
  unfold execOp
  simp only [ho, hx, Sem.run_bind, h, Result.andThen_ok, Sem.run_pure]
theorem run_smidH (ty : TypeId) (x y : Operand) (g off : Nat) (cs : List Value) (ho : o.op = .store ty x y) (hx : a.eval x = .pointer (some ⟨g, off, none⟩)) (hy : a.eval y = .agg cs.toArray) (hi : (P.info? ty).map (·.size) = some cs.length) (h1 : cs.toArray.all (·.oneCell') = true) (W : World) (ht : W.there g off cs.length) :
    (execOp a.eval o).run P W = .ok .skip (W.setCells g off cs) := by
  have h := run_storeAt_mid (P := P) W g off ty cs.toArray (by simpa using ht) (by simpa using hi) h1
  unfold execOp
  simp only [ho, hx, hy, Sem.run_bind, h, Result.andThen_ok, Sem.run_pure]
end
section
variable {P : Program}
theorem load_strIn {F : Fence} {n : Nat} {ops : Array Oper} {rest : List Oper} {o : Oper} {a : Act} {w : World} {Q : Exit → Act → World → Prop} (hgd : o.guard = none) (ty : TypeId) (x : Operand) (ho : o.op = .load ty x) (g : Nat) (hx : a.eval x = .pointer (some ⟨g, 0, none⟩)) (t : TypeId) (cs : Array Value) (hg : Row w g t cs) (m : Nat) (fs : Array Field)
    (hu : P.underlying ty = some (.struct fs)) (hi : (P.info? ty).map (·.size) = some m) (hc : cs.size = m) (h : wpListIn F n P ops Q rest (a.put o.dst (.agg cs)) w) : wpListIn F n P ops Q (o :: rest) a w :=
  plain_value hgd (by simp [ho]) (by simp [ho]) _ (lgRun_row ty x ho g hx t cs m fs hu hi hc w hg) h
theorem load_strL {ops : Array Oper} {rest : List Oper} {o : Oper} {a : Act} {w : World} {Q : Exit → Act → World → Prop} (hgd : o.guard = none) (ty : TypeId) (x : Operand) (ho : o.op = .load ty x) (g : Nat) (hx : a.eval x = .pointer (some ⟨g, 0, none⟩)) (t : TypeId) (cs : Array Value) (hg : Row w g t cs) (m : Nat) (fs : Array Field)
    (hu : P.underlying ty = some (.struct fs)) (hi : (P.info? ty).map (·.size) = some m) (hc : cs.size = m) (h : wpList P ops Q rest (a.put o.dst (.agg cs)) w) : wpList P ops Q (o :: rest) a w :=
  value_wp hgd _ (lgRun_row ty x ho g hx t cs m fs hu hi hc w hg) h
theorem store_midIn {F : Fence} {n : Nat} {ops : Array Oper} {rest : List Oper} {o : Oper} {a : Act} {w : World} {Q : Exit → Act → World → Prop} (hgd : o.guard = none) (ty : TypeId) (x y : Operand) (ho : o.op = .store ty x y) (g off : Nat) (cs : List Value) (hx : a.eval x = .pointer (some ⟨g, off, none⟩)) (hy : a.eval y = .agg cs.toArray)
    (hi : (P.info? ty).map (·.size) = some cs.length) (h1 : cs.toArray.all (·.oneCell') = true) (ht : w.there g off cs.length) (h : wpListIn F n P ops Q rest (a.put o.dst undef) (w.setCells g off cs)) : wpListIn F n P ops Q (o :: rest) a w :=
  plain_skip hgd (by simp [ho]) (by simp [ho]) _ (run_smidH ty x y g off cs ho hx hy hi h1 w ht) h
theorem result_str {fn : Func} {p : Tmp} {ty : TypeId} (h : fn.results = #[.cell p ty]) (tmps : Array Value) (w : World) (g : Nat) (t : TypeId) (cs : Array Value) (hg : Row w g t cs) (n : Nat) (fs : Array Field)
    (hp : tmps.getD p undef = .pointer (some ⟨g, 0, none⟩)) (hu : P.underlying ty = some (.struct fs)) (hi : (P.info? ty).map (·.size) = some n) (hc : cs.size = n) :
    (results fn tmps).run P w = .ok (.agg cs) w :=
  results_cell_row h tmps w g t cs (0, 0) _ hp hg hu rfl (by rw [hc]; exact hi)
end
theorem setCells_other {g : Nat} {t : TypeId} {cs : Array Value} {w : World} (h : Row w g t cs) (k o : Nat) (vs : List Value) (hne : g ≠ k) : Row (w.setCells k o vs) g t cs := by
  induction vs generalizing w o with
  | nil => exact h
  | cons v r ih =>
    rw [World.setCells]
    exact ih (h.other (a := ⟨k, o, none⟩) hne v) (o + 1)
def heK (k : By) : He.H := ⟨k, He.zs, He.z4, He.zs⟩
theorem heK_fine (k : By) : (heK k).Fine := ⟨rfl, rfl⟩
theorem vb_oneH (b : List By) : (vb b).toArray.all (·.oneCell') = true := by simp [vb, Value.oneCell']
theorem qv_oneH (l : He.Q4) : (qv l).toArray.all (·.oneCell') = true := by simp [Value.oneCell']

def valA (g : Nat) (h : He.H) : Nat → Value
  | 0 => .pointer (some ⟨g, 1, none⟩)
  | 1 => .agg (vb h.nn).toArray
  | 2 => .pointer (some ⟨g, 33, none⟩)
  | 3 => .agg (qv h.l).toArray
  | 4 => .pointer (some ⟨g + 1 + 1, 1, none⟩)
  | 6 => .pointer (some ⟨g + 1 + 1, 33, none⟩)
  | _ => undef
def hAt (h : He.H) : Nat → He.H
  | 0 => heK h.k
  | 1 => ⟨h.k, h.nn, He.z4, He.zs⟩
  | _ => ⟨h.k, h.nn, h.l, He.zs⟩
theorem hAt_fine (h : He.H) (hf : h.Fine) : ∀ m, (hAt h m).Fine
  | 0 => ⟨rfl, rfl⟩
  | 1 => ⟨hf.n32, rfl⟩
  | _ + 2 => ⟨hf.n32, rfl⟩
def RA (w : World) (g : Nat) (h : He.H) (m : Nat) (W : World) : Prop :=
  Row W g 27 (heC h) ∧ Row W (g + 1) 27 Tryd.zeroCells27 ∧ Row W (g + 1 + 1) 27 (heC (hAt h m)) ∧ Below w.heap.size w W ∧ w.heap.size ≤ g
def depA : Nat → List Nat
  | 1 => [0]
  | 3 => [2]
  | 5 => [1, 4]
  | 7 => [3, 6, 5]
  | _ => []

set_option maxRecDepth 20000 in
set_option maxHeartbeats 4000000 in
theorem asIts_ft (h : He.H) (hf : h.Fine) (w : World) (ho : He.opn h.k = false) (hp : He.prv h.k = true) :
    Calls Tryd.prog 22 #[.agg (heC h)] w fun e w' => e = .returned (.agg (heC h.had)) ∧ Below w.heap.size w w' := by
  obtain ⟨W0, hW0⟩ : ∃ W0, W0 = ((w.alloc (.cells (heC h) 27)).alloc (.cells Tryd.zeroCells27 27)).alloc (.cells (heC (heK h.k)) 27) := ⟨_, rfl⟩
  have b0 : Below w.heap.size w W0 := by rw [hW0]; exact (((Below.refl _ w).alloc (Nat.le_refl _) _).alloc (by simp) _).alloc (by simp; omega) _
  have r1 : Row W0 w.heap.size 27 (heC h) := by rw [hW0]; exact ((Row.new _ _ _).alloc _).alloc _
  have r2 : Row W0 (w.heap.size + 1) 27 Tryd.zeroCells27 := by rw [hW0]; exact (Row.new1 _ _ _ _).alloc _
  have r3 : Row W0 (w.heap.size + 1 + 1) 27 (heC (heK h.k)) := by rw [hW0]; exact Row.new2 _ _ _ _ _
  have RA0 := veil (show RA w w.heap.size h 0 W0 from ⟨r1, r2, r3, b0, Nat.le_refl _⟩)
  have HO := opens_any h.k W0
  have HP := proves_any h.k
  have hc0 : ((w.alloc (.cells (heC h) 27)).alloc (.cells Tryd.zeroCells27 27)).cell? ⟨w.heap.size, 0, none⟩ = some (.int .u8 (v8 h.k)) := ((Row.new w _ (heC h)).alloc _).cell 0
  have c0 : W0.cell? ⟨w.heap.size, 0, none⟩ = some (.int .u8 (v8 h.k)) := r1.cell 0
  have HF := veil hf
  have hz : (Tryd.zeroCells27).size = 69 := by kernel_rfl
  have hh : (heC h)[0]? = some (.int .u8 (v8 h.k)) := heC_0 h
  have hhad : h.had = ⟨h.k, He.zs, He.z4, h.pf⟩ := by
    unfold He.H.had
    rw [ho, hp]
    rfl
  rw [ho] at HO
  rw [hp] at HP
  rw [hhad]
  have HOV := veil HO
  have HPV := veil HP
  clear hf r1 r2 r3 b0 ho hp hhad HO HP
  refine (callsIn_wide (n := 4)).1 ?_
  refine callsIn_of_wp Tryd.func22 rfl trivial ?_ rfl
  simp only [Tryd.ntmps22, List.size_toArray, List.length_cons, List.length_nil, Nat.reduceAdd, Nat.reduceSub, Array.replicate_succ, Array.replicate_zero, List.push_toArray, List.append_toArray, List.nil_append, List.cons_append]
  gi_wp2_with (first
    | (with_reducible (show wpListIn _ _ _ _ _ (⟨_, Op.build 27 _, _, _, _, _⟩ :: _) _ _)
       refine build_rowIn rfl 27 _ rfl (heC (heK h.k)) (by kernel_rfl) ?_)
    | (with_reducible (show wpListIn _ _ _ _ _ (⟨_, Op.store 27 _ _, _, _, _, _⟩ :: _) _ _)
       refine store_newIn rfl 27 _ _ rfl (w.heap.size + 1 + 1) (heC (heK h.k)) rfl rfl _ _ (by simp) 69 (by kernel_rfl) (by kernel_rfl) (heC_size (heK_fine _)) (he_one _) ?_))
  rw [← hW0]
  clear hW0 hc0
  refine ⟨trivial, (callsIn_wide.2 HOV.out).mono ?_⟩
  rintro e1 w1 ⟨rfl, hw1⟩
  obtain rfl := hw1
  clear HOV
  gi_wp2_with fail
  have R2 := RA0
  clear RA0
  refine ⟨trivial, (callsIn_wide.2 (HPV.out w1)).mono ?_⟩
  rintro e2 w2 ⟨rfl, hw2⟩
  obtain rfl := hw2
  clear HPV
  have hr : Row w2 (w.heap.size + 1 + 1) 27 (heC (hAt h 0)) := R2.out.2.2.1
  have h2 := hr.setCells (vb h.pf) 37 (by rw [heC_size (hAt_fine h HF.out 0), vb_length, HF.out.p32]; omega)
  rw [heL_pf (hAt_fine h HF.out 0).n32 (hAt_fine h HF.out 0).p32 HF.out.p32] at h2
  have RP := veil (R2.out.1.rangeH 37 (vb h.pf) (heC_pf HF.out.n32))
  have TP := veil (hr.thereH 37 (vb h.pf).length (by rw [heC_size (hAt_fine h HF.out 0), vb_length, HF.out.p32]; omega))
  have R3 := veil h2
  have Z3 := veil (setCells_other R2.out.2.1 (w.heap.size + 1 + 1) 37 (vb h.pf) (by omega))
  have B3 := veil (setCells_below (w.heap.size + 1 + 1) (show w.heap.size ≤ _ by omega) (vb h.pf) 37 _ R2.out.2.2.2.1)
  have i32 : (Tryd.prog.info? 23).map (·.size) = some (vb h.pf).length := by rw [vb_length, HF.out.p32]; kernel_rfl
  have HI := veil i32
  clear hr h2 R2 c0 i32
  gi_wp2_with (first
    | (with_reducible (show wpListIn _ _ _ _ _ (⟨_, Op.load 23 _, _, _, _, _⟩ :: _) _ _)
       refine load_midIn rfl 23 _ rfl w.heap.size 37 rfl (vb h.pf) RP.out 32 5 Tryd.underlying23 (by kernel_rfl) (by rw [vb_length, HF.out.p32]) ?_)
    | (with_reducible (show wpListIn _ _ _ _ _ (⟨_, Op.store 23 _ _, _, _, _, _⟩ :: _) _ _)
       refine store_midIn rfl 23 _ _ rfl (w.heap.size + 1 + 1) 37 (vb h.pf) rfl rfl HI.out (vb_oneH _) TP.out ?_)
    | (with_reducible (show wpListIn _ _ _ _ _ (⟨_, Op.load 27 _, _, _, _, _⟩ :: _) _ _)
       refine load_strIn rfl 27 _ rfl (w.heap.size + 1 + 1) rfl _ _ R3.out 69 _ Tryd.underlying27 (by kernel_rfl) (heC_size ⟨(hAt_fine h HF.out 0).n32, HF.out.p32⟩) ?_)
    | (with_reducible (show wpListIn _ _ _ _ _ (⟨_, Op.store 27 _ _, _, _, _, _⟩ :: _) _ _)
       refine store_rowIn rfl 27 _ _ rfl (w.heap.size + 1) _ rfl rfl _ _ Z3.out 69 (by kernel_rfl) hz (heC_size ⟨(hAt_fine h HF.out 0).n32, HF.out.p32⟩) (he_one _) ?_))
  exact bodyPost_ret (result_str rfl _ _ (w.heap.size + 1) _ _ (Z3.out.put _) 69 _ rfl Tryd.underlying27 (by kernel_rfl) (heC_size ⟨(hAt_fine h HF.out 0).n32, HF.out.p32⟩)) rfl ⟨rfl, bSetRow B3.out (by omega) _⟩

set_option maxRecDepth 20000 in
set_option maxHeartbeats 4000000 in
theorem asIts_ff (h : He.H) (hf : h.Fine) (w : World) (ho : He.opn h.k = false) (hp : He.prv h.k = false) :
    Calls Tryd.prog 22 #[.agg (heC h)] w fun e w' => e = .returned (.agg (heC h.had)) ∧ Below w.heap.size w w' := by
  obtain ⟨W0, hW0⟩ : ∃ W0, W0 = ((w.alloc (.cells (heC h) 27)).alloc (.cells Tryd.zeroCells27 27)).alloc (.cells (heC (heK h.k)) 27) := ⟨_, rfl⟩
  have b0 : Below w.heap.size w W0 := by rw [hW0]; exact (((Below.refl _ w).alloc (Nat.le_refl _) _).alloc (by simp) _).alloc (by simp; omega) _
  have r1 : Row W0 w.heap.size 27 (heC h) := by rw [hW0]; exact ((Row.new _ _ _).alloc _).alloc _
  have r2 : Row W0 (w.heap.size + 1) 27 Tryd.zeroCells27 := by rw [hW0]; exact (Row.new1 _ _ _ _).alloc _
  have r3 : Row W0 (w.heap.size + 1 + 1) 27 (heC (heK h.k)) := by rw [hW0]; exact Row.new2 _ _ _ _ _
  have RA0 := veil (show RA w w.heap.size h 0 W0 from ⟨r1, r2, r3, b0, Nat.le_refl _⟩)
  have HO := opens_any h.k W0
  have HP := proves_any h.k
  have hc0 : ((w.alloc (.cells (heC h) 27)).alloc (.cells Tryd.zeroCells27 27)).cell? ⟨w.heap.size, 0, none⟩ = some (.int .u8 (v8 h.k)) := ((Row.new w _ (heC h)).alloc _).cell 0
  have c0 : W0.cell? ⟨w.heap.size, 0, none⟩ = some (.int .u8 (v8 h.k)) := r1.cell 0
  have HF := veil hf
  have hz : (Tryd.zeroCells27).size = 69 := by kernel_rfl
  have hh : (heC h)[0]? = some (.int .u8 (v8 h.k)) := heC_0 h
  have hhad : h.had = ⟨h.k, He.zs, He.z4, He.zs⟩ := by
    unfold He.H.had
    rw [ho, hp]
    rfl
  rw [ho] at HO
  rw [hp] at HP
  rw [hhad]
  have HOV := veil HO
  have HPV := veil HP
  clear hf r1 r2 r3 b0 ho hp hhad HO HP
  refine (callsIn_wide (n := 4)).1 ?_
  refine callsIn_of_wp Tryd.func22 rfl trivial ?_ rfl
  simp only [Tryd.ntmps22, List.size_toArray, List.length_cons, List.length_nil, Nat.reduceAdd, Nat.reduceSub, Array.replicate_succ, Array.replicate_zero, List.push_toArray, List.append_toArray, List.nil_append, List.cons_append]
  gi_wp2_with (first
    | (with_reducible (show wpListIn _ _ _ _ _ (⟨_, Op.build 27 _, _, _, _, _⟩ :: _) _ _)
       refine build_rowIn rfl 27 _ rfl (heC (heK h.k)) (by kernel_rfl) ?_)
    | (with_reducible (show wpListIn _ _ _ _ _ (⟨_, Op.store 27 _ _, _, _, _, _⟩ :: _) _ _)
       refine store_newIn rfl 27 _ _ rfl (w.heap.size + 1 + 1) (heC (heK h.k)) rfl rfl _ _ (by simp) 69 (by kernel_rfl) (by kernel_rfl) (heC_size (heK_fine _)) (he_one _) ?_))
  rw [← hW0]
  clear hW0 hc0
  refine ⟨trivial, (callsIn_wide.2 HOV.out).mono ?_⟩
  rintro e1 w1 ⟨rfl, hw1⟩
  obtain rfl := hw1
  clear HOV
  gi_wp2_with fail
  have R2 := RA0
  clear RA0
  refine ⟨trivial, (callsIn_wide.2 (HPV.out w1)).mono ?_⟩
  rintro e2 w2 ⟨rfl, hw2⟩
  obtain rfl := hw2
  clear HPV
  have R3 := veil (show Row w2 (w.heap.size + 1 + 1) 27 (heC (hAt h 0)) from R2.out.2.2.1)
  have Z3 := veil R2.out.2.1
  have B3 := veil R2.out.2.2.2.1
  clear R2 c0
  gi_wp2_with (first
    | (with_reducible (show wpListIn _ _ _ _ _ (⟨_, Op.load 27 _, _, _, _, _⟩ :: _) _ _)
       refine load_strIn rfl 27 _ rfl (w.heap.size + 1 + 1) rfl _ _ R3.out 69 _ Tryd.underlying27 (by kernel_rfl) (heC_size (hAt_fine h HF.out 0)) ?_)
    | (with_reducible (show wpListIn _ _ _ _ _ (⟨_, Op.store 27 _ _, _, _, _, _⟩ :: _) _ _)
       refine store_rowIn rfl 27 _ _ rfl (w.heap.size + 1) _ rfl rfl _ _ Z3.out 69 (by kernel_rfl) hz (heC_size (hAt_fine h HF.out 0)) (he_one _) ?_))
  exact bodyPost_ret (result_str rfl _ _ (w.heap.size + 1) _ _ (Z3.out.put _) 69 _ rfl Tryd.underlying27 (by kernel_rfl) (heC_size (hAt_fine h HF.out 0))) rfl ⟨rfl, bSetRow B3.out (by omega) _⟩

set_option maxRecDepth 20000 in
set_option maxHeartbeats 4000000 in
theorem asIts_tf (h : He.H) (hf : h.Fine) (w : World) (ho : He.opn h.k = true) (hp : He.prv h.k = false) :
    Calls Tryd.prog 22 #[.agg (heC h)] w fun e w' => e = .returned (.agg (heC h.had)) ∧ Below w.heap.size w w' := by
  obtain ⟨W0, hW0⟩ : ∃ W0, W0 = ((w.alloc (.cells (heC h) 27)).alloc (.cells Tryd.zeroCells27 27)).alloc (.cells (heC (heK h.k)) 27) := ⟨_, rfl⟩
  have b0 : Below w.heap.size w W0 := by rw [hW0]; exact (((Below.refl _ w).alloc (Nat.le_refl _) _).alloc (by simp) _).alloc (by simp; omega) _
  have r1 : Row W0 w.heap.size 27 (heC h) := by rw [hW0]; exact ((Row.new _ _ _).alloc _).alloc _
  have r2 : Row W0 (w.heap.size + 1) 27 Tryd.zeroCells27 := by rw [hW0]; exact (Row.new1 _ _ _ _).alloc _
  have r3 : Row W0 (w.heap.size + 1 + 1) 27 (heC (heK h.k)) := by rw [hW0]; exact Row.new2 _ _ _ _ _
  have RA0 := veil (show RA w w.heap.size h 0 W0 from ⟨r1, r2, r3, b0, Nat.le_refl _⟩)
  have HO := opens_any h.k W0
  have HP := proves_any h.k
  have hc0 : ((w.alloc (.cells (heC h) 27)).alloc (.cells Tryd.zeroCells27 27)).cell? ⟨w.heap.size, 0, none⟩ = some (.int .u8 (v8 h.k)) := ((Row.new w _ (heC h)).alloc _).cell 0
  have c0 : W0.cell? ⟨w.heap.size, 0, none⟩ = some (.int .u8 (v8 h.k)) := r1.cell 0
  have HF := veil hf
  have hz : (Tryd.zeroCells27).size = 69 := by kernel_rfl
  have hh : (heC h)[0]? = some (.int .u8 (v8 h.k)) := heC_0 h
  have hhad : h.had = ⟨h.k, h.nn, h.l, He.zs⟩ := by
    unfold He.H.had
    rw [ho, hp]
    rfl
  rw [ho] at HO
  rw [hp] at HP
  rw [hhad]
  have HOV := veil HO
  have HPV := veil HP
  clear hf r1 r2 r3 b0 ho hp hhad HO HP
  refine (callsIn_wide (n := 4)).1 ?_
  refine callsIn_of_wp Tryd.func22 rfl trivial ?_ rfl
  simp only [Tryd.ntmps22, List.size_toArray, List.length_cons, List.length_nil, Nat.reduceAdd, Nat.reduceSub, Array.replicate_succ, Array.replicate_zero, List.push_toArray, List.append_toArray, List.nil_append, List.cons_append]
  gi_wp2_with (first
    | (with_reducible (show wpListIn _ _ _ _ _ (⟨_, Op.build 27 _, _, _, _, _⟩ :: _) _ _)
       refine build_rowIn rfl 27 _ rfl (heC (heK h.k)) (by kernel_rfl) ?_)
    | (with_reducible (show wpListIn _ _ _ _ _ (⟨_, Op.store 27 _ _, _, _, _, _⟩ :: _) _ _)
       refine store_newIn rfl 27 _ _ rfl (w.heap.size + 1 + 1) (heC (heK h.k)) rfl rfl _ _ (by simp) 69 (by kernel_rfl) (by kernel_rfl) (heC_size (heK_fine _)) (he_one _) ?_))
  rw [← hW0]
  clear hW0 hc0
  refine ⟨trivial, (callsIn_wide.2 HOV.out).mono ?_⟩
  rintro e1 w1 ⟨rfl, hw1⟩
  obtain rfl := hw1
  clear HOV
  gi_wp2_with fail
  refine wpIn_region_any (by kernel_rfl) ?_
  refine anyIn_line (valA w.heap.size h) (RA w w.heap.size h) [5, 7] [10, 11, 12, 13, 14, 1000, 15, 1001] depA (by kernel_rfl) rfl (by decide) (by decide) ?ord ?chin ?start ?fix ?cal ?done
  case ord =>
    intro k i j h1 h2
    match k, h1, h2 with
    | 0, h1, h2 =>
      obtain rfl := Option.some.inj h1
      obtain rfl := Option.some.inj h2
      exact .inl (by decide)
    | _ + 1, _, h2 => simp at h2
  case chin => decide
  case start => exact ⟨RA0.out.1.drew, RA0.out.2.1.drew, RA0.out.2.2.1.drew, RA0.out.2.2.2.1.drew, RA0.out.2.2.2.2⟩
  case fix =>
    intro x W m i d hR hdi hni hdep
    match i, hdi, hni, hdep with
    | 0, hdi, _, _ =>
      obtain rfl := Option.some.inj hdi
      exact OI_value rfl rfl (about_none (by intro c h; cases h)) (by intro c h; cases h) (.pointer (some ⟨w.heap.size, 1, none⟩)) W (by kernel_rfl) ⟨rfl, rfl⟩
    | 1, hdi, _, hdep =>
      obtain rfl := Option.some.inj hdi
      rw [updV_self (show x 0 = _ from hdep 0 (by decide))]
      exact OI_value rfl rfl (about_none (by intro c h; cases h)) (by intro c h; cases h) (.agg (vb h.nn).toArray) W (run_midH 23 _ w.heap.size 1 (vb h.nn) _ rfl (by kernel_rfl) Tryd.underlying23 rfl (by rw [vb_length, HF.out.n32]; kernel_rfl) W (hR.1.rangeH 1 _ heC_nn)) ⟨rfl, rfl⟩
    | 2, hdi, _, _ =>
      obtain rfl := Option.some.inj hdi
      exact OI_value rfl rfl (about_none (by intro c h; cases h)) (by intro c h; cases h) (.pointer (some ⟨w.heap.size, 33, none⟩)) W (by kernel_rfl) ⟨rfl, rfl⟩
    | 3, hdi, _, hdep =>
      obtain rfl := Option.some.inj hdi
      rw [updV_self (show x 2 = _ from hdep 2 (by decide))]
      exact OI_value rfl rfl (about_none (by intro c h; cases h)) (by intro c h; cases h) (.agg (qv h.l).toArray) W (run_midH 25 _ w.heap.size 33 (qv h.l) _ rfl (by kernel_rfl) Tryd.underlying25 rfl (by kernel_rfl) W (hR.1.rangeH 33 _ (heC_l HF.out.n32))) ⟨rfl, rfl⟩
    | 4, hdi, _, _ =>
      obtain rfl := Option.some.inj hdi
      exact OI_value rfl rfl (about_none (by intro c h; cases h)) (by intro c h; cases h) (.pointer (some ⟨w.heap.size + 1 + 1, 1, none⟩)) W (by kernel_rfl) ⟨rfl, rfl⟩
    | 5, _, hni, _ => exact absurd (by decide) hni
    | 6, hdi, _, _ =>
      obtain rfl := Option.some.inj hdi
      exact OI_value rfl rfl (about_none (by intro c h; cases h)) (by intro c h; cases h) (.pointer (some ⟨w.heap.size + 1 + 1, 33, none⟩)) W (by kernel_rfl) ⟨rfl, rfl⟩
    | 7, _, hni, _ => exact absurd (by decide) hni
    | _ + 8, hdi, _, _ => simp at hdi
  case cal =>
    intro x W k i d hR hki hdi hdep
    match k, hki with
    | 0, hki =>
      obtain rfl := Option.some.inj hki
      obtain rfl := Option.some.inj hdi
      rw [updV_self (show x 1 = _ from hdep 1 (by decide))]
      rw [updV_self (show updV x 1 _ 4 = _ from hdep 4 (by decide))]
      have hr := hR.2.2.1
      have h2 := hr.setCells (vb h.nn) 1 (by rw [heC_size (hAt_fine h HF.out 0), vb_length, HF.out.n32]; omega)
      rw [heL_nn rfl HF.out.n32] at h2
      refine OI_skip rfl rfl (about_none (by intro c h; cases h)) (by intro c h; cases h) (W.setCells (w.heap.size + 1 + 1) 1 (vb h.nn)) (run_smidH 23 _ _ (w.heap.size + 1 + 1) 1 (vb h.nn) rfl (by kernel_rfl) (by kernel_rfl) (by rw [vb_length, HF.out.n32]; kernel_rfl) (vb_oneH _) W (hr.thereH 1 _ (by rw [heC_size (hAt_fine h HF.out 0), vb_length, HF.out.n32]; omega))) ?_
      exact ⟨by kernel_rfl, setCells_other hR.1 _ _ _ (by omega), setCells_other hR.2.1 _ _ _ (by omega), h2, setCells_below _ (by omega) _ _ _ hR.2.2.2.1, hR.2.2.2.2⟩
    | 1, hki =>
      obtain rfl := Option.some.inj hki
      obtain rfl := Option.some.inj hdi
      rw [updV_self (show x 3 = _ from hdep 3 (by decide))]
      rw [updV_self (show updV x 3 _ 6 = _ from hdep 6 (by decide))]
      have hr := hR.2.2.1
      have h2 := hr.setCells (qv h.l) 33 (by rw [heC_size (hAt_fine h HF.out 1)]; show 33 + 4 ≤ 69; decide)
      rw [heL_l (show (hAt h (0 + 1)).nn.length = 32 from HF.out.n32)] at h2
      refine OI_skip rfl rfl (about_none (by intro c h; cases h)) (by intro c h; cases h) (W.setCells (w.heap.size + 1 + 1) 33 (qv h.l)) (run_smidH 25 _ _ (w.heap.size + 1 + 1) 33 (qv h.l) rfl (by kernel_rfl) (by kernel_rfl) (by kernel_rfl) (qv_oneH _) W (hr.thereH 33 _ (by rw [heC_size (hAt_fine h HF.out 1)]; show 33 + 4 ≤ 69; decide))) ?_
      exact ⟨by kernel_rfl, setCells_other hR.1 _ _ _ (by omega), setCells_other hR.2.1 _ _ _ (by omega), h2, setCells_below _ (by omega) _ _ _ hR.2.2.2.1, hR.2.2.2.2⟩
    | _ + 2, hki => simp at hki
  case done =>
  intro W2 hR
  have R2 := veil hR
  have c0 : W2.cell? ⟨w.heap.size, 0, none⟩ = some (.int .u8 (v8 h.k)) := hR.1.cell 0
  clear hR RA0
  simp only [putsV, Act.put, List.setIfInBounds_toArray, List.set_cons_succ, List.set_cons_zero, List.set_nil, Nat.reduceAdd, valA]
  gi_wp2_with fail
  refine ⟨trivial, (callsIn_wide.2 (HPV.out W2)).mono ?_⟩
  rintro e2 w2 ⟨rfl, hw2⟩
  obtain rfl := hw2
  clear HPV
  have R3 := veil (show Row w2 (w.heap.size + 1 + 1) 27 (heC (hAt h 2)) from R2.out.2.2.1)
  have Z3 := veil R2.out.2.1
  have B3 := veil R2.out.2.2.2.1
  clear R2 c0
  gi_wp2_with (first
    | (with_reducible (show wpListIn _ _ _ _ _ (⟨_, Op.load 27 _, _, _, _, _⟩ :: _) _ _)
       refine load_strIn rfl 27 _ rfl (w.heap.size + 1 + 1) rfl _ _ R3.out 69 _ Tryd.underlying27 (by kernel_rfl) (heC_size (hAt_fine h HF.out 2)) ?_)
    | (with_reducible (show wpListIn _ _ _ _ _ (⟨_, Op.store 27 _ _, _, _, _, _⟩ :: _) _ _)
       refine store_rowIn rfl 27 _ _ rfl (w.heap.size + 1) _ rfl rfl _ _ Z3.out 69 (by kernel_rfl) hz (heC_size (hAt_fine h HF.out 2)) (he_one _) ?_))
  exact bodyPost_ret (result_str rfl _ _ (w.heap.size + 1) _ _ (Z3.out.put _) 69 _ rfl Tryd.underlying27 (by kernel_rfl) (heC_size (hAt_fine h HF.out 2))) rfl ⟨rfl, bSetRow B3.out (by omega) _⟩

set_option maxRecDepth 20000 in
set_option maxHeartbeats 4000000 in
theorem asIts_tt (h : He.H) (hf : h.Fine) (w : World) (ho : He.opn h.k = true) (hp : He.prv h.k = true) :
    Calls Tryd.prog 22 #[.agg (heC h)] w fun e w' => e = .returned (.agg (heC h.had)) ∧ Below w.heap.size w w' := by
  obtain ⟨W0, hW0⟩ : ∃ W0, W0 = ((w.alloc (.cells (heC h) 27)).alloc (.cells Tryd.zeroCells27 27)).alloc (.cells (heC (heK h.k)) 27) := ⟨_, rfl⟩
  have b0 : Below w.heap.size w W0 := by rw [hW0]; exact (((Below.refl _ w).alloc (Nat.le_refl _) _).alloc (by simp) _).alloc (by simp; omega) _
  have r1 : Row W0 w.heap.size 27 (heC h) := by rw [hW0]; exact ((Row.new _ _ _).alloc _).alloc _
  have r2 : Row W0 (w.heap.size + 1) 27 Tryd.zeroCells27 := by rw [hW0]; exact (Row.new1 _ _ _ _).alloc _
  have r3 : Row W0 (w.heap.size + 1 + 1) 27 (heC (heK h.k)) := by rw [hW0]; exact Row.new2 _ _ _ _ _
  have RA0 := veil (show RA w w.heap.size h 0 W0 from ⟨r1, r2, r3, b0, Nat.le_refl _⟩)
  have HO := opens_any h.k W0
  have HP := proves_any h.k
  have hc0 : ((w.alloc (.cells (heC h) 27)).alloc (.cells Tryd.zeroCells27 27)).cell? ⟨w.heap.size, 0, none⟩ = some (.int .u8 (v8 h.k)) := ((Row.new w _ (heC h)).alloc _).cell 0
  have c0 : W0.cell? ⟨w.heap.size, 0, none⟩ = some (.int .u8 (v8 h.k)) := r1.cell 0
  have HF := veil hf
  have hz : (Tryd.zeroCells27).size = 69 := by kernel_rfl
  have hh : (heC h)[0]? = some (.int .u8 (v8 h.k)) := heC_0 h
  have hhad : h.had = ⟨h.k, h.nn, h.l, h.pf⟩ := by
    unfold He.H.had
    rw [ho, hp]
    rfl
  rw [ho] at HO
  rw [hp] at HP
  rw [hhad]
  have HOV := veil HO
  have HPV := veil HP
  clear hf r1 r2 r3 b0 ho hp hhad HO HP
  refine (callsIn_wide (n := 4)).1 ?_
  refine callsIn_of_wp Tryd.func22 rfl trivial ?_ rfl
  simp only [Tryd.ntmps22, List.size_toArray, List.length_cons, List.length_nil, Nat.reduceAdd, Nat.reduceSub, Array.replicate_succ, Array.replicate_zero, List.push_toArray, List.append_toArray, List.nil_append, List.cons_append]
  gi_wp2_with (first
    | (with_reducible (show wpListIn _ _ _ _ _ (⟨_, Op.build 27 _, _, _, _, _⟩ :: _) _ _)
       refine build_rowIn rfl 27 _ rfl (heC (heK h.k)) (by kernel_rfl) ?_)
    | (with_reducible (show wpListIn _ _ _ _ _ (⟨_, Op.store 27 _ _, _, _, _, _⟩ :: _) _ _)
       refine store_newIn rfl 27 _ _ rfl (w.heap.size + 1 + 1) (heC (heK h.k)) rfl rfl _ _ (by simp) 69 (by kernel_rfl) (by kernel_rfl) (heC_size (heK_fine _)) (he_one _) ?_))
  rw [← hW0]
  clear hW0 hc0
  refine ⟨trivial, (callsIn_wide.2 HOV.out).mono ?_⟩
  rintro e1 w1 ⟨rfl, hw1⟩
  obtain rfl := hw1
  clear HOV
  gi_wp2_with fail
  refine wpIn_region_any (by kernel_rfl) ?_
  refine anyIn_line (valA w.heap.size h) (RA w w.heap.size h) [5, 7] [10, 11, 12, 13, 14, 1000, 15, 1001] depA (by kernel_rfl) rfl (by decide) (by decide) ?ord ?chin ?start ?fix ?cal ?done
  case ord =>
    intro k i j h1 h2
    match k, h1, h2 with
    | 0, h1, h2 =>
      obtain rfl := Option.some.inj h1
      obtain rfl := Option.some.inj h2
      exact .inl (by decide)
    | _ + 1, _, h2 => simp at h2
  case chin => decide
  case start => exact ⟨RA0.out.1.drew, RA0.out.2.1.drew, RA0.out.2.2.1.drew, RA0.out.2.2.2.1.drew, RA0.out.2.2.2.2⟩
  case fix =>
    intro x W m i d hR hdi hni hdep
    match i, hdi, hni, hdep with
    | 0, hdi, _, _ =>
      obtain rfl := Option.some.inj hdi
      exact OI_value rfl rfl (about_none (by intro c h; cases h)) (by intro c h; cases h) (.pointer (some ⟨w.heap.size, 1, none⟩)) W (by kernel_rfl) ⟨rfl, rfl⟩
    | 1, hdi, _, hdep =>
      obtain rfl := Option.some.inj hdi
      rw [updV_self (show x 0 = _ from hdep 0 (by decide))]
      exact OI_value rfl rfl (about_none (by intro c h; cases h)) (by intro c h; cases h) (.agg (vb h.nn).toArray) W (run_midH 23 _ w.heap.size 1 (vb h.nn) _ rfl (by kernel_rfl) Tryd.underlying23 rfl (by rw [vb_length, HF.out.n32]; kernel_rfl) W (hR.1.rangeH 1 _ heC_nn)) ⟨rfl, rfl⟩
    | 2, hdi, _, _ =>
      obtain rfl := Option.some.inj hdi
      exact OI_value rfl rfl (about_none (by intro c h; cases h)) (by intro c h; cases h) (.pointer (some ⟨w.heap.size, 33, none⟩)) W (by kernel_rfl) ⟨rfl, rfl⟩
    | 3, hdi, _, hdep =>
      obtain rfl := Option.some.inj hdi
      rw [updV_self (show x 2 = _ from hdep 2 (by decide))]
      exact OI_value rfl rfl (about_none (by intro c h; cases h)) (by intro c h; cases h) (.agg (qv h.l).toArray) W (run_midH 25 _ w.heap.size 33 (qv h.l) _ rfl (by kernel_rfl) Tryd.underlying25 rfl (by kernel_rfl) W (hR.1.rangeH 33 _ (heC_l HF.out.n32))) ⟨rfl, rfl⟩
    | 4, hdi, _, _ =>
      obtain rfl := Option.some.inj hdi
      exact OI_value rfl rfl (about_none (by intro c h; cases h)) (by intro c h; cases h) (.pointer (some ⟨w.heap.size + 1 + 1, 1, none⟩)) W (by kernel_rfl) ⟨rfl, rfl⟩
    | 5, _, hni, _ => exact absurd (by decide) hni
    | 6, hdi, _, _ =>
      obtain rfl := Option.some.inj hdi
      exact OI_value rfl rfl (about_none (by intro c h; cases h)) (by intro c h; cases h) (.pointer (some ⟨w.heap.size + 1 + 1, 33, none⟩)) W (by kernel_rfl) ⟨rfl, rfl⟩
    | 7, _, hni, _ => exact absurd (by decide) hni
    | _ + 8, hdi, _, _ => simp at hdi
  case cal =>
    intro x W k i d hR hki hdi hdep
    match k, hki with
    | 0, hki =>
      obtain rfl := Option.some.inj hki
      obtain rfl := Option.some.inj hdi
      rw [updV_self (show x 1 = _ from hdep 1 (by decide))]
      rw [updV_self (show updV x 1 _ 4 = _ from hdep 4 (by decide))]
      have hr := hR.2.2.1
      have h2 := hr.setCells (vb h.nn) 1 (by rw [heC_size (hAt_fine h HF.out 0), vb_length, HF.out.n32]; omega)
      rw [heL_nn rfl HF.out.n32] at h2
      refine OI_skip rfl rfl (about_none (by intro c h; cases h)) (by intro c h; cases h) (W.setCells (w.heap.size + 1 + 1) 1 (vb h.nn)) (run_smidH 23 _ _ (w.heap.size + 1 + 1) 1 (vb h.nn) rfl (by kernel_rfl) (by kernel_rfl) (by rw [vb_length, HF.out.n32]; kernel_rfl) (vb_oneH _) W (hr.thereH 1 _ (by rw [heC_size (hAt_fine h HF.out 0), vb_length, HF.out.n32]; omega))) ?_
      exact ⟨by kernel_rfl, setCells_other hR.1 _ _ _ (by omega), setCells_other hR.2.1 _ _ _ (by omega), h2, setCells_below _ (by omega) _ _ _ hR.2.2.2.1, hR.2.2.2.2⟩
    | 1, hki =>
      obtain rfl := Option.some.inj hki
      obtain rfl := Option.some.inj hdi
      rw [updV_self (show x 3 = _ from hdep 3 (by decide))]
      rw [updV_self (show updV x 3 _ 6 = _ from hdep 6 (by decide))]
      have hr := hR.2.2.1
      have h2 := hr.setCells (qv h.l) 33 (by rw [heC_size (hAt_fine h HF.out 1)]; show 33 + 4 ≤ 69; decide)
      rw [heL_l (show (hAt h (0 + 1)).nn.length = 32 from HF.out.n32)] at h2
      refine OI_skip rfl rfl (about_none (by intro c h; cases h)) (by intro c h; cases h) (W.setCells (w.heap.size + 1 + 1) 33 (qv h.l)) (run_smidH 25 _ _ (w.heap.size + 1 + 1) 33 (qv h.l) rfl (by kernel_rfl) (by kernel_rfl) (by kernel_rfl) (qv_oneH _) W (hr.thereH 33 _ (by rw [heC_size (hAt_fine h HF.out 1)]; show 33 + 4 ≤ 69; decide))) ?_
      exact ⟨by kernel_rfl, setCells_other hR.1 _ _ _ (by omega), setCells_other hR.2.1 _ _ _ (by omega), h2, setCells_below _ (by omega) _ _ _ hR.2.2.2.1, hR.2.2.2.2⟩
    | _ + 2, hki => simp at hki
  case done =>
  intro W2 hR
  have R2 := veil hR
  have c0 : W2.cell? ⟨w.heap.size, 0, none⟩ = some (.int .u8 (v8 h.k)) := hR.1.cell 0
  clear hR RA0
  simp only [putsV, Act.put, List.setIfInBounds_toArray, List.set_cons_succ, List.set_cons_zero, List.set_nil, Nat.reduceAdd, valA]
  gi_wp2_with fail
  refine ⟨trivial, (callsIn_wide.2 (HPV.out W2)).mono ?_⟩
  rintro e2 w2 ⟨rfl, hw2⟩
  obtain rfl := hw2
  clear HPV
  have hr : Row w2 (w.heap.size + 1 + 1) 27 (heC (hAt h 2)) := R2.out.2.2.1
  have h2 := hr.setCells (vb h.pf) 37 (by rw [heC_size (hAt_fine h HF.out 2), vb_length, HF.out.p32]; omega)
  rw [heL_pf (hAt_fine h HF.out 2).n32 (hAt_fine h HF.out 2).p32 HF.out.p32] at h2
  have RP := veil (R2.out.1.rangeH 37 (vb h.pf) (heC_pf HF.out.n32))
  have TP := veil (hr.thereH 37 (vb h.pf).length (by rw [heC_size (hAt_fine h HF.out 2), vb_length, HF.out.p32]; omega))
  have R3 := veil h2
  have Z3 := veil (setCells_other R2.out.2.1 (w.heap.size + 1 + 1) 37 (vb h.pf) (by omega))
  have B3 := veil (setCells_below (w.heap.size + 1 + 1) (show w.heap.size ≤ _ by omega) (vb h.pf) 37 _ R2.out.2.2.2.1)
  have i32 : (Tryd.prog.info? 23).map (·.size) = some (vb h.pf).length := by rw [vb_length, HF.out.p32]; kernel_rfl
  have HI := veil i32
  clear hr h2 R2 c0 i32
  gi_wp2_with (first
    | (with_reducible (show wpListIn _ _ _ _ _ (⟨_, Op.load 23 _, _, _, _, _⟩ :: _) _ _)
       refine load_midIn rfl 23 _ rfl w.heap.size 37 rfl (vb h.pf) RP.out 32 5 Tryd.underlying23 (by kernel_rfl) (by rw [vb_length, HF.out.p32]) ?_)
    | (with_reducible (show wpListIn _ _ _ _ _ (⟨_, Op.store 23 _ _, _, _, _, _⟩ :: _) _ _)
       refine store_midIn rfl 23 _ _ rfl (w.heap.size + 1 + 1) 37 (vb h.pf) rfl rfl HI.out (vb_oneH _) TP.out ?_)
    | (with_reducible (show wpListIn _ _ _ _ _ (⟨_, Op.load 27 _, _, _, _, _⟩ :: _) _ _)
       refine load_strIn rfl 27 _ rfl (w.heap.size + 1 + 1) rfl _ _ R3.out 69 _ Tryd.underlying27 (by kernel_rfl) (heC_size ⟨(hAt_fine h HF.out 2).n32, HF.out.p32⟩) ?_)
    | (with_reducible (show wpListIn _ _ _ _ _ (⟨_, Op.store 27 _ _, _, _, _, _⟩ :: _) _ _)
       refine store_rowIn rfl 27 _ _ rfl (w.heap.size + 1) _ rfl rfl _ _ Z3.out 69 (by kernel_rfl) hz (heC_size ⟨(hAt_fine h HF.out 2).n32, HF.out.p32⟩) (he_one _) ?_))
  exact bodyPost_ret (result_str rfl _ _ (w.heap.size + 1) _ _ (Z3.out.put _) 69 _ rfl Tryd.underlying27 (by kernel_rfl) (heC_size ⟨(hAt_fine h HF.out 2).n32, HF.out.p32⟩)) rfl ⟨rfl, bSetRow B3.out (by omega) _⟩

theorem asIts_any (h : He.H) (hf : h.Fine) (w : World) :
    Calls Tryd.prog 22 #[.agg (heC h)] w fun e w' => e = .returned (.agg (heC h.had)) ∧ Below w.heap.size w w' := by
  cases ho : He.opn h.k <;> cases hp : He.prv h.k
  · exact asIts_ff h hf w ho hp
  · exact asIts_ft h hf w ho hp
  · exact asIts_tf h hf w ho hp
  · exact asIts_tt h hf w ho hp
end Go.Proofs.YtjccjlhnjihfjaaDoor
