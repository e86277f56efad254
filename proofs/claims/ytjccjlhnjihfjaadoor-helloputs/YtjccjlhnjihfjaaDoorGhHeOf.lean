/-
  A greeting as the document's.
-/
import Derived.Test.YtjccjlhnjihfjaaDoorGhHeLives
namespace Go.Proofs.YtjccjlhnjihfjaaDoor
open Go Go.RowKit

theorem ex32 {l : List By} (h : l.length = 32) : ∃ f : Fin 32 → By, l = List.ofFn f := by
  refine ⟨fun i => l[i.1]'(by omega), ?_⟩
  apply List.ext_getElem (by rw [List.length_ofFn, h])
  intro i h1 h2
  rw [List.getElem_ofFn]
set_option maxRecDepth 100000 in
theorem built_of {h : He.H} (hf : h.Fine) : Tryd.prog.built 34 [(0, .int .u8 (v8 h.k)), (1, .agg (vb h.nn).toArray), (2, .agg (qv h.l).toArray), (3, .agg (vb h.pf).toArray)] = some (heC h) := by
  obtain ⟨k, nn, l, pf⟩ := h
  obtain ⟨f, rfl⟩ := ex32 hf.n32
  obtain ⟨g, rfl⟩ := ex32 hf.p32
  kernel_rfl

set_option maxRecDepth 20000 in
set_option maxHeartbeats 2000000 in
theorem of_anyH (h : He.H) (hf : h.Fine) (w : World) :
    Calls Tryd.prog 10 #[.agg (heC h)] w fun e w' => e = .returned (.agg (heC h)) ∧ Below w.heap.size w w' := by
  obtain ⟨W0, hW0⟩ : ∃ W0, W0 = (w.alloc (.cells (heC h) 27)).alloc (.cells Tryd.zeroCells34 34) := ⟨_, rfl⟩
  have b0 : Below w.heap.size w W0 := by rw [hW0]; exact ((Below.refl _ w).alloc (Nat.le_refl _) _).alloc (by simp) _
  have r1 : Row W0 w.heap.size 27 (heC h) := by rw [hW0]; exact (Row.new _ _ _).alloc _
  have r2 : Row W0 (w.heap.size + 1) 34 Tryd.zeroCells34 := by rw [hW0]; exact Row.new1 _ _ _ _
  have c0 : ((w.alloc (.cells (heC h) 27)).alloc (.cells Tryd.zeroCells34 34)).cell? ⟨w.heap.size, 0, none⟩ = some (.int .u8 (v8 h.k)) := by rw [← hW0]; exact r1.cell 0
  have hh : (heC h)[0]? = some (.int .u8 (v8 h.k)) := rfl
  have RN := veil (r1.rangeH 1 (vb h.nn) heC_nn)
  have RL := veil (r1.rangeH 33 (qv h.l) (heC_l hf.n32))
  have RP := veil (r1.rangeH 37 (vb h.pf) (heC_pf hf.n32))
  have HF := veil hf
  have B0 := veil b0
  have R2 := veil r2
  have hz : (Tryd.zeroCells34).size = 69 := by kernel_rfl
  have HI := veil (show (Tryd.prog.info? 23).map (·.size) = some (vb h.nn).length by rw [vb_length, hf.n32]; kernel_rfl)
  have HJ := veil (show (Tryd.prog.info? 23).map (·.size) = some (vb h.pf).length by rw [vb_length, hf.p32]; kernel_rfl)
  rw [hW0] at RN RL RP R2 B0
  clear hf b0 r1 r2 hW0
  go_enter Tryd.func10, Tryd.ntmps10
  go_wp2_with (first
    | (with_reducible (show wpList _ _ _ (⟨some 6, Op.load 23 _, _, _, _, _⟩ :: _) _ _)
       refine wpList_load_mid rfl 23 _ rfl w.heap.size 1 rfl (vb h.nn) _ RN.out Tryd.underlying23 rfl HI.out ?_)
    | (with_reducible (show wpList _ _ _ (⟨some 8, Op.load 25 _, _, _, _, _⟩ :: _) _ _)
       refine wpList_load_mid rfl 25 _ rfl w.heap.size 33 rfl (qv h.l) _ RL.out Tryd.underlying25 rfl (by kernel_rfl) ?_)
    | (with_reducible (show wpList _ _ _ (⟨some 10, Op.load 23 _, _, _, _, _⟩ :: _) _ _)
       refine wpList_load_mid rfl 23 _ rfl w.heap.size 37 rfl (vb h.pf) _ RP.out Tryd.underlying23 rfl HJ.out ?_)
    | (with_reducible (show wpList _ _ _ (⟨some 11, Op.build _ _, _, _, _, _⟩ :: _) _ _)
       refine build_row rfl 34 _ rfl (heC h) (Eq.trans (by kernel_rfl) (built_of HF.out)) ?_)
    | (with_reducible (show wpList _ _ _ (⟨_, Op.store 34 (.tmp 2) _, _, _, _, _⟩ :: _) _ _)
       refine store_row rfl 34 _ _ rfl (w.heap.size + 1) (heC h) rfl rfl _ _ R2.out 69 (by kernel_rfl) hz (heC_size HF.out) (he_one _) ?_))
  exact bodyPost_ret (result_str rfl _ _ (w.heap.size + 1) _ _ (R2.out.put _) 69 _ rfl Tryd.underlying34 (by kernel_rfl) (heC_size HF.out)) rfl ⟨rfl, bSetRow B0.out (by omega) _⟩
end Go.Proofs.YtjccjlhnjihfjaaDoor
