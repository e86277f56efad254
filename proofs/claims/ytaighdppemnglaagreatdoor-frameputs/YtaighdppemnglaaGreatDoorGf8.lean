/-
  Out of FrAckN, FrAhead, FrMayB.
-/
import Derived.Test.YtaighdppemnglaaGreatDoorGf2
import Derived.Test.YtaighdppemnglaaGreatDoorGf7

/-! frame.ackNumbers: the numbers of an answer. -/
namespace Go.Proofs.YtaighdppemnglaaGreatDoor
open Go Go.RowKit

/-- The numbers of ranges, from the last one back, m of them behind the last. -/
def ackUN (R : List (Nat × Nat)) : Nat → List Nat
  | 0 => []
  | m + 1 => ackUN R m ++ [(gr R m).1 - (gr R (m + 1)).2 - 2, (gr R (m + 1)).2 - (gr R (m + 1)).1]
theorem ackUN_L (R : List (Nat × Nat)) : ∀ m, numsL (ackUN R m) = ackU R m
  | 0 => rfl
  | m + 1 => by
    rw [ackUN, numsL_append, ackUN_L R m, ackU]
    simp only [numsL, List.append_nil, List.append_assoc]
theorem ackUN_len (R : List (Nat × Nat)) : ∀ m, (ackUN R m).length = 2 * m
  | 0 => rfl
  | m + 1 => by rw [ackUN, List.length_append, ackUN_len R m]; simp only [List.length_cons, List.length_nil]; omega
def ackNs (lim : Nat) (l : List (Nat × Nat)) (n m : Nat) : List Nat := [2, (gr l (n - 1)).2, lim, n - 1, (gr l (n - 1)).2 - (gr l (n - 1)).1] ++ ackUN l.reverse m
theorem ackNs_L (lim : Nat) (l : List (Nat × Nat)) (n m : Nat) : numsL (ackNs lim l n m) = Fr.numL 2 ++ ackAll lim l n m := by
  unfold ackNs ackAll
  rw [numsL_append, ackUN_L]
  simp only [numsL, List.append_nil, List.append_assoc]
theorem ackNs_len (lim : Nat) (l : List (Nat × Nat)) (n m : Nat) : (ackNs lim l n m).length = 5 + 2 * m := by
  unfold ackNs
  rw [List.length_append, ackUN_len]
  rfl
theorem ackNs_succ (lim : Nat) (l : List (Nat × Nat)) (m j : Nat) (h : j + 2 + m = l.length) : ackNs lim l l.length (m + 1) = ackNs lim l l.length m ++ [(gr l (j + 1)).1 - (gr l j).2 - 2, (gr l j).2 - (gr l j).1] := by
  have e1 := gr_reverse l m (by omega)
  have e2 := gr_reverse l (m + 1) (by omega)
  rw [show l.length - 1 - m = j + 1 by omega] at e1
  rw [show l.length - 1 - (m + 1) = j by omega] at e2
  unfold ackNs
  rw [ackUN, e1, e2, List.append_assoc]
theorem gr_small {l : List (Nat × Nat)} {M : Nat} (h : ∀ j, j < l.length → (gr l j).2 ≤ M) (j : Nat) : (gr l j).2 ≤ M := by
  by_cases hj : j < l.length
  · exact h j hj
  · unfold gr
    rw [List.getElem?_eq_none (by omega)]
    exact Nat.zero_le _
theorem ackUN_le (R : List (Nat × Nat)) (M : Nat) (h : ∀ j, (gr R j).1 ≤ M ∧ (gr R j).2 ≤ M) : ∀ m, ∀ x ∈ ackUN R m, x ≤ M
  | 0, x, hx => by cases hx
  | m + 1, x, hx => by
    rw [ackUN, List.mem_append] at hx
    rcases hx with hx | hx
    · exact ackUN_le R M h m x hx
    · simp only [List.mem_cons, List.not_mem_nil, or_false] at hx
      have h1 := h m
      have h2 := h (m + 1)
      omega

theorem vu_one (L : List Nat) : ∀ u ∈ vu L, u.oneCell' = true := by
  intro u hu
  obtain ⟨n, _, rfl⟩ := List.mem_map.1 hu
  rfl
theorem vu_lit (W : World) (L : List Nat) : ∀ j u, (vu L)[j]? = some u → (W.alloc (.cells (vu L).toArray 34)).cell? ((⟨W.heap.size, 0, none⟩ : Addr).add j) = some u := by
  intro j u hj
  have r : Row (W.alloc (.cells (vu L).toArray 34)) W.heap.size 34 (vu L).toArray := Row.new _ _ _
  rw [add_at, Nat.zero_add, r.cell j, List.getElem?_toArray]
  exact hj
theorem vu_append (a b : List Nat) : vu (a ++ b) = vu a ++ vu b := List.map_append
def depAN : Nat → List Nat
  | 1 => [0]
  | 3 => [1, 2]
  | 4 => [3]
  | 6 => [5]
  | 8 => [7]
  | 9 => [6, 8]
  | 10 => [9]
  | 13 => [11, 4]
  | 14 => [12, 10]
  | _ => []
def rgC (r : Nat × Nat) : Array Value := #[.int .u64 (r.1 : Int), .int .u64 (r.2 : Int)]
def valAN (F : Nat) (s : RL) (i : Nat) : Nat → Value
  | 0 => .pointer (some ⟨F, 7, none⟩)
  | 1 => .slice s.a s.len s.cap
  | 2 => .int .i64 (i : Int)
  | 3 => .pointer (some ⟨s.g, s.off + i * 2, none⟩)
  | 4 => .agg (rgC (gr s.l i))
  | 5 => .pointer (some ⟨F, 7, none⟩)
  | 6 => .slice s.a s.len s.cap
  | 7 => .int .i64 (i : Int)
  | 8 => .int .i64 ((i + 1 : Nat) : Int)
  | 9 => .pointer (some ⟨s.g, s.off + (i + 1) * 2, none⟩)
  | 10 => .agg (rgC (gr s.l (i + 1)))
  | _ => undef
theorem rg_range {W : World} {s : RL} (h : s.Ok W) (j : Nat) (hj : j < s.len) : W.rangeAt s.g (s.off + j * 2) (rgC (gr s.l j)).toList := by
  obtain ⟨h1, h2⟩ := h.cell j hj
  intro q v hv
  match q, hv with
  | 0, hv => rw [← Option.some.inj hv]; exact h1
  | 1, hv => rw [← Option.some.inj hv]; exact h2
  | _ + 2, hv => simp [rgC] at hv
theorem run_allocR {P : Program} {a : Act} {o : Oper} (t : TypeId) (cs : Array Value) (ho : o.op = .alloc t) (hz : (P.info? t).map (·.zero) = some (some (.agg cs))) (w : World) : (execOp a.eval o).run P w = .ok (.value (ptrV w.heap.size)) (w.alloc (.cells cs t)) := by
  have hzv : (zeroValue t).run P w = .ok (.agg cs) w := by
    cases hq : P.info? t with
    | none => simp [hq] at hz
    | some i =>
      have : i.zero = some (.agg cs) := by simpa [hq] using hz
      simp [zeroValue, typeInfo, hq, this]
  unfold execOp ptrV
  simp only [ho, Instr.alloc, Sem.run_bind, hzv, Result.andThen_ok, newVar, newRow, Value.cells, run_newObj_alloc, Sem.run_pure]
theorem run_oneNF {P : Program} {a : Act} {o : Oper} (t t' : TypeId) (x y : Operand) (m : Nat) (hm : m < 140737488355328) (ho : o.op = .binOp .add t x y t') (hx : a.eval x = .int .i64 (m : Int)) (hy : a.eval y = .int .i64 1) (W : World) :
    (execOp a.eval o).run P W = .ok (.value (.int .i64 ((m + 1 : Nat) : Int))) W := by
  have hw : IntKind.i64.wrap ((m : Int) + 1) = ((m + 1 : Nat) : Int) := by rw [IntKind.wrap_i64]; omega
  unfold execOp
  simp only [ho, hx, hy]
  go_simp

set_option maxRecDepth 20000 in
set_option maxHeartbeats 400000 in
theorem fr_ackN (f : FrM) (w : World) (hf : f.Ok w) (hok : ackOk f.ranges.l) (hli : f.limit ≤ 4611686018427387903) :
    Calls Tryz.prog 78 #[.agg f.cells] w fun e w' => ∃ v, e = .returned v ∧ w'.ownsRow w.heap.size 34 1 v (5 + 2 * (f.ranges.len - 1)) (vu (ackNs f.limit f.ranges.l f.ranges.len (f.ranges.len - 1))) ∧ Below w.heap.size w w' := by
  obtain ⟨i0, hi, hz0, hz1, hz2⟩ : ∃ i0, Tryz.prog.info? 34 = some i0 ∧ i0.zero = some (.int .u64 0) ∧ i0.size = 1 ∧ i0.bytes = 8 := by
    have h : (Tryz.prog.info? 34).map (fun i => (i.zero, i.size, i.bytes)) = some (some (.int .u64 0), 1, 8) := by kernel_rfl
    cases hq : Tryz.prog.info? 34 with
    | none => rw [hq] at h; cases h
    | some i =>
      rw [hq] at h
      simp only [Option.map_some, Option.some.injEq, Prod.mk.injEq] at h
      exact ⟨i, rfl, h.1, h.2.1, h.2.2⟩
  have hrl := hf.ranges.hb
  have hn1 : 1 ≤ f.ranges.len := by
    have := hok.1
    rcases Nat.eq_zero_or_pos f.ranges.len with h | h
    · exact absurd (List.eq_nil_of_length_eq_zero (by omega)) this
    · exact h
  have hn64 : f.ranges.len ≤ 64 := by have := hok.2.1; omega
  have HST := veil (fun j (hj : j < f.ranges.l.length) => set_at f.ranges.l hok.2.2 j hj)
  have hra := hf.ranges.at_ (by omega)
  have HRO := veil hf.ranges
  obtain ⟨k, st, of, li, co, fi, da, s⟩ := f
  simp only at hrl hn1 hn64 hra hli HST HRO ⊢
  obtain ⟨a, len, cap, g, off, l⟩ := s
  simp only at hrl hn1 hn64 hra
  subst hra
  have hst := HST.out
  simp only at hst
  have HS := veil hst
  have hL2 := hst (len - 1) (by omega)
  clear hst HST
  obtain ⟨x0, eX⟩ : ∃ x0, x0 = gr l (len - 1) := ⟨_, rfl⟩
  have hla := HRO.out.cell (len - 1) (show len - 1 < len by omega)
  simp only at hla
  rw [← eX] at hL2 hla
  obtain ⟨lf, lt⟩ := x0
  simp only at hL2 hla
  have EX := veil eX
  have HL0 := veil (show [2, lt, li, len - 1, lt - lf] = ackNs li l len 0 by unfold ackNs; rw [← eX]; rfl)
  have n1 : (len : Int) - 1 = ((len - 1 : Nat) : Int) := by omega
  have n2 : ((len - 1 : Nat) : Int) - 1 = (len : Int) - 2 - ((0 : Nat) : Int) := by omega
  have n3 : IntKind.u64.wrap ((lt : Int) - (lf : Int)) = ((lt - lf : Nat) : Int) := by rw [IntKind.wrap_u64]; omega
  have n4 : IntKind.u64.wrap ((len - 1 : Nat) : Int) = ((len - 1 : Nat) : Int) := by rw [IntKind.wrap_u64]; omega
  have n5 : IntKind.i64.wrap ((len - 1 : Nat) : Int) = ((len - 1 : Nat) : Int) := by rw [IntKind.wrap_i64]; omega
  have n6 : IntKind.i64.wrap ((len : Int) - 2 - ((0 : Nat) : Int)) = (len : Int) - 2 - ((0 : Nat) : Int) := by rw [IntKind.wrap_i64]; omega
  have n7 : len - 1 < len := by omega
  have r0 : Row (w.alloc (.cells (FrM.mk k st of li co fi da ⟨some ⟨g, off, none⟩, len, cap, g, off, l⟩).cells 37)) w.heap.size 37 (FrM.mk k st of li co fi da ⟨some ⟨g, off, none⟩, len, cap, g, off, l⟩).cells := Row.new _ _ _
  obtain ⟨W0, eW0⟩ : ∃ W0, W0 = w.alloc (.cells (FrM.mk k st of li co fi da ⟨some ⟨g, off, none⟩, len, cap, g, off, l⟩).cells 37) := ⟨_, rfl⟩
  have b0 : Below w.heap.size w W0 := by rw [eW0]; exact (Below.refl _ w).alloc (Nat.le_refl _) _
  have s0 : W0.heap.size = w.heap.size + 1 := by rw [eW0]; simp
  rw [← eW0] at r0
  have hla0 : W0.cell? ⟨g, off + (len - 1) * 2, none⟩ = some (.int .u64 (lf : Int)) ∧ W0.cell? ⟨g, off + (len - 1) * 2 + 1, none⟩ = some (.int .u64 (lt : Int)) := by
    have := (HRO.out.below b0).cell (len - 1) (show len - 1 < len by omega)
    simp only at this
    rw [← EX.out] at this
    exact this
  obtain ⟨d1, d2⟩ := hla0
  obtain ⟨c0, c1, c2, c3, c4, c5, c6, c7⟩ := fr_cells r0
  simp only at c0 c1 c2 c3 c4 c5 c6 c7
  obtain ⟨W1, eW1⟩ : ∃ W1, W1 = W0.alloc (.cells #[.int .u64 (lf : Int), .int .u64 (lt : Int)] 114) := ⟨_, rfl⟩
  have rL : Row W1 W0.heap.size 114 (rgC (lf, lt)) := by rw [eW1]; exact Row.new _ _ _
  have r1 : Row W1 w.heap.size 37 (FrM.mk k st of li co fi da ⟨some ⟨g, off, none⟩, len, cap, g, off, l⟩).cells := by rw [eW1]; exact r0.alloc _
  have b1 : Below w.heap.size w W1 := by rw [eW1]; exact b0.alloc b0.size _
  have s1 : W1.heap.size = w.heap.size + 2 := by rw [eW1]; simp [s0]
  have e3 := (fr_cells r1).2.2.2.1
  simp only at e3
  have l0 : W1.cell? ⟨w.heap.size + 1, 0, none⟩ = some (.int .u64 (lf : Int)) := by rw [← s0]; exact rL.cell 0
  have l1 : W1.cell? ⟨w.heap.size + 1, 1, none⟩ = some (.int .u64 (lt : Int)) := by rw [← s0]; exact rL.cell 1
  have NLO := veil (nl_lit W1 [2, lt, li, len - 1, lt - lf])
  have HR1 := veil r1
  have HB1 := veil b1
  have S1 := veil s1
  have EW0 := veil eW0
  have EW1 := veil eW1
  have HRL := veil hrl
  clear hL2 hla eX r0 b0 rL r1 b1 hrl
  refine (callsIn_wide (n := 4)).1 ?_
  refine callsIn_of_wp Tryz.func78 rfl trivial ?_ rfl
  simp only [Tryz.ntmps78, List.size_toArray, List.length_cons, List.length_nil, Nat.reduceAdd, Nat.reduceSub, Array.replicate_succ, Array.replicate_zero, List.push_toArray, List.append_toArray, List.nil_append, List.cons_append]
  subst eW1
  subst eW0
  gi_wp2_with fail
  clear d1 d2 c0 c1 c2 c3 c4 c5 c6 c7 e3 l0 l1 n3 n4 n5
  have HOW := veil (show (World.alloc ((w.alloc (.cells (FrM.mk k st of li co fi da ⟨some ⟨g, off, none⟩, len, cap, g, off, l⟩).cells 37)).alloc (.cells #[.int .u64 (lf : Int), .int .u64 (lt : Int)] 114)) (.cells (vu [2, lt, li, len - 1, lt - lf]).toArray 34)).ownsRow (w.heap.size + 2) 34 1 (.slice (some ⟨w.heap.size + 2, 0, none⟩) 5 5) 5 (vu [2, lt, li, len - 1, lt - lf]) by
    have := World.ownsRow_lit (base := w.heap.size + 2) (e := 34) (size := 1) ((w.alloc (.cells (FrM.mk k st of li co fi da ⟨some ⟨g, off, none⟩, len, cap, g, off, l⟩).cells 37)).alloc (.cells #[.int .u64 (lf : Int), .int .u64 (lt : Int)] 114)) (vu [2, lt, li, len - 1, lt - lf]).toArray 5 (by simp) (by unfold maxLen; decide) rfl
    simpa using this)
  show Code.wpIn _ _ _ _ _ _ (World.alloc ((w.alloc (.cells (FrM.mk k st of li co fi da ⟨some ⟨g, off, none⟩, len, cap, g, off, l⟩).cells 37)).alloc (.cells #[.int .u64 (lf : Int), .int .u64 (lt : Int)] 114)) (.cells (vu [2, lt, li, len - 1, lt - lf]).toArray 34))
  have HB2 := veil (show Below (w.heap.size + 2) ((w.alloc (.cells (FrM.mk k st of li co fi da ⟨some ⟨g, off, none⟩, len, cap, g, off, l⟩).cells 37)).alloc (.cells #[.int .u64 (lf : Int), .int .u64 (lt : Int)] 114)) (World.alloc ((w.alloc (.cells (FrM.mk k st of li co fi da ⟨some ⟨g, off, none⟩, len, cap, g, off, l⟩).cells 37)).alloc (.cells #[.int .u64 (lf : Int), .int .u64 (lt : Int)] 114)) (.cells (vu [2, lt, li, len - 1, lt - lf]).toArray 34)) from (Below.refl _ _).alloc (by simp) _)
  rw [show [2, lt, li, len - 1, lt - lf] = ackNs li l len 0 from HL0.out] at HOW HB2 ⊢
  clear HL0 NLO EW0 EW1
  generalize (World.alloc ((w.alloc (.cells (FrM.mk k st of li co fi da ⟨some ⟨g, off, none⟩, len, cap, g, off, l⟩).cells 37)).alloc (.cells #[.int .u64 (lf : Int), .int .u64 (lt : Int)] 114)) (.cells (vu (ackNs li l len 0)).toArray 34)) = W2 at *
  generalize ((w.alloc (.cells (FrM.mk k st of li co fi da ⟨some ⟨g, off, none⟩, len, cap, g, off, l⟩).cells 37)).alloc (.cells #[.int .u64 (lf : Int), .int .u64 (lt : Int)] 114)) = W1 at *
  gi_loopw [5, 6] (fun v i wr => ∃ m : Nat, m ≤ len - 1 ∧ i = .int .i64 ((len : Int) - 2 - (m : Int)) ∧ wr.ownsRow (w.heap.size + 2) 34 1 v (5 + 2 * m) (vu (ackNs li l len m)) ∧ Below (w.heap.size + 2) W1 wr)
    (fun _ i _ => (intOf i + 1).toNat)
  case atStart => exact ⟨0, Nat.zero_le _, by simp, HOW.out, HB2.out⟩
  case round =>
    obtain ⟨m, hm, rfl, hown, hbel⟩ := hrel
    by_cases hlt : m < len - 1
    · obtain ⟨j, hj⟩ : ∃ j : Nat, j + 2 + m = len := ⟨len - 2 - m, by omega⟩
      have hjI : (len : Int) - 2 - (m : Int) = (j : Int) := by omega
      rw [hjI]
      have hdj : decide ((0 : Int) ≤ (j : Int)) = true := by simp
      have rF : Row wr w.heap.size 37 (FrM.mk k st of li co fi da ⟨some ⟨g, off, none⟩, len, cap, g, off, l⟩).cells := (hbel.block w.heap.size (by omega)).trans HR1.out
      have roW : RL.Ok wr ⟨some ⟨g, off, none⟩, len, cap, g, off, l⟩ := (HRO.out.below HB1.out).same (fun p => hbel.block g (by have := HRO.out.lt p; simp only at this; omega)) hbel.size
      have h0 := HS.out j (by have := HRL.out; omega)
      have hst2 := h0.2.2 (by have := HRL.out; omega)
      have hst1 := h0.1
      have hst3 := (HS.out (j + 1) (by have := HRL.out; omega)).2.1
      have hst4 := (HS.out (j + 1) (by have := HRL.out; omega)).1
      have hNX := veil (ackNs_succ li l m j (by have := HRL.out; omega))
      have hlF := rF.lt
      have RF := veil rF
      have RO := veil roW
      have HOWN := veil hown
      have HBEL := veil hbel
      have hbs : w.heap.size + 2 ≤ wr.heap.size := by have := hbel.size; omega
      clear rF roW hown hbel h0 HOW HB2 hjI
      gi_wp2_with fail
      refine wpIn_region_any (by kernel_rfl) ?_
      refine anyIn_two (w0 := wr) (valAN w.heap.size ⟨some ⟨g, off, none⟩, len, cap, g, off, l⟩ j) [36, 37, 38, 39, 40, 41, 42, 43, 44, 45, 46, 7, 8] depAN 11 12 114 (rgC (0, 0)) (rgC (gr l j)) (rgC (gr l (j + 1))) (by kernel_rfl) rfl (by decide) (by decide) (by decide) (by decide) (by decide) (by decide) (by decide) ((Below.refl _ _).drew) ?stp ?all ?sA ?sB ?don
      case stp =>
        intro x W ii d hW hdi n11 n12 hdep
        have c7 := (fr_cells (RF.out.below hW hlF)).2.2.2.2.2.2.2
        simp only at c7
        have rW := RO.out.below hW
        match ii, hdi, hdep with
        | 0, hdi, hdep =>
          obtain rfl := Option.some.inj hdi
          exact OI_value rfl rfl (about_none (by intro c h; cases h)) (by intro c h; cases h) (.pointer (some ⟨w.heap.size, 7, none⟩)) W (by kernel_rfl) ⟨rfl, rfl⟩
        | 1, hdi, hdep =>
          obtain rfl := Option.some.inj hdi
          rw [updV_self (show x 0 = _ from hdep 0 (by simp [depAN]) (by decide) (by decide))]
          exact OI_value rfl rfl (about_none (by intro c h; cases h)) (by intro c h; cases h) (.slice (some ⟨g, off, none⟩) len cap) W (run_cellF 35 _ ⟨w.heap.size, 7, none⟩ _ _ rfl (by kernel_rfl) Tryz.underlying35 rfl W c7) ⟨rfl, rfl⟩
        | 2, hdi, hdep =>
          obtain rfl := Option.some.inj hdi
          exact OI_value rfl rfl (about_none (by intro c h; cases h)) (by intro c h; cases h) (.int .i64 (j : Int)) W (by kernel_rfl) ⟨rfl, rfl⟩
        | 3, hdi, hdep =>
          obtain rfl := Option.some.inj hdi
          rw [updV_self (show x 1 = _ from hdep 1 (by simp [depAN]) (by decide) (by decide)), updV_self (show updV x 1 _ 2 = _ from hdep 2 (by simp [depAN]) (by decide) (by decide))]
          exact OI_value rfl rfl (about_none (by intro c h; cases h)) (by intro c h; cases h) _ W (run_atF 35 114 2 _ _ g off len cap j rfl (by kernel_rfl) (by kernel_rfl) Tryz.underlying35 (by kernel_rfl) (by omega) W) ⟨rfl, rfl⟩
        | 4, hdi, hdep =>
          obtain rfl := Option.some.inj hdi
          rw [updV_self (show x 3 = _ from hdep 3 (by simp [depAN]) (by decide) (by decide))]
          exact OI_value rfl rfl (about_none (by intro c h; cases h)) (by intro c h; cases h) _ W (run_midF 114 _ g (off + j * 2) (rgC (gr l j)) _ rfl (by kernel_rfl) Tryz.underlying114 rfl (by kernel_rfl) W (rg_range rW j (show j < len by omega))) ⟨rfl, rfl⟩
        | 5, hdi, hdep =>
          obtain rfl := Option.some.inj hdi
          exact OI_value rfl rfl (about_none (by intro c h; cases h)) (by intro c h; cases h) (.pointer (some ⟨w.heap.size, 7, none⟩)) W (by kernel_rfl) ⟨rfl, rfl⟩
        | 6, hdi, hdep =>
          obtain rfl := Option.some.inj hdi
          rw [updV_self (show x 5 = _ from hdep 5 (by simp [depAN]) (by decide) (by decide))]
          exact OI_value rfl rfl (about_none (by intro c h; cases h)) (by intro c h; cases h) (.slice (some ⟨g, off, none⟩) len cap) W (run_cellF 35 _ ⟨w.heap.size, 7, none⟩ _ _ rfl (by kernel_rfl) Tryz.underlying35 rfl W c7) ⟨rfl, rfl⟩
        | 7, hdi, hdep =>
          obtain rfl := Option.some.inj hdi
          exact OI_value rfl rfl (about_none (by intro c h; cases h)) (by intro c h; cases h) (.int .i64 (j : Int)) W (by kernel_rfl) ⟨rfl, rfl⟩
        | 8, hdi, hdep =>
          obtain rfl := Option.some.inj hdi
          rw [updV_self (show x 7 = _ from hdep 7 (by simp [depAN]) (by decide) (by decide))]
          exact OI_value rfl rfl (about_none (by intro c h; cases h)) (by intro c h; cases h) _ W (run_oneNF _ _ _ _ j (by omega) rfl (by kernel_rfl) (by kernel_rfl) W) ⟨rfl, rfl⟩
        | 9, hdi, hdep =>
          obtain rfl := Option.some.inj hdi
          rw [updV_self (show x 6 = _ from hdep 6 (by simp [depAN]) (by decide) (by decide)), updV_self (show updV x 6 _ 8 = _ from hdep 8 (by simp [depAN]) (by decide) (by decide))]
          exact OI_value rfl rfl (about_none (by intro c h; cases h)) (by intro c h; cases h) _ W (run_atF 35 114 2 _ _ g off len cap (j + 1) rfl (by kernel_rfl) (by kernel_rfl) Tryz.underlying35 (by kernel_rfl) (by omega) W) ⟨rfl, rfl⟩
        | 10, hdi, hdep =>
          obtain rfl := Option.some.inj hdi
          rw [updV_self (show x 9 = _ from hdep 9 (by simp [depAN]) (by decide) (by decide))]
          exact OI_value rfl rfl (about_none (by intro c h; cases h)) (by intro c h; cases h) _ W (run_midF 114 _ g (off + (j + 1) * 2) (rgC (gr l (j + 1))) _ rfl (by kernel_rfl) Tryz.underlying114 rfl (by kernel_rfl) W (rg_range rW (j + 1) (show j + 1 < len by omega))) ⟨rfl, rfl⟩
        | 11, _, _ => exact absurd rfl n11
        | 12, _, _ => exact absurd rfl n12
        | _ + 13, hdi, _ => simp at hdi
      case all =>
        intro x W ii d hdi h
        rcases h with rfl | rfl
        · obtain rfl := Option.some.inj hdi
          exact OI_value rfl rfl (about_none (by intro c h; cases h)) (by intro c h; cases h) _ _ (run_allocR 114 (rgC (0, 0)) rfl (by kernel_rfl) W) ⟨rfl, rfl⟩
        · obtain rfl := Option.some.inj hdi
          exact OI_value rfl rfl (about_none (by intro c h; cases h)) (by intro c h; cases h) _ _ (run_allocR 114 (rgC (0, 0)) rfl (by kernel_rfl) W) ⟨rfl, rfl⟩
      case sA =>
        intro x W p hx hr hdep
        rw [updV_self (show x 4 = _ from hdep 4 (by simp [depAN]) (by decide) (by decide)), updV_self (show updV x 4 _ 11 = ptrV p from hx)]
        refine OI_skip rfl rfl (about_none (by intro c h; cases h)) (by intro c h; cases h) (W.setRow p (rgC (gr l j))) ?_ ?_
        · refine run_store_row 114 _ _ rfl p (rgC (gr l j)) ?_ ?_ 114 _ hr 2 (by kernel_rfl) rfl rfl ?_
          · kernel_rfl
          · kernel_rfl
          · kernel_rfl
        · exact ⟨put_none _ _, rfl⟩
      case sB =>
        intro x W p hx hr hdep
        rw [updV_self (show x 10 = _ from hdep 10 (by simp [depAN]) (by decide) (by decide)), updV_self (show updV x 10 _ 12 = ptrV p from hx)]
        refine OI_skip rfl rfl (about_none (by intro c h; cases h)) (by intro c h; cases h) (W.setRow p (rgC (gr l (j + 1)))) ?_ ?_
        · refine run_store_row 114 _ _ rfl p (rgC (gr l (j + 1))) ?_ ?_ 114 _ hr 2 (by kernel_rfl) rfl rfl ?_
          · kernel_rfl
          · kernel_rfl
          · kernel_rfl
        · exact ⟨put_none _ _, rfl⟩
      case don =>
        intro x W p q hW hx hxa hxb hp hq rA rB
        have z0 := hx 0 (by decide) (by decide) (by decide)
        have z1 := hx 1 (by decide) (by decide) (by decide)
        have z2 := hx 2 (by decide) (by decide) (by decide)
        have z3 := hx 3 (by decide) (by decide) (by decide)
        have z4 := hx 4 (by decide) (by decide) (by decide)
        have z5 := hx 5 (by decide) (by decide) (by decide)
        have z6 := hx 6 (by decide) (by decide) (by decide)
        have z7 := hx 7 (by decide) (by decide) (by decide)
        have z8 := hx 8 (by decide) (by decide) (by decide)
        have z9 := hx 9 (by decide) (by decide) (by decide)
        have z10 := hx 10 (by decide) (by decide) (by decide)
        simp only [putsV, z0, z1, z2, z3, z4, z5, z6, z7, z8, z9, z10, hxa, hxb, valAN, ptrV, Act.put, List.setIfInBounds_toArray, List.set_cons_succ, List.set_cons_zero, Nat.reduceAdd]
        clear z0 z1 z2 z3 z4 z5 z6 z7 z8 z9 z10 hx hxa hxb
        obtain ⟨X, eX⟩ : ∃ X, X = gr l j := ⟨_, rfl⟩
        obtain ⟨Y, eY⟩ : ∃ Y, Y = gr l (j + 1) := ⟨_, rfl⟩
        rw [← eX] at rA hst1 hst2 hNX
        rw [← eY] at rB hst2 hst3 hst4 hNX
        rw [← eX, ← eY]
        obtain ⟨rf, rt⟩ := X
        obtain ⟨af, ta⟩ := Y
        simp only at rA rB hst1 hst2 hst3 hst4 hNX
        have p0 : W.cell? ⟨p, 0, none⟩ = some (.int .u64 (rf : Int)) := rA.cell 0
        have p1 : W.cell? ⟨p, 1, none⟩ = some (.int .u64 (rt : Int)) := rA.cell 1
        have q0 : W.cell? ⟨q, 0, none⟩ = some (.int .u64 (af : Int)) := rB.cell 0
        have u1 : IntKind.u64.wrap ((af : Int) - (rt : Int)) = ((af - rt : Nat) : Int) := by rw [IntKind.wrap_u64]; omega
        have u2 : IntKind.u64.wrap (((af - rt : Nat) : Int) - 2) = ((af - rt - 2 : Nat) : Int) := by rw [IntKind.wrap_u64]; omega
        have u3 : IntKind.u64.wrap ((rt : Int) - (rf : Int)) = ((rt - rf : Nat) : Int) := by rw [IntKind.wrap_u64]; omega
        have hbW := veil (HBEL.out.trans (hW.mono (show w.heap.size + 2 ≤ wr.heap.size by omega)))
        have HO1 := veil (own_below (own_below HOWN.out hW) ((Below.refl _ W).alloc (Nat.le_refl _) (.cells (vu [af - rt - 2, rt - rf]).toArray 34)))
        have NLO := veil (nl_lit W [af - rt - 2, rt - rf])
        have hWs : w.heap.size + 2 ≤ W.heap.size := by have := hW.size; omega
        have hWs1 : w.heap.size + 2 ≤ (W.alloc (.cells (vu [af - rt - 2, rt - rf]).toArray 34)).heap.size := by simp; omega
        clear eX eY rA rB hW hst1 hst2 hst3 hst4 HOWN hp hq
        gi_wp2_with (with_reducible (show wpListIn _ _ _ _ _ (⟨some 60, Op.call _, _, _, _, _⟩ :: _) _ _)
                     refine wpListIn_append_own (W.alloc (.cells (vu [af - rt - 2, rt - rf]).toArray 34)) rfl _ _ 82 rfl (w.heap.size + 2) 34 i0 (.int .u64 0) 1 8 Tryz.underlying82 hi hz0 hz1 hz2 rfl (by decide) _ (5 + 2 * m) (vu (ackNs li l len m)) rfl HO1.out ⟨W.heap.size, 0, none⟩ 2 2 (vu [af - rt - 2, rt - rf]) rfl rfl (vu_lit W _) (vu_one _) (by unfold maxLen; omega) (by omega) hWs1 ?_
                     intro v3 w3 hown3 hgrow3 _
                     have HO3 := veil hown3
                     have HG3 := veil hgrow3
                     clear hown3 hgrow3)
        refine ⟨⟨m + 1, by omega, by rw [show (j : Int) - 1 = (len : Int) - 2 - ((m + 1 : Nat) : Int) by omega], ?_, ?_⟩, ?_⟩
        · rw [show 5 + 2 * (m + 1) = 5 + 2 * m + 2 by omega, show vu (ackNs li l len (m + 1)) = vu (ackNs li l len m) ++ vu [af - rt - 2, rt - rf] by
            have e := hNX.out
            rw [HRL.out] at e
            rw [e, vu_append]]
          exact HO3.out
        · have b4 : Below (w.heap.size + 2) W1 (W.alloc (.cells (vu [af - rt - 2, rt - rf]).toArray 34)) := hbW.out.alloc hWs _
          exact b4.grown HG3.out hWs1 (fun q e => (HO1.out.lt q e).1)
        · simp [intOf]
    · obtain rfl : m = len - 1 := by omega
      have hdj : decide ((0 : Int) ≤ (len : Int) - 2 - ((len - 1 : Nat) : Int)) = false := by simp; omega
      have HO := veil (own_low hown (show w.heap.size ≤ w.heap.size + 2 by omega))
      have HB := veil (HB1.out.trans (hbel.mono (by omega)))
      clear hown hbel
      gi_wp2_with fail
      go_ret
      exact ⟨_, rfl, HO.out, HB.out⟩
end Go.Proofs.YtaighdppemnglaaGreatDoor

/-! frame.aheadOfData of any frame that may be. -/
namespace Go.Proofs.YtaighdppemnglaaGreatDoor
open Go Go.RowKit

theorem nl_own {w : World} {base n : Nat} {v : Value} {L : List Nat} (h : w.ownsRow base 34 1 v n (vu L)) : ∃ s : NL, v = .slice s.a s.len s.cap ∧ s.Ok w ∧ s.l = L ∧ s.len = n := by
  have hl : L.length = n := by have := h.1; simpa [vu] using this
  rcases h.2 with ⟨rfl, hn⟩ | ⟨g, c, cur, rfl, hb, hh, hc, hm, hsz, htk⟩
  · refine ⟨⟨none, 0, 0, 0, 0, L⟩, rfl, ⟨by rw [hl]; exact hn, Nat.le_refl _, fun p => absurd p (Nat.lt_irrefl _), fun p => absurd p (Nat.lt_irrefl _), fun j hj => absurd hj (Nat.not_lt_zero _)⟩, rfl, hn.symm⟩
  · refine ⟨⟨some ⟨g, 0, none⟩, n, c, g, 0, L⟩, rfl, ⟨hl, hc, fun _ => rfl, fun _ => (Array.getElem?_eq_some_iff.1 hh).1, fun j hj => ?_⟩, rfl, rfl⟩
    have hj' : j < L.length := by rw [hl]; exact hj
    have := h.cells (g := g) rfl j (.int .u64 (gu L j : Int)) (by
      unfold vu gu
      rw [List.getElem?_map, List.getElem?_eq_getElem hj']
      rfl)
    rw [add_at] at this
    exact this
theorem gr_le {l : List (Nat × Nat)} (h : ackOk l) (j : Nat) : (gr l j).1 ≤ 4611686018427387903 ∧ (gr l j).2 ≤ 4611686018427387903 := by
  by_cases hj : j < l.length
  · have := set_at l h.2.2 j hj
    omega
  · unfold gr
    rw [List.getElem?_eq_none (by omega)]
    exact ⟨Nat.zero_le _, Nat.zero_le _⟩
theorem gr_rev_le {l : List (Nat × Nat)} (h : ackOk l) (j : Nat) : (gr l.reverse j).1 ≤ 4611686018427387903 ∧ (gr l.reverse j).2 ≤ 4611686018427387903 := by
  by_cases hj : j < l.length
  · rw [gr_reverse l j hj]
    exact gr_le h _
  · unfold gr
    rw [List.getElem?_eq_none (by rw [List.length_reverse]; omega)]
    exact ⟨Nat.zero_le _, Nat.zero_le _⟩
theorem ackNs_le (lim : Nat) (l : List (Nat × Nat)) (n m : Nat) (h : ackOk l) (hl : lim ≤ 4611686018427387903) (hn : n ≤ 64) : ∀ x ∈ ackNs lim l n m, x ≤ 4611686018427387903 := by
  intro x hx
  unfold ackNs at hx
  rw [List.mem_append] at hx
  rcases hx with hx | hx
  · have := gr_le h (n - 1)
    simp only [List.mem_cons, List.not_mem_nil, or_false] at hx
    omega
  · exact ackUN_le _ _ (fun j => gr_rev_le h j) m x hx

set_option maxRecDepth 20000 in
set_option maxHeartbeats 1000000 in
theorem ahead_3 (f : FrM) (w : World) (hk : f.kind = 3) (hf : f.Ok w) (hok : ackOk f.ranges.l) (hli : f.limit ≤ 4611686018427387903) (hdl : f.data.len ≤ 4194304) (hL : Lens w) :
    Calls Tryz.prog 25 #[.agg f.cells] w fun e w' => ∃ v, e = .returned v ∧ RowK w.heap.size (numsL (ackNs f.limit f.ranges.l f.ranges.len (f.ranges.len - 1))) w' v ∧ Below w.heap.size w w' := by
  have hn64 : f.ranges.len ≤ 64 := by have := hok.2.1; have := hf.ranges.hb; omega
  have HLe := veil (ackNs_le f.limit f.ranges.l f.ranges.len (f.ranges.len - 1) hok hli hn64)
  have r0 : Row (w.alloc (.cells f.cells 37)) w.heap.size 37 f.cells := Row.new _ _ _
  have b0 : Below w.heap.size w (w.alloc (.cells f.cells 37)) := (Below.refl _ w).alloc (Nat.le_refl _) _
  have HFN := veil (fr_ackN f (w.alloc (.cells f.cells 37)) (hf.below b0) hok hli)
  obtain ⟨L, eL⟩ : ∃ L, L = ackNs f.limit f.ranges.l f.ranges.len (f.ranges.len - 1) := ⟨_, rfl⟩
  rw [← eL] at HLe HFN ⊢
  clear eL
  obtain ⟨k, st, of, li, co, fi, da, ra⟩ := f
  simp only at hk hdl hn64
  subst hk
  have hwl : IntKind.u64.wrap (da.len : Int) = (da.len : Int) := by rw [IntKind.wrap_u64]; omega
  obtain ⟨c0, c1, c2, c3, c4, c5, c6, c7⟩ := fr_cells r0
  simp only at c0 c1 c2 c3 c4 c5 c6 c7
  have HB0 := veil b0
  have HLn := veil hL
  clear r0 b0 hL hf hok
  go_enter Tryz.func25, Tryz.ntmps25
  go_wp2_with fail
  refine HFN.out.mono ?_
  rintro e1 w1 ⟨v, rfl, hown, hb1⟩
  obtain ⟨s, rfl, hsok, hsl, hsn⟩ := nl_own hown
  have HB1 := veil (HB0.out.trans (hb1.mono HB0.out.size))
  have HOK := veil hsok
  have HSL := veil hsl
  have HS4 := veil (show s.len ≤ 1000 by omega)
  clear hb1 hsok hsl hsn hown c0 c1 c2 c3 c4 c5 c6 c7
  go_wp2_with fail
  refine (fr_nums s w1 HOK.out HS4.out (fun j _ => gu_le _ _ (by rw [HSL.out]; exact HLe.out) j) (HLn.out.step HB1.out)).mono ?_
  rintro e2 w2 ⟨v, rfl, hrow, hb2⟩
  have HRow := veil (own_low hrow HB1.out.size)
  have HB2 := veil (HB1.out.trans (hb2.mono HB1.out.size))
  clear hrow hb2
  go_wp2_with fail
  go_ret
  exact ⟨v, rfl, by rw [← HSL.out]; exact HRow.out, HB2.out⟩

/-- Some bytes and Data are a frame's bytes. -/
def isAhead (f : Fr.Frame) (a : List By) : Prop := a ++ f.data = Fr.putF f
theorem fr_ahead (f : FrM) (w : World) (hm : Fr.mayF f.fr) (hf : f.Ok w) (hdl : f.data.len ≤ 4194304) (hL : Lens w) :
    Calls Tryz.prog 25 #[.agg f.cells] w fun e w' => ∃ v A, e = .returned v ∧ (isAhead f.fr A ∧ A.length ≤ 70000) ∧ RowK w.heap.size A w' v ∧ Below w.heap.size w w' := by
  have hn := hm.1
  have hdb := hf.data.hb
  have hk : 1 ≤ f.kind ∧ f.kind ≤ 14 := may_kind hm
  have hb := ((may_split f.fr (by show f.data.b.length ≤ _; rw [hdb]; exact hdl)).1 hm)
  have hx := hb.2.2.2
  have hbare := hb.2.1
  have nodata : ∀ k, f.kind = k → k < 15 → tb k 5 = false → f.data.b = [] := by
    intro k hk1 hk2 hk3
    have := (bare_k f.fr k hk1 hk2).1 hbare
    unfold Fr.bareF at this
    rcases this.2.2.2.2.2.1 with h | h
    · rw [hk3] at h; cases h
    · exact h
  have fin : ∀ (A : List By), A.length ≤ 70000 → isAhead f.fr A → (Calls Tryz.prog 25 #[.agg f.cells] w fun e w' => ∃ v, e = .returned v ∧ RowK w.heap.size A w' v ∧ Below w.heap.size w w') → Calls Tryz.prog 25 #[.agg f.cells] w fun e w' => ∃ v A, e = .returned v ∧ (isAhead f.fr A ∧ A.length ≤ 70000) ∧ RowK w.heap.size A w' v ∧ Below w.heap.size w w' := by
    intro A hAl hA hc
    refine hc.mono ?_
    rintro e w' ⟨v, h1, h2, h3⟩
    exact ⟨v, A, h1, ⟨hA, hAl⟩, h2, h3⟩
  have hq : f.kind = 1 ∨ f.kind = 2 ∨ f.kind = 3 ∨ f.kind = 4 ∨ f.kind = 5 ∨ f.kind = 6 ∨ f.kind = 7 ∨ f.kind = 8 ∨ f.kind = 9 ∨ f.kind = 10 ∨ f.kind = 11 ∨ f.kind = 12 ∨ f.kind = 13 ∨ f.kind = 14 := by omega
  have hfd : f.fr.data = f.data.b := rfl
  have len5 : f.data.b.length = f.data.len := hdb
  rcases hq with q | q | q | q | q | q | q | q | q | q | q | q | q | q
  · have hx1 : 1 ≤ f.limit ∧ f.limit ≤ 65536 := by unfold extraF at hx; rw [show f.fr.kind = 1 from q] at hx; exact hx
    refine fin _ (by rw [List.length_replicate]; omega) ?_ (ahead_1 f w q hx1.2 hdl)
    unfold isAhead Fr.putF
    rw [show f.fr.kind = 1 from q, hfd, nodata 1 q (by decide) rfl, List.append_nil]
    rfl
  · refine fin _ (Nat.le_trans (numsL_len _) (by simp)) ?_ (ahead_2 f w q hn hdb hL)
    unfold isAhead Fr.putF
    rw [show f.fr.kind = 2 from q, hfd, nodata 2 q (by decide) rfl, List.append_nil]
    simp only [numsL, List.append_nil]
  · have hx3 : ackOk f.ranges.l := by unfold extraF at hx; rw [show f.fr.kind = 3 from q] at hx; exact hx
    refine fin _ (Nat.le_trans (numsL_len _) (by rw [ackNs_len]; have := hx3.2.1; have := hf.ranges.hb; omega)) ?_ (ahead_3 f w q hf hx3 hn.2.2.1 hdl hL)
    unfold isAhead Fr.putF
    rw [show f.fr.kind = 3 from q, hfd, nodata 3 q (by decide) rfl, List.append_nil, ackNs_L, ← hf.ranges.hb, ackAll_eq _ _ hx3.1]
    rfl
  · refine fin _ (Nat.le_trans (numsL_len _) (by simp)) ?_ (ahead_4 f w q hn hdb hL)
    unfold isAhead Fr.putF
    rw [show f.fr.kind = 4 from q, hfd, nodata 4 q (by decide) rfl, List.append_nil]
    simp only [numsL, List.append_nil]
    rfl
  · refine fin _ (Nat.le_trans (numsL_len _) (by simp)) ?_ (ahead_5 f w q hn hdb hL)
    unfold isAhead Fr.putF
    rw [show f.fr.kind = 5 from q, hfd, nodata 5 q (by decide) rfl, List.append_nil]
    simp only [numsL, List.append_nil]
    rfl
  · refine fin _ (Nat.le_trans (numsL_len _) (by simp)) ?_ (ahead_6 f w q hn hdb hL)
    unfold isAhead Fr.putF
    rw [show f.fr.kind = 6 from q, hfd, ← hdb]
    simp only [numsL, List.append_nil, List.append_assoc, Fr.sizedL]
    rfl
  · refine fin _ (Nat.le_trans (numsL_len _) (by unfold strN; split <;> simp)) ?_ (ahead_7 f w q hn hdl hL)
    unfold isAhead Fr.putF strN
    rw [show f.fr.kind = 7 from q, hfd, ← hdb]
    have ho : f.fr.offset = f.offset := rfl
    by_cases h0 : f.offset = 0
    · rw [if_pos h0]
      simp only [numsL, List.append_nil, List.append_assoc, Fr.sizedL, ho, h0, Nat.lt_irrefl, if_false, List.nil_append]
      rfl
    · have h0' : 0 < f.offset := by omega
      rw [if_neg h0]
      simp only [numsL, List.append_nil, List.append_assoc, Fr.sizedL, ho, h0', if_true]
      rfl
  · refine fin _ (Nat.le_trans (numsL_len _) (by simp)) ?_ (ahead_8 f w q hn hdb hL)
    unfold isAhead Fr.putF
    rw [show f.fr.kind = 8 from q, hfd, nodata 8 q (by decide) rfl, List.append_nil]
    simp only [numsL, List.append_nil]
    rfl
  · refine fin _ (Nat.le_trans (numsL_len _) (by simp)) ?_ (ahead_9 f w q hn hdb hL)
    unfold isAhead Fr.putF
    rw [show f.fr.kind = 9 from q, hfd, nodata 9 q (by decide) rfl, List.append_nil]
    simp only [numsL, List.append_nil]
    rfl
  · refine fin _ (Nat.le_trans (numsL_len _) (by simp)) ?_ (ahead_10 f w q hn.2.2.1 hdl hL)
    unfold isAhead Fr.putF
    rw [show f.fr.kind = 10 from q, hfd, nodata 10 q (by decide) rfl, List.append_nil]
    simp only [numsL, List.append_nil]
    rfl
  · refine fin _ (Nat.le_trans (numsL_len _) (by simp)) ?_ (ahead_11 f w q hn hdb hL)
    unfold isAhead Fr.putF
    rw [show f.fr.kind = 11 from q, hfd, nodata 11 q (by decide) rfl, List.append_nil]
    simp only [numsL, List.append_nil]
    rfl
  · refine fin _ (Nat.le_trans (numsL_len _) (by simp)) ?_ (ahead_12 f w q hn hdb hL)
    unfold isAhead Fr.putF
    rw [show f.fr.kind = 12 from q, hfd, nodata 12 q (by decide) rfl, List.append_nil]
    simp only [numsL, List.append_nil]
    rfl
  · cases hfi : f.fin with
    | true =>
      refine fin _ (Nat.le_trans (numsL_len _) (by simp)) ?_ (ahead_13t f w q hfi hn hdb hL)
      unfold isAhead Fr.putF
      rw [show f.fr.kind = 13 from q, hfd, ← hdb]
      simp only [numsL, List.append_nil, List.append_assoc, Fr.sizedL, show f.fr.fin = true from hfi, if_true, List.nil_append]
      rfl
    | false =>
      refine fin _ (Nat.le_trans (numsL_len _) (by simp)) ?_ (ahead_13f f w q hfi hn hdb hL)
      unfold isAhead Fr.putF
      rw [show f.fr.kind = 13 from q, hfd, ← hdb]
      simp only [numsL, List.append_nil, List.append_assoc, Fr.sizedL, show f.fr.fin = false from hfi]
      rfl
  · refine fin _ (Nat.le_trans (numsL_len _) (by simp)) ?_ (ahead_14 f w q hn hdb hL)
    unfold isAhead Fr.putF
    rw [show f.fr.kind = 14 from q, hfd, nodata 14 q (by decide) rfl, List.append_nil]
    simp only [numsL, List.append_nil]
end Go.Proofs.YtaighdppemnglaaGreatDoor

/-! frame.mayBe of a frame whose kind is one of the table's (written by mkmay.py). -/
namespace Go.Proofs.YtaighdppemnglaaGreatDoor
open Go Go.RowKit

theorem run_max4 {P : Program} (ts : Array TypeId) (t : TypeId) (x y z u m : Nat) (hm : m = max (max (max x y) z) u) (w : World) : (Builtin.max_ ts t #[.int .u64 (x : Int), .int .u64 (y : Int), .int .u64 (z : Int), .int .u64 (u : Int)]).run P w = .ok (.int .u64 (m : Int)) w := by
  simp [Builtin.max_, Builtin.max2]
  split <;> split <;> split <;> omega

set_option maxRecDepth 20000 in
set_option maxHeartbeats 800000 in
theorem fr_may_in (f : FrM) (w : World) (hf : f.Ok w) (hdl : f.data.len ≤ 4194304) (hN : Named w) (hk : isK f.kind = true) :
    Calls Tryz.prog 76 #[.agg f.cells] w fun e w' => (e = .returned (.bool true) ∧ Fr.mayF f.fr ∨ e = .returned (.bool false) ∧ ¬ Fr.mayF f.fr) ∧ Below w.heap.size w w' := by
  have k8 := hf.k8
  have HSP := veil (may_split f.fr (by show f.data.b.length ≤ _; rw [hf.data.hb]; exact hdl))
  have k15 : f.kind < 15 := by unfold isK at hk; simp at hk; exact hk.2
  have HF := veil hf
  have HN := veil hN
  have HK := veil hk
  have r0 : Row (w.alloc (.cells f.cells 37)) w.heap.size 37 f.cells := Row.new _ _ _
  have b0 : Below w.heap.size w (w.alloc (.cells f.cells 37)) := (Below.refl _ w).alloc (Nat.le_refl _) _
  have hl0 := r0.lt
  have HR0 := veil r0
  have HB0 := veil b0
  clear hf r0 b0 hk hN
  refine (callsIn_wide (n := 4)).1 ?_
  refine callsIn_of_wp Tryz.func76 rfl trivial ?_ rfl
  simp only [Tryz.ntmps76, List.size_toArray, List.length_cons, List.length_nil, Nat.reduceAdd, Nat.reduceSub, Array.replicate_succ, Array.replicate_zero, List.push_toArray, List.append_toArray, List.nil_append, List.cons_append]
  gi_wp2_with fail
  refine wpIn_region_any (by kernel_rfl) ?_
  refine anyIn_vals2 (w0 := (w.alloc (.cells f.cells 37))) (valMB w.heap.size f) [3, 4, 5, 6, 7, 8, 9, 10, 11, 12, 13, 14, 15, 16] depMB (by kernel_rfl) rfl (by decide) ((Below.refl _ _).drew) ?step3 ?done3
  case step3 =>
    intro x W ii d hW hdi hdep
    have rW := HR0.out.below hW hl0
    have c0 := (fr_cells rW).1
    have bW := HB0.out.trans (hW.mono HB0.out.size)
    match ii, hdi, hdep with
    | 0, hdi, hdep =>
      obtain rfl := Option.some.inj hdi
      exact OI_value rfl rfl (about_none (by intro c h; cases h)) (by intro c h; cases h) (.pointer (some ⟨w.heap.size, 0, none⟩)) W (by kernel_rfl) ⟨rfl, Below.refl _ _⟩
    | 1, hdi, hdep =>
      obtain rfl := Option.some.inj hdi
      rw [updV_self (hdep 0 (by simp [depMB]))]
      exact OI_value rfl rfl (about_none (by intro c h; cases h)) (by intro c h; cases h) (.int .u8 (f.kind : Int)) W (run_cellF 33 _ ⟨w.heap.size, 0, none⟩ _ _ rfl (by kernel_rfl) Tryz.underlying33 rfl W c0) ⟨rfl, Below.refl _ _⟩
    | 2, hdi, hdep =>
      obtain rfl := Option.some.inj hdi
      rw [updV_self (hdep 1 (by simp [depMB]))]
      refine OI_call rfl rfl (by intro c h; cases h) 29 #[.int .u8 (f.kind : Int)] (fun _ _ => trivial) (by kernel_rfl) (by decide) ?_
      refine (callsIn_wide.2 (fr_kind f.kind W k8)).mono ?_
      rintro e w' ⟨rfl, rfl⟩
      exact ⟨_, rfl, by rw [HK.out]; rfl, Below.refl _ _⟩
    | 3, hdi, hdep =>
      obtain rfl := Option.some.inj hdi
      rw [updV_self (hdep 2 (by simp [depMB]))]
      exact OI_value rfl rfl (about_none (by intro c h; cases h)) (by intro c h; cases h) (.bool false) W (by kernel_rfl) ⟨rfl, Below.refl _ _⟩
    | 4, hdi, hdep =>
      obtain rfl := Option.some.inj hdi
      rw [updV_self (hdep 3 (by simp [depMB]))]
      exact OI_value rfl rfl (about_none (by intro c h; cases h)) (by intro c h; cases h) (.bool false) W (by kernel_rfl) ⟨rfl, Below.refl _ _⟩
    | 5, hdi, hdep =>
      obtain rfl := Option.some.inj hdi
      rw [updV_self (hdep 4 (by simp [depMB]))]
      with_reducible refine OI_value2 ?_ ?_ ?_ ?_ (.agg f.cells) W ?_ ?_
      · decide
      · kernel_rfl
      · exact about_none (by intro c h; cases h)
      · intro c h; cases h
      · exact run_midF 37 _ w.heap.size 0 f.cells _ rfl (by kernel_rfl) Tryz.underlying37 rfl (by kernel_rfl) W (range_row rW)
      · exact ⟨rfl, Below.refl _ _⟩
    | 6, hdi, hdep =>
      obtain rfl := Option.some.inj hdi
      rw [updV_self (hdep 4 (by simp [depMB])), updV_self (show updV x 4 _ 5 = _ from hdep 5 (by simp [depMB]))]
      with_reducible refine OI_call2 ?_ ?_ ?_ 123 #[.agg f.cells] ?_ ?_ ?_ ?_
      · decide
      · kernel_rfl
      · intro c h; cases h
      · exact fun _ _ => trivial
      · kernel_rfl
      · decide
      · refine (callsIn_wide.2 (fr_fields f W HF.out.data.hb HF.out.ranges.hb)).mono ?_
        rintro e w' ⟨rfl, hb'⟩
        exact ⟨_, rfl, rfl, hb'⟩
    | 7, hdi, hdep =>
      obtain rfl := Option.some.inj hdi
      rw [updV_self (hdep 4 (by simp [depMB]))]
      with_reducible refine OI_value2 ?_ ?_ ?_ ?_ (.pointer (some ⟨w.heap.size, 0, none⟩)) W ?_ ?_
      · decide
      · kernel_rfl
      · exact about_none (by intro c h; cases h)
      · intro c h; cases h
      · kernel_rfl
      · exact ⟨rfl, Below.refl _ _⟩
    | 8, hdi, hdep =>
      obtain rfl := Option.some.inj hdi
      rw [updV_self (hdep 4 (by simp [depMB])), updV_self (show updV x 4 _ 7 = _ from hdep 7 (by simp [depMB]))]
      with_reducible refine OI_value2 ?_ ?_ ?_ ?_ (.int .u8 (f.kind : Int)) W ?_ ?_
      · decide
      · kernel_rfl
      · exact about_none (by intro c h; cases h)
      · intro c h; cases h
      · exact run_cellF 33 _ ⟨w.heap.size, 0, none⟩ _ _ rfl (by kernel_rfl) Tryz.underlying33 rfl W c0
      · exact ⟨rfl, Below.refl _ _⟩
    | 9, hdi, hdep =>
      obtain rfl := Option.some.inj hdi
      rw [updV_self (hdep 4 (by simp [depMB])), updV_self (show updV x 4 _ 8 = _ from hdep 8 (by simp [depMB]))]
      with_reducible refine OI_value2 ?_ ?_ ?_ ?_ (.pointer (some ⟨0, f.kind, none⟩)) W ?_ ?_
      · decide
      · kernel_rfl
      · exact about_none (by intro c h; cases h)
      · intro c h; cases h
      · exact run_atG 168 3 15 _ _ 0 f.kind rfl (by kernel_rfl) (by kernel_rfl) Tryz.underlying168 (by kernel_rfl) k15 W
      · exact ⟨rfl, Below.refl _ _⟩
    | 10, hdi, hdep =>
      obtain rfl := Option.some.inj hdi
      rw [updV_self (hdep 4 (by simp [depMB])), updV_self (show updV x 4 _ 9 = _ from hdep 9 (by simp [depMB]))]
      with_reducible refine OI_value2 ?_ ?_ ?_ ?_ (.int .i64 (namedN f.kind : Int)) W ?_ ?_
      · decide
      · kernel_rfl
      · exact about_none (by intro c h; cases h)
      · intro c h; cases h
      · exact run_cellF 3 _ ⟨0, f.kind, none⟩ _ _ rfl (by kernel_rfl) Tryz.underlying3 rfl W ((HN.out.step bW) f.kind k15)
      · exact ⟨rfl, Below.refl _ _⟩
    | 11, hdi, hdep =>
      obtain rfl := Option.some.inj hdi
      rw [updV_self (hdep 4 (by simp [depMB])), updV_self (show updV x 4 _ 6 = _ from hdep 6 (by simp [depMB])), updV_self (show updV (updV x 4 _) 6 _ 10 = _ from hdep 10 (by simp [depMB]))]
      with_reducible refine OI_value2 ?_ ?_ ?_ ?_ (.int .i64 (bits .andNot .i64 (fieldsN f.fr : Int) (namedN f.kind : Int))) W ?_ ?_
      · decide
      · kernel_rfl
      · exact about_none (by intro c h; cases h)
      · intro c h; cases h
      · kernel_rfl
      · exact ⟨rfl, Below.refl _ _⟩
    | 12, hdi, hdep =>
      obtain rfl := Option.some.inj hdi
      rw [updV_self (hdep 4 (by simp [depMB])), updV_self (show updV x 4 _ 11 = _ from hdep 11 (by simp [depMB]))]
      with_reducible refine OI_value2 ?_ ?_ ?_ ?_ (.bool (bits .andNot .i64 (fieldsN f.fr : Int) (namedN f.kind : Int) != 0)) W ?_ ?_
      · decide
      · kernel_rfl
      · exact about_none (by intro c h; cases h)
      · intro c h; cases h
      · kernel_rfl
      · exact ⟨rfl, Below.refl _ _⟩
    | 13, hdi, hdep =>
      obtain rfl := Option.some.inj hdi
      rw [updV_self (hdep 4 (by simp [depMB])), updV_self (show updV x 4 _ 12 = _ from hdep 12 (by simp [depMB]))]
      with_reducible refine OI_value2 ?_ ?_ ?_ ?_ (.bool (bits .andNot .i64 (fieldsN f.fr : Int) (namedN f.kind : Int) != 0)) W ?_ ?_
      · decide
      · kernel_rfl
      · exact about_none (by intro c h; cases h)
      · intro c h; cases h
      · kernel_rfl
      · exact ⟨rfl, Below.refl _ _⟩
    | _ + 14, hdi, _ => simp at hdi
  case done3 =>
    intro W hW
    have bW := veil (HB0.out.trans (hW.mono HB0.out.size))
    have rW := HR0.out.below hW hl0
    have hlW := rW.lt
    have RW := veil rW
    have eA := andNot_ok ⟨f.kind, k15⟩ ⟨fieldsN f.fr, fields_lt f.fr⟩
    simp only at eA
    simp only [putsV, valMB, Act.put, List.setIfInBounds_toArray, List.set_cons_succ, List.set_cons_zero, Nat.reduceAdd]
    rw [eA]
    clear eA hW
    by_cases hbk : fieldsN f.fr &&& (127 - namedN f.kind) = 0
    rotate_left
    · have HNO := veil (show ¬ Fr.mayF f.fr from fun h => hbk (HSP.out.1 h).2.1)
      simp only [hbk, decide_false, Bool.not_false]
      clear hbk rW
      gi_wp2_with fail
      go_ret
      exact ⟨.inr ⟨rfl, HNO.out⟩, bW.out⟩
    · simp only [hbk, decide_true, Bool.not_true]
      have HBK := veil (show bareK f.fr from hbk)
      obtain ⟨c0, c1, c2, c3, c4, c5, c6, c7⟩ := fr_cells rW
      obtain ⟨M, hM⟩ : ∃ M, M = max (max (max f.stream f.offset) f.limit) f.code := ⟨_, rfl⟩
      have hmx : ∀ (ts : Array TypeId) (t : TypeId) (w : World), (Builtin.max_ ts t #[.int .u64 (f.stream : Int), .int .u64 (f.offset : Int), .int .u64 (f.limit : Int), .int .u64 (f.code : Int)]).run Tryz.prog w = .ok (.int .u64 (M : Int)) w := fun ts t w => run_max4 ts t _ _ _ _ M hM w
      have HM := veil (show maxN4 f.fr = M from hM.symm)
      clear hbk rW hM
      by_cases hm : M ≤ 4611686018427387903
      rotate_left
      · have g1 : decide ((4611686018427387903 : Int) < (M : Int)) = true := by simp; omega
        have HNO := veil (show ¬ Fr.mayF f.fr from fun h => hm (by rw [← HM.out]; exact (HSP.out.1 h).2.2.1))
        clear hm
        gi_wp2_with fail
        go_ret
        exact ⟨.inr ⟨rfl, HNO.out⟩, bW.out⟩
      have g1 : decide ((4611686018427387903 : Int) < (M : Int)) = false := by simp; omega
      have HX := veil (show Fr.mayF f.fr ↔ extraF f.fr from ⟨fun h => (HSP.out.1 h).2.2.2, fun h => HSP.out.2 ⟨HK.out, HBK.out, by rw [HM.out]; exact hm, h⟩⟩)
      have hLo' : f.offset ≤ 4611686018427387903 := by have : maxN4 f.fr = M := HM.out; unfold maxN4 at this; have : f.offset ≤ M := by rw [← this]; show f.offset ≤ max (max (max f.stream f.offset) f.limit) f.code; omega
                                                       omega
      have HLO := veil hLo'
      clear hm HM HBK HSP hLo'
      by_cases q1 : f.kind = 1
      · have e1 : ((f.kind : Int) == 1) = true := by simp; omega
        have HE := veil (show extraF f.fr ↔ 1 ≤ f.limit ∧ f.limit ≤ 65536 by unfold extraF; rw [show f.fr.kind = 1 from q1]; exact Iff.rfl)
        by_cases l1 : 1 ≤ f.limit
        · have h1 : decide ((1 : Int) ≤ (f.limit : Int)) = true := by simp; omega
          by_cases l2 : f.limit ≤ 65536
          · have h2 : decide ((f.limit : Int) ≤ 65536) = true := by simp; omega
            have HY := veil (HX.out.2 (HE.out.2 ⟨l1, l2⟩))
            clear q1 l1 l2
            gi_wp2_with fail
            go_ret
            exact ⟨.inl ⟨rfl, HY.out⟩, bW.out⟩
          · have h2 : decide ((f.limit : Int) ≤ 65536) = false := by simp; omega
            have HY := veil (show ¬ Fr.mayF f.fr from fun h => l2 (HE.out.1 (HX.out.1 h)).2)
            clear q1 l1 l2
            gi_wp2_with fail
            go_ret
            exact ⟨.inr ⟨rfl, HY.out⟩, bW.out⟩
        · have h1 : decide ((1 : Int) ≤ (f.limit : Int)) = false := by simp; omega
          have HY := veil (show ¬ Fr.mayF f.fr from fun h => l1 (HE.out.1 (HX.out.1 h)).1)
          clear q1 l1
          gi_wp2_with fail
          go_ret
          exact ⟨.inr ⟨rfl, HY.out⟩, bW.out⟩
      have e1 : ((f.kind : Int) == 1) = false := by simp; omega
      by_cases q3 : f.kind = 3
      · have e3 : ((f.kind : Int) == 3) = true := by simp; omega
        have HE := veil (show extraF f.fr ↔ ackOk f.ranges.l by unfold extraF; rw [show f.fr.kind = 3 from q3]; exact Iff.rfl)
        clear q1 q3
        by_cases hz : f.ranges.len = 0
        · have hz1 : decide ((0 : Int) < (f.ranges.len : Int)) = false := by simp; omega
          have hz2 : decide (0 < f.ranges.len) = false := by simp; omega
          have HY := veil (show ¬ Fr.mayF f.fr from fun h => (HE.out.1 (HX.out.1 h)).1 (List.eq_nil_of_length_eq_zero (by rw [HF.out.ranges.hb]; exact hz)))
          clear hz
          gi_wp2_with fail
          refine ⟨trivial, ?_⟩
          gi_wp2_with fail
          go_ret
          exact ⟨.inr ⟨rfl, HY.out⟩, bW.out⟩
        have hz1 : decide ((0 : Int) < (f.ranges.len : Int)) = true := by simp; omega
        have hz2 : decide (0 < f.ranges.len) = true := by simp; omega
        have HI := veil (ack_iff (l := f.ranges.l) (by rw [HF.out.ranges.hb]; omega))
        clear hz
        gi_wp2_with fail
        refine ⟨trivial, (callsIn_wide.2 (rg_check f.ranges W (HF.out.ranges.below bW.out))).mono ?_⟩
        rintro e1 w1 ⟨h1, hb1⟩
        have B1 := veil (bW.out.trans (hb1.mono bW.out.size))
        clear hb1
        rcases h1 with ⟨rfl, h1⟩ | ⟨rfl, h1⟩
        · have HY := veil (HX.out.2 (HE.out.2 (HI.out.1 h1)))
          clear h1
          gi_wp2_with fail
          go_ret
          exact ⟨.inl ⟨rfl, HY.out⟩, B1.out⟩
        · have HY := veil (show ¬ Fr.mayF f.fr from fun h => h1 (HI.out.2 (HE.out.1 (HX.out.1 h))))
          clear h1
          gi_wp2_with fail
          go_ret
          exact ⟨.inr ⟨rfl, HY.out⟩, B1.out⟩
      have e3 : ((f.kind : Int) == 3) = false := by simp; omega
      by_cases q6 : f.kind = 6
      · have e6 : ((f.kind : Int) == 6) = true := by simp; omega
        have HE := veil (show extraF f.fr ↔ f.offset + f.data.len ≤ 4611686018427387903 by unfold extraF; rw [show f.fr.kind = 6 from q6]; show f.offset + f.data.b.length ≤ _ ↔ _; rw [HF.out.data.hb])
        have hof := HF.out.of
        have hwl : IntKind.u64.wrap (f.data.len : Int) = (f.data.len : Int) := by rw [IntKind.wrap_u64]; omega
        have hLo : f.offset ≤ 4611686018427387903 := HLO.out
        have hwo : IntKind.u64.wrap ((f.offset : Int) + (f.data.len : Int)) = (f.offset : Int) + (f.data.len : Int) := by rw [IntKind.wrap_u64]; omega
        by_cases l1 : f.offset + f.data.len ≤ 4611686018427387903
        · have h1 : decide ((f.offset : Int) + (f.data.len : Int) ≤ 4611686018427387903) = true := by simp; omega
          have HY := veil (HX.out.2 (HE.out.2 l1))
          clear q1 q3 q6 l1
          gi_wp2_with fail
          go_ret
          exact ⟨.inl ⟨rfl, HY.out⟩, bW.out⟩
        · have h1 : decide ((f.offset : Int) + (f.data.len : Int) ≤ 4611686018427387903) = false := by simp; omega
          have HY := veil (show ¬ Fr.mayF f.fr from fun h => l1 (HE.out.1 (HX.out.1 h)))
          clear q1 q3 q6 l1
          gi_wp2_with fail
          go_ret
          exact ⟨.inr ⟨rfl, HY.out⟩, bW.out⟩
      have e6 : ((f.kind : Int) == 6) = false := by simp; omega
      by_cases q7 : f.kind = 7
      · have e7 : ((f.kind : Int) == 7) = true := by simp; omega
        have HE := veil (show extraF f.fr ↔ f.offset + f.data.len ≤ 4611686018427387903 by unfold extraF; rw [show f.fr.kind = 7 from q7]; show f.offset + f.data.b.length ≤ _ ↔ _; rw [HF.out.data.hb])
        have hof := HF.out.of
        have hwl : IntKind.u64.wrap (f.data.len : Int) = (f.data.len : Int) := by rw [IntKind.wrap_u64]; omega
        have hLo : f.offset ≤ 4611686018427387903 := HLO.out
        have hwo : IntKind.u64.wrap ((f.offset : Int) + (f.data.len : Int)) = (f.offset : Int) + (f.data.len : Int) := by rw [IntKind.wrap_u64]; omega
        by_cases l1 : f.offset + f.data.len ≤ 4611686018427387903
        · have h1 : decide ((f.offset : Int) + (f.data.len : Int) ≤ 4611686018427387903) = true := by simp; omega
          have HY := veil (HX.out.2 (HE.out.2 l1))
          clear q1 q3 q7 l1
          gi_wp2_with fail
          go_ret
          exact ⟨.inl ⟨rfl, HY.out⟩, bW.out⟩
        · have h1 : decide ((f.offset : Int) + (f.data.len : Int) ≤ 4611686018427387903) = false := by simp; omega
          have HY := veil (show ¬ Fr.mayF f.fr from fun h => l1 (HE.out.1 (HX.out.1 h)))
          clear q1 q3 q7 l1
          gi_wp2_with fail
          go_ret
          exact ⟨.inr ⟨rfl, HY.out⟩, bW.out⟩
      have e7 : ((f.kind : Int) == 7) = false := by simp; omega
      by_cases q10 : f.kind = 10
      · have e10 : ((f.kind : Int) == 10) = true := by simp; omega
        have HE := veil (show extraF f.fr ↔ f.limit ≤ 1152921504606846976 by unfold extraF; rw [show f.fr.kind = 10 from q10]; exact Iff.rfl)
        by_cases l1 : f.limit ≤ 1152921504606846976
        · have h1 : decide ((f.limit : Int) ≤ 1152921504606846976) = true := by simp; omega
          have HY := veil (HX.out.2 (HE.out.2 l1))
          clear q1 q3 q6 q7 q10 l1
          gi_wp2_with fail
          go_ret
          exact ⟨.inl ⟨rfl, HY.out⟩, bW.out⟩
        · have h1 : decide ((f.limit : Int) ≤ 1152921504606846976) = false := by simp; omega
          have HY := veil (show ¬ Fr.mayF f.fr from fun h => l1 (HE.out.1 (HX.out.1 h)))
          clear q1 q3 q6 q7 q10 l1
          gi_wp2_with fail
          go_ret
          exact ⟨.inr ⟨rfl, HY.out⟩, bW.out⟩
      have e10 : ((f.kind : Int) == 10) = false := by simp; omega
      have HY := veil (HX.out.2 (show extraF f.fr by
        unfold extraF
        have hk' : f.fr.kind = f.kind := rfl
        split <;> first | trivial | (exfalso; omega)))
      clear q1 q3 q6 q7 q10
      gi_wp2_with fail
      go_ret
      exact ⟨.inl ⟨rfl, HY.out⟩, bW.out⟩
end Go.Proofs.YtaighdppemnglaaGreatDoor
