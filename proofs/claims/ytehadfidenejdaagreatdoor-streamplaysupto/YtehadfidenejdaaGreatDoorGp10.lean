/-
  Out of SrIns, SrInsG, SrRep, SrRepM.
-/
import Derived.Test.YtehadfidenejdaaGreatDoorRows
import Derived.Test.YtehadfidenejdaaGreatDoorGp9
import Derived.Shelf.RegionOpenPlain
import Derived.WalkKit
import Derived.Lib.Walk
import Derived.Laws.Externs
import Derived.Shelf.Spec.SlicesInsert
import Derived.Deep.RegionLaw
import Derived.BigQuiet

/-! slices.Insert of one run: the walk of the library's own text. -/
namespace Go.Proofs.YtehadfidenejdaaGreatDoor
open Go Go.RowKit

namespace Sr
def Stay (v v' : Value) (W : World) : Prop := ∀ k, v'.ownBlock = some k → v.ownBlock = some k ∨ W.heap.size ≤ k
theorem Stay.refl (v : Value) (W : World) : Stay v v W := fun _ h => .inl h
theorem run_info : ∃ i0 : TypeInfo, (Tryz.prog).info? 77 = some i0 ∧ i0.zero = some (.agg #[.int .u64 0, .int .u64 0]) ∧ i0.size = 2 ∧ i0.bytes = 16 := by
  have h : ((Tryz.prog).info? 77).map (fun i => (i.zero, i.size, i.bytes)) = some (some (.agg #[.int .u64 0, .int .u64 0]), 2, 16) := by kernel_rfl
  cases hq : Tryz.prog.info? 77 with
  | none => rw [hq] at h; cases h
  | some i =>
    rw [hq] at h
    simp only [Option.map_some, Option.some.injEq, Prod.mk.injEq] at h
    exact ⟨i, rfl, h.1, h.2.1, h.2.2⟩
theorem apart_run (w : World) (b p n c vb m vc : Nat) (L M : Array Value) (hb : w.heap[b]? = some (.cells L 77 (0, 0))) (hvb : w.heap[vb]? = some (.cells M 77 (0, 0))) (hne : b ≠ vb) (hL : L.size ≠ 0) :
    (callFunc 123 #[.slice (some ⟨vb, 0, none⟩) m vc, .slice (some ⟨b, p, none⟩) n c]).run Tryz.prog w = .ok (.value (.bool false)) w := by
  rw [run_callFunc_extern Tryz.func123 (by kernel_rfl) (by kernel_rfl) (by kernel_rfl) (e := Extern.SlicesOverlaps.overlaps #[69, 69] #[4]) (by kernel_rfl),
    Lib.run_overlaps_apart w 69 4 77 Tryz.underlying69 2 (lgSize (by kernel_rfl)) ⟨vb, 0, none⟩ ⟨b, p, none⟩ m vc n c (fun e => hne e.symm) 77 77 M.size L.size (by simp [World.shape?, hvb]) (by simp [World.shape?, hb]) hL (by simp [World.frozen?, hvb]) (by simp [World.frozen?, hvb])]
  rfl
theorem ins_end (w : World) {v : Value} {n : Nat} {l : List (Nat × Nat)} (h : RowO w 77 2 v n (vr l)) (hn : n ≤ 1073741824) (r : Nat × Nat) (vb : Nat) (hvb : w.heap[vb]? = some (.cells (rC2 r) 77 (0, 0))) :
    Calls Tryz.prog 122 #[v, .int .i64 (n : Int), .slice (some ⟨vb, 0, none⟩) 1 1] w fun e w' =>
      ∃ v', e = .returned v' ∧ RowO w' 77 2 v' (n + 1) (vr (l ++ [r])) ∧ KeepP (fun b => v.ownBlock = some b) w w' ∧ Stay v v' w := by
  obtain ⟨va, vc, rfl, hnc, hcm⟩ := h.shape
  obtain ⟨i0, q1, q2, q3, q4⟩ := run_info
  obtain ⟨v', w1, hr, h2, h3, h4⟩ := app_any (P := Tryz.prog) w 70 69 70 i0 _ 16 Tryz.underlying70 Tryz.underlying69 q1 q2 q3 q4 rfl (by decide) h
    (some ⟨vb, 0, none⟩) 1 1 (vr [r]) rfl (.inr ⟨_, rfl, fun j u hj => by rw [Addr.add_mid, cell_of_row w vb (0 + j) (rC2 r) _ (0, 0) hvb, Nat.zero_add]; match j, hj with | 0, hj => exact hj | 1, hj => exact hj | k + 2, hj => simp [vr] at hj⟩) (vr_one _) (by unfold maxLen; omega) (by omega)
  have H2 := veil h2
  have H3 := veil h3
  have H4 := veil h4
  clear h2 h3 h4
  have n1 : decide ((1 : Int) = 0) = false := by decide
  obtain ⟨xa, xc, _, hx, _⟩ := sl_any (P := Tryz.prog) w 70 Tryz.underlying70 (by kernel_rfl) h (Nat.le_refl n) (Nat.le_refl n)
  have hx := hx rfl
  go_enter Tryz.func122, Tryz.ntmps122
  go_wp2_with (at_builtin; refine Lib.wpList_append_run _ rfl _ _ _ _ rfl _ _ rfl rfl _ _ hr ?_)
  go_ret
  refine ⟨v', rfl, ?_, H3.out, ?_⟩
  · rw [vr_append]; exact H2.out
  · rcases H4.out with h5 | ⟨_, h5⟩
    · intro k hk; rw [h5] at hk; exact .inl hk
    · intro k hk; rw [h5 k hk]; exact .inr (Nat.le_refl _)
theorem src_row {w : World} {g k n : Nat} {t : TypeId} {A B C : List Value} (h : w.heap[g]? = some (.cells (A ++ B ++ C).toArray t (0, 0))) (hk : A.length = k) : Src w (some ⟨g, k, none⟩) n B := by
  refine .inr ⟨_, rfl, fun j v hj => ?_⟩
  rw [Addr.add_mid, cell_blk h, List.append_assoc, ← hk, List.getElem?_append_right (Nat.le_add_right _ _), Nat.add_sub_cancel_left, List.getElem?_append_left]
  · exact hj
  · rcases Nat.lt_or_ge j B.length with q | q
    · exact q
    · rw [List.getElem?_eq_none q] at hj; cases hj
theorem blk_keep {w w' : World} {g vb : Nat} {o : Obj} (hk : KeepP (fun b => b = g) w w') (h : w.heap[vb]? = some o) (hne : vb ≠ g) : w'.heap[vb]? = some o := by
  rw [hk.block vb (by rcases Nat.lt_or_ge vb w.heap.size with q | q; exact q; rw [Array.getElem?_eq_none q] at h; cases h) hne]; exact h
theorem src_one {w : World} {vb : Nat} {r : Nat × Nat} (hvb : w.heap[vb]? = some (.cells (rC2 r) 77 (0, 0))) : Src w (some ⟨vb, 0, none⟩) 1 (vr [r]) :=
  .inr ⟨_, rfl, fun j u hj => by rw [Addr.add_mid, cell_of_row w vb (0 + j) (rC2 r) _ (0, 0) hvb, Nat.zero_add]; match j, hj with | 0, hj => exact hj | 1, hj => exact hj | k + 2, hj => simp [vr] at hj⟩
set_option maxHeartbeats 1000000 in
set_option maxRecDepth 20000 in
theorem ins_room (w : World) {b o n cap i : Nat} {l : List (Nat × Nat)} (h : RowO w 77 2 (.slice (some ⟨b, o, none⟩) n cap) n (vr l)) (hl : l.length = n) (hn : n ≤ 1073741824) (hi : i < n) (hroom : n + 1 ≤ cap)
    (r : Nat × Nat) (vb : Nat) (hvb : w.heap[vb]? = some (.cells (rC2 r) 77 (0, 0))) (hne : vb ≠ b) :
    Calls Tryz.prog 122 #[.slice (some ⟨b, o, none⟩) n cap, .int .i64 (i : Int), .slice (some ⟨vb, 0, none⟩) 1 1] w fun e w' =>
      ∃ v', e = .returned v' ∧ RowO w' 77 2 v' (n + 1) (vr (l.take i ++ [r] ++ l.drop i)) ∧ KeepP (fun k => k = b) w w' ∧ v'.ownBlock = some b := by
  obtain ⟨pre, post, q1, q2, q3, q4, q5, q6⟩ := blk_of h
  have hR : (Tryz.prog.info? 77).map (·.size) = some 2 := by kernel_rfl
  have e0 : l = l.take i ++ l.drop i := (List.take_append_drop i l).symm
  obtain ⟨A, hA⟩ : ∃ A, A = l.take i := ⟨_, rfl⟩
  obtain ⟨B, hB⟩ : ∃ B, B = l.drop i := ⟨_, rfl⟩
  have lA : A.length = i := by rw [hA, List.length_take]; omega
  have lB : B.length = n - i := by rw [hB, List.length_drop]; omega
  rw [← hA, ← hB] at e0 ⊢
  have vA := vr_len A
  have vB := vr_len B
  rw [lA] at vA
  rw [lB] at vB
  have vl : vr l = vr A ++ vr B := by rw [e0, vr_append]
  obtain ⟨i1, hi1⟩ : ∃ i1, i1 = i + 1 := ⟨_, rfl⟩
  obtain ⟨n1, hn1⟩ : ∃ n1, n1 = n + 1 := ⟨_, rfl⟩
  have s1 : ∀ W, (Instr.sliceAt 70 (.slice (some ⟨b, o, none⟩) n cap) none (some (.int .i64 (n1 : Int))) none).run Tryz.prog W = _ := sl_hi 70 b o n cap n1 Tryz.underlying70 hR (by omega)
  have s2 : ∀ W, (Instr.sliceAt 70 (.slice (some ⟨b, o, none⟩) n1 cap) (some (.int .i64 (i1 : Int))) none none).run Tryz.prog W = _ := sl_lo 70 b o n1 cap i1 Tryz.underlying70 hR (by omega) (by omega)
  have s3 : ∀ W, (Instr.sliceAt 70 (.slice (some ⟨b, o, none⟩) n1 cap) (some (.int .i64 (i : Int))) none none).run Tryz.prog W = _ := sl_lo 70 b o n1 cap i Tryz.underlying70 hR (by omega) (by omega)
  have s0 : ∀ W, (Instr.sliceAt 70 (.slice (some ⟨b, o, none⟩) n cap) (some (.int .i64 (i : Int))) none none).run Tryz.prog W = _ := sl_lo 70 b o n cap i Tryz.underlying70 hR (by omega) (by omega)
  -- the first copy: in the drawn region's world
  obtain ⟨w1, r1, g1, k1⟩ := copy_at (P := Tryz.prog) w.drew 70 70 3 Tryz.underlying70 hR pre ((vr A ++ vr B ++ post).take (i1 * 2)) ((vr A ++ vr B ++ post).drop (i1 * 2)) b o cap i1 (n1 - i1) (cap - i1) q1 (by rw [List.length_take, List.length_append, List.length_append]; omega)
    (by show w.heap[b]? = _; rw [q6, List.append_assoc pre (List.take _ _), List.take_append_drop, vl, List.append_assoc]) (some ⟨b, cutO o cap i 2, none⟩) (n1 - i) (cap - i) (n - i) (vr B) vB (by omega)
    (by unfold cutO; rw [if_neg (by omega)]; exact src_row (t := 77) (A := pre ++ vr A) (B := vr B) (C := post) (by show w.heap[b]? = _; rw [q6, vl]; simp only [List.append_assoc]) (by rw [List.length_append, q1, vA])) (by simp only [Nat.min_def]; split <;> omega) (by rw [List.length_drop, List.length_append, List.length_append]; omega) (vr_one _)
  obtain ⟨w2, r2, g2, k2⟩ := copy_at (P := Tryz.prog) w1 70 69 3 Tryz.underlying70 hR pre (vr A) (((vr B ++ post).take 2) ++ (vr B ++ ((vr A ++ vr B ++ post).drop (i1 * 2)).drop ((n - i) * 2))) b o cap i (n1 - i) (cap - i) q1 vA
    (by
      rw [g1]
      congr 2
      rw [List.append_assoc (vr A) (vr B) post, List.take_append, vA, List.take_of_length_le (l := vr A) (by omega), show i1 * 2 - i * 2 = 2 by omega]
      simp only [List.append_assoc]) (some ⟨vb, 0, none⟩) 1 1 1 (vr [r]) rfl (by omega) (src_one (blk_keep k1 hvb hne)) (by simp only [Nat.min_def]; split <;> omega) (by rw [List.length_append, List.length_append, vB]; omega) (vr_one _)
  have HOV := veil (apart_run w b (cutO o cap i1 2) (n1 - i1) (cap - i1) vb 1 1 (pre ++ vr l ++ post).toArray (rC2 r) q6 hvb (fun e => hne e.symm) (by simp only [List.size_toArray, List.length_append, q2]; omega))
  have hfin : RowO w2 77 2 (.slice (some ⟨b, o, none⟩) n1 cap) n1 (vr (A ++ [r] ++ B)) := by
    refine of_blk (pre := pre) (post := ((vr A ++ vr B ++ post).drop (i1 * 2)).drop ((n - i) * 2)) q1 (by rw [vr_len, List.length_append, List.length_append, lA, lB]; simp; omega) (by omega) q4 (by rw [List.length_drop, List.length_drop, List.length_append, List.length_append]; omega) ?_
    rw [g2]
    congr 2
    rw [vr_cut, List.drop_left' (by rw [List.length_take, List.length_append, vB]; omega)]
    simp only [List.append_assoc]
  have HF := veil hfin
  have HK := veil (show KeepP (fun k => k = b) w w2 from ((KeepP.of_below (Below.refl _ w).drew).trans k1).trans k2)
  have n0 : ¬ ((i : Int) = (n : Int)) := by omega
  have n2 : ¬ ((cap : Int) < (n1 : Int)) := by omega
  have w3 : IntKind.i64.wrap ((n : Int) + 1) = (n1 : Int) := by rw [IntKind.wrap_i64]; omega
  have w4 : IntKind.i64.wrap ((i : Int) + 1) = (i1 : Int) := by rw [IntKind.wrap_i64]; omega
  have HI := veil (show i1 = i + 1 ∧ n1 = n + 1 from ⟨hi1, hn1⟩)
  rw [← hn1]
  clear hi1 hn1 g1 g2 k1 k2 hfin q1 q2 q3 q4 q5 q6 h hvb vl e0 hA hB lA lB vA vB hl hn hi hroom
  go_enter Tryz.func122, Tryz.ntmps122
  go_wp2_with (simp only [HOV.out])
  go_region_law (refine step_copy_runI rfl _ _ 70 70 rfl _ _ (by kernel_rfl) (by kernel_rfl) r1 ?_)
  go_wp2_with (at_builtin; refine wpList_copy_runI _ rfl _ _ 70 69 rfl _ _ rfl rfl r2 ?_)
  go_ret
  exact ⟨_, rfl, HF.out, HK.out, rfl⟩
end Sr
end Go.Proofs.YtehadfidenejdaaGreatDoor

/-! slices.Insert of one run, where there is no room: a new row. And all its ways together. -/
namespace Go.Proofs.YtehadfidenejdaaGreatDoor
open Go Go.RowKit

namespace Sr
set_option maxHeartbeats 1000000 in
set_option maxRecDepth 20000 in
theorem ins_grow (w : World) {b o n cap i : Nat} {l : List (Nat × Nat)} (h : RowO w 77 2 (.slice (some ⟨b, o, none⟩) n cap) n (vr l)) (hl : l.length = n) (hn : n ≤ 1073741824) (hi : i < n) (hroom : cap < n + 1)
    (r : Nat × Nat) (vb : Nat) (hvb : w.heap[vb]? = some (.cells (rC2 r) 77 (0, 0))) :
    Calls Tryz.prog 122 #[.slice (some ⟨b, o, none⟩) n cap, .int .i64 (i : Int), .slice (some ⟨vb, 0, none⟩) 1 1] w fun e w' =>
      ∃ v', e = .returned v' ∧ RowO w' 77 2 v' (n + 1) (vr (l.take i ++ [r] ++ l.drop i)) ∧ KeepP (fun k => k = b) w w' ∧ v'.ownBlock = some w.heap.size := by
  have hbw : b < w.heap.size := h.lt b rfl
  have hvw : vb < w.heap.size := by
    rcases Nat.lt_or_ge vb w.heap.size with q | q
    · exact q
    · rw [Array.getElem?_eq_none q] at hvb; cases hvb
  obtain ⟨pre, post, q1, q2, q3, q4, q5, q6⟩ := blk_of h
  have hR : (Tryz.prog.info? 77).map (·.size) = some 2 := by kernel_rfl
  obtain ⟨i0, z1, z2, z3, z4⟩ := run_info
  have e0 : l = l.take i ++ l.drop i := (List.take_append_drop i l).symm
  obtain ⟨A, hA⟩ : ∃ A, A = l.take i := ⟨_, rfl⟩
  obtain ⟨B, hB⟩ : ∃ B, B = l.drop i := ⟨_, rfl⟩
  have lA : A.length = i := by rw [hA, List.length_take]; omega
  have lB : B.length = n - i := by rw [hB, List.length_drop]; omega
  rw [← hA, ← hB] at e0 ⊢
  have vA := vr_len A
  have vB := vr_len B
  rw [lA] at vA
  rw [lB] at vB
  have vl : vr l = vr A ++ vr B := by rw [e0, vr_append]
  obtain ⟨i1, hi1⟩ : ∃ i1, i1 = i + 1 := ⟨_, rfl⟩
  obtain ⟨n1, hn1⟩ : ∃ n1, n1 = n + 1 := ⟨_, rfl⟩
  obtain ⟨k, hk⟩ : ∃ k, k = n1 - i := ⟨_, rfl⟩
  have q6' : w.heap[b]? = some (.cells (pre ++ vr A ++ (vr B ++ post)).toArray 77 (0, 0)) := by rw [q6, vl]; simp only [List.append_assoc]
  obtain ⟨w1, Z, cap', r1, c1, c2, g1, c3, k1, u1⟩ := grow_any (P := Tryz.prog) w 70 3 70 i0 _ .i64 Tryz.underlying70 Tryz.underlying3 z1 z2 z3 rfl (by decide) pre (vr A) (vr B ++ post) b o i cap k q1 vA q6' (by omega) (by omega) (by unfold maxLen; omega) (by rw [z4]; omega)
  rw [show i + k = n1 by omega] at r1 c1
  obtain ⟨nb, hnb⟩ : ∃ nb, nb = w.heap.size := ⟨_, rfl⟩
  rw [← hnb] at r1 g1 hbw hvw u1 ⊢
  have s0 : ∀ W, (Instr.sliceAt 70 (.slice (some ⟨b, o, none⟩) n cap) (some (.int .i64 (i : Int))) none none).run Tryz.prog W = _ := sl_lo 70 b o n cap i Tryz.underlying70 hR (by omega) (by omega)
  have s1 : ∀ W, (Instr.sliceAt 70 (.slice (some ⟨b, o, none⟩) n cap) none (some (.int .i64 (i : Int))) none).run Tryz.prog W = _ := sl_hi 70 b o n cap i Tryz.underlying70 hR (by omega)
  have s2 : ∀ W, (Instr.sliceAt 70 (.slice (some ⟨nb, 0, none⟩) n1 cap') (some (.int .i64 (i : Int))) none none).run Tryz.prog W = _ := sl_lo 70 nb 0 n1 cap' i Tryz.underlying70 hR (by omega) (by omega)
  have s3 : ∀ W, (Instr.sliceAt 70 (.slice (some ⟨nb, 0, none⟩) n1 cap') (some (.int .i64 (i1 : Int))) none none).run Tryz.prog W = _ := sl_lo 70 nb 0 n1 cap' i1 Tryz.underlying70 hR (by omega) (by omega)
  have b1 : w1.heap[b]? = some (.cells (pre ++ vr A ++ (vr B ++ post)).toArray 77 (0, 0)) := by rw [k1.block b (by omega) (by simp)]; exact q6'
  have v1 : w1.heap[vb]? = some (.cells (rC2 r) 77 (0, 0)) := by rw [k1.block vb (by omega) (by simp)]; exact hvb
  obtain ⟨w2, r2, g2, k2⟩ := copy_at (P := Tryz.prog) w1 70 69 3 Tryz.underlying70 hR [] (vr A) Z nb 0 cap' i (n1 - i) (cap' - i) rfl vA g1 (some ⟨vb, 0, none⟩) 1 1 1 (vr [r]) rfl (by omega) (src_one v1) (by simp only [Nat.min_def]; split <;> omega) (by omega) (vr_one _)
  have b2 := blk_keep k2 b1 (by omega)
  obtain ⟨w3, r3, g3, k3⟩ := copy_at (P := Tryz.prog) w2.drew 70 70 3 Tryz.underlying70 hR [] (vr A ++ vr [r]) (Z.drop (1 * 2)) nb 0 cap' i1 (n1 - i1) (cap' - i1) rfl (by rw [List.length_append, vA, vr_len]; simp; omega)
    (by show w2.heap[nb]? = _; rw [g2]; simp only [List.append_assoc, List.nil_append]) (some ⟨b, cutO o cap i 2, none⟩) (n - i) (cap - i) (n - i) (vr B) vB (by omega)
    (by unfold cutO; rw [if_neg (by omega)]; exact src_row (t := 77) (A := pre ++ vr A) (B := vr B) (C := post) (by show w2.heap[b]? = _; rw [b2]; simp only [List.append_assoc]) (by rw [List.length_append, q1, vA])) (by simp only [Nat.min_def]; split <;> omega) (by rw [List.length_drop]; omega) (vr_one _)
  have hfin : RowO w3 77 2 (.slice (some ⟨nb, 0, none⟩) n1 cap') n1 (vr (A ++ [r] ++ B)) := by
    refine of_blk (pre := []) (post := (Z.drop (1 * 2)).drop ((n - i) * 2)) rfl (by rw [vr_len, List.length_append, List.length_append, lA, lB]; simp; omega) c1 c2 (by rw [List.length_drop, List.length_drop]; omega) ?_
    rw [g3]
    congr 2
    rw [vr_cut]
    simp only [List.append_assoc]
  have HF := veil hfin
  have HK := veil (show KeepP (fun k => k = b) w w3 from onto (onto (onto (k1.mono (fun _ h => h.elim)) k2 (fun q hq e => by omega)) (keep_drew (fun _ => False) _) (fun _ _ h => h.elim)) k3 (fun q hq e => by omega))
  have n0 : ¬ ((i : Int) = (n : Int)) := by omega
  have n2 : (cap : Int) < (n1 : Int) := by omega
  have w3 : IntKind.i64.wrap ((n : Int) + 1) = (n1 : Int) := by rw [IntKind.wrap_i64]; omega
  have w4 : IntKind.i64.wrap ((i : Int) + 1) = (i1 : Int) := by rw [IntKind.wrap_i64]; omega
  have w5 : IntKind.i64.wrap ((n1 : Int) - (i : Int)) = (k : Int) := by rw [IntKind.wrap_i64]; omega
  rw [← hn1]
  clear hk hi1 hn1 g1 g2 g3 k1 k2 k3 b1 b2 v1 hfin q1 q2 q3 q4 q5 q6 q6' h hvb vl e0 hA hB lA lB vA vB hl hn hi hroom c1 c2 c3 z1 z2 z3 z4 hnb hbw hvw u1
  go_enter Tryz.func122, Tryz.ntmps122
  go_wp2_with (at_builtin; first
    | refine Lib.wpList_append_run _ rfl _ _ _ _ rfl _ _ rfl rfl _ _ r1 ?_
    | refine wpList_copy_runI _ rfl _ _ 70 69 rfl _ _ rfl rfl r2 ?_)
  go_region_law (refine step_copy_runI rfl _ _ 70 70 rfl _ _ (by kernel_rfl) (by kernel_rfl) r3 ?_)
  go_wp2
  go_ret
  exact ⟨_, rfl, HF.out, HK.out, rfl⟩
/-- slices.Insert of one run, at any place. -/
theorem ins_any (w : World) {v : Value} {n i : Nat} {l : List (Nat × Nat)} (h : RowO w 77 2 v n (vr l)) (hl : l.length = n) (hn : n ≤ 1073741824) (hi : i ≤ n) (r : Nat × Nat) (vb : Nat)
    (hvb : w.heap[vb]? = some (.cells (rC2 r) 77 (0, 0))) (hne : v.ownBlock ≠ some vb) :
    Calls Tryz.prog 122 #[v, .int .i64 (i : Int), .slice (some ⟨vb, 0, none⟩) 1 1] w fun e w' =>
      ∃ v', e = .returned v' ∧ RowO w' 77 2 v' (n + 1) (vr (l.take i ++ [r] ++ l.drop i)) ∧ KeepP (fun b => v.ownBlock = some b) w w' ∧ Stay v v' w := by
  by_cases hin : i = n
  · subst hin
    rw [List.take_of_length_le (by omega), List.drop_eq_nil_of_le (by omega), List.append_nil]
    exact ins_end w h hn r vb hvb
  · obtain ⟨va, vc, rfl, hnc, hcm⟩ := h.shape
    rcases h.2 with ⟨h3, rfl⟩ | ⟨g, o, cap, cur, h3, h4, h5, h6, h7, h8⟩
    · omega
    · injection h3 with e1 e2 e3
      subst e1 e3
      have hvg : vb ≠ g := fun e => hne (by rw [e]; rfl)
      by_cases hroom : n + 1 ≤ vc
      · refine (ins_room w h hl hn (by omega) hroom r vb hvb hvg).mono ?_
        rintro e' w' ⟨v', rfl, a1, a2, a3⟩
        refine ⟨v', rfl, a1, a2.mono (fun k e => by rw [e]; rfl), fun k hk => ?_⟩
        rw [a3] at hk
        exact .inl hk
      · refine (ins_grow w h hl hn (by omega) (by omega) r vb hvb).mono ?_
        rintro e' w' ⟨v', rfl, a1, a2, a3⟩
        refine ⟨v', rfl, a1, a2.mono (fun k e => by rw [e]; rfl), fun k hk => ?_⟩
        rw [a3] at hk
        injection hk with hk
        exact .inr (by omega)
end Sr
end Go.Proofs.YtehadfidenejdaaGreatDoor

/-! slices.Replace of some runs: the walk of the library's own text, where the last ones are replaced. -/
namespace Go.Proofs.YtehadfidenejdaaGreatDoor
open Go Go.RowKit

namespace Sr
/-- What is put in, in a block of its own. -/
structure VS (w : World) (b : Nat) (sa : Option Addr) (m c : Nat) (vs : List (Nat × Nat)) : Prop where
  len : vs.length = m
  row : RowO w 77 2 (.slice sa m c) m (vr vs)
  ne : ∀ k, (Value.slice sa m c).ownBlock = some k → k ≠ b
theorem VS.src {w : World} {b m c : Nat} {sa : Option Addr} {vs : List (Nat × Nat)} (h : VS w b sa m c vs) : Src w sa m (vr vs) := by
  rcases h.row.2 with ⟨h1, h2⟩ | ⟨g, o, cap, cur, h1, _⟩
  · injection h1 with e1 e2 e3
    subst e1 e2
    exact .inl ⟨rfl, rfl, by have := h.len; rw [List.length_eq_zero_iff.1 this]; rfl⟩
  · injection h1 with e1 e2 e3
    subst e1
    refine .inr ⟨_, rfl, fun j v hj => ?_⟩
    obtain ⟨g', o', q1, q2⟩ := h.row.cells j v hj
    injection q1 with q1
    injection q1 with q1 q3
    subst q1 q3
    rw [Addr.add_mid]
    exact q2
theorem VS.keep {w w' : World} {b m c : Nat} {sa : Option Addr} {vs : List (Nat × Nat)} (h : VS w b sa m c vs) (hk : KeepP (fun k => k = b) w w') : VS w' b sa m c vs :=
  ⟨h.len, h.row.same (fun k e => hk.block k (h.row.lt k e) (h.ne k e)), h.ne⟩
theorem VS.drew {w : World} {b m c : Nat} {sa : Option Addr} {vs : List (Nat × Nat)} (h : VS w b sa m c vs) (q : Nat) : VS (w.drewN q) b sa m c vs :=
  ⟨h.len, h.row.same (fun _ _ => rfl), h.ne⟩
/-- What is appended where there is room. -/
theorem app_room {P : Program} {e : TypeId} {z : Nat} (w : World) (t t' ty : TypeId) (i0 : TypeInfo) (ht : P.underlying t = some (.slice e)) (ht' : P.underlying t' = some (.slice e)) (hi : P.info? e = some i0) (hsize : i0.size = z)
    (pre X Y : List Value) (g o cap i : Nat) (hpre : pre.length = o) (hX : X.length = i * z) (hg : w.heap[g]? = some (.cells (pre ++ X ++ Y).toArray e (0, 0)))
    (sa : Option Addr) (m c : Nat) (cs : List Value) (hcs : cs.length = m * z) (hsrc : Src w sa m cs) (hroom : i + m ≤ cap) (hY : m * z ≤ Y.length) (h1 : ∀ v ∈ cs, v.oneCell' = true) :
    ∃ w', (Builtin.append_ #[t, t'] ty #[.slice (some ⟨g, o, none⟩) i cap, .slice sa m c]).run P w = .ok (.slice (some ⟨g, o, none⟩) (i + m) cap) w' ∧
      w'.heap[g]? = some (.cells (pre ++ X ++ (cs ++ Y.drop (m * z))).toArray e (0, 0)) ∧ KeepP (fun b => b = g) w w' := by
  rw [append_types w t t' ty e ht ht']
  rcases hsrc with ⟨rfl, rfl, rfl⟩ | ⟨a, rfl, hc⟩
  · refine ⟨w, ?_, by simpa using hg, KeepP.refl _ w⟩
    have : i ≤ cap := by omega
    simp [Builtin.append_, run_underlying ht, sizeOf, typeInfo, hi, Builtin.lenOf, Builtin.firstCells, this, storeCells]
  · subst hsize
    have hA : (pre ++ X).length = o + i * i0.size := by rw [List.length_append, hpre, hX]
    have hr := run_append_roomO (P := P) w t ty e e i0 ht hi g o i cap (pre ++ X ++ Y).toArray hg a m c cs hcs hc h1 hroom (by simp only [List.size_toArray]; rw [List.length_append, hA, hcs]; omega)
    refine ⟨_, hr, ?_, KeepP.setRow (st := fun b => b = g) rfl _ _⟩
    rw [setRow_heap w g _ _ e _ hg]
    show some (Obj.cells ((pre ++ X ++ Y).take (o + i * i0.size) ++ cs ++ (pre ++ X ++ Y).drop (o + i * i0.size + cs.length)).toArray e (0, 0)) = _
    rw [List.take_left' hA, ← List.drop_drop, List.drop_left' hA, hcs, List.append_assoc (pre ++ X)]
theorem wpList_clear_run {P : Program} (w : World) {ops : Array Oper} {rest : List Oper} {o : Oper} {a : Act} {Q : Exit → Act → World → Prop} (hgd : o.guard = none) (s : Operand) (t : TypeId)
    (ho : o.op = .call { callee := .builtin .clear, args := #[s], argTypes := #[t] }) (vs : Value) (hs : a.eval s = vs)
    (v' : Value) (w' : World) (hr : (Builtin.clear_ #[t] o.type #[vs]).run P w = .ok v' w') (h : wpList P ops Q rest (a.put o.dst v') w') : wpList P ops Q (o :: rest) a w := by
  refine wpList_plain hgd fun _ hK => ?_
  unfold Oper.wp execOp
  simp only [ho, resolve, invoke, builtin, Sem.run_bind, Sem.run_pure, Result.andThen_ok, List.map_toArray, List.map_cons, List.map_nil, hs, hr]
  exact hK _ _ h
theorem run_zero (w : World) : (zeroValue 77).run Tryz.prog w = .ok (.agg #[.int .u64 0, .int .u64 0]) w := by
  obtain ⟨i0, h1, h2, _⟩ := run_info
  simp [zeroValue, typeInfo, h1, h2]
set_option maxHeartbeats 1000000 in
set_option maxRecDepth 20000 in
/-- The last ones, where there is room. -/
theorem rep_tail (w : World) {b o n cap i : Nat} {l : List (Nat × Nat)} (h : RowO w 77 2 (.slice (some ⟨b, o, none⟩) n cap) n (vr l)) (hl : l.length = n) (hi : i < n)
    {sa : Option Addr} {m c : Nat} {vs : List (Nat × Nat)} (hv : VS w b sa m c vs) (hroom : i + m ≤ cap) :
    Calls Tryz.prog 91 #[.slice (some ⟨b, o, none⟩) n cap, .int .i64 (i : Int), .int .i64 (n : Int), .slice sa m c] w fun e w' =>
      ∃ v', e = .returned v' ∧ RowO w' 77 2 v' (i + m) (vr (l.take i ++ vs)) ∧ KeepP (fun k => k = b) w w' ∧ v'.ownBlock = some b := by
  obtain ⟨pre, post, q1, q2, q3, q4, q5, q6⟩ := blk_of h
  have hR : (Tryz.prog.info? 77).map (·.size) = some 2 := by kernel_rfl
  obtain ⟨i0, z1, z2, z3, z4⟩ := run_info
  have vs2 := vr_len vs
  rw [hv.len] at vs2
  have e0 : l = l.take i ++ l.drop i := (List.take_append_drop i l).symm
  obtain ⟨A, hA⟩ : ∃ A, A = l.take i := ⟨_, rfl⟩
  obtain ⟨B, hB⟩ : ∃ B, B = l.drop i := ⟨_, rfl⟩
  have lA : A.length = i := by rw [hA, List.length_take]; omega
  have lB : B.length = n - i := by rw [hB, List.length_drop]; omega
  rw [← hA]
  rw [← hA, ← hB] at e0
  have vA := vr_len A
  have vB := vr_len B
  rw [lA] at vA
  rw [lB] at vB
  have vl : vr l = vr A ++ vr B := by rw [e0, vr_append]
  have q6' : w.heap[b]? = some (.cells (pre ++ vr A ++ (vr B ++ post)).toArray 77 (0, 0)) := by rw [q6, vl]; simp only [List.append_assoc]
  obtain ⟨im, him⟩ : ∃ im, im = i + m := ⟨_, rfl⟩
  have s0 : ∀ W, (Instr.sliceAt 70 (.slice (some ⟨b, o, none⟩) n cap) (some (.int .i64 (i : Int))) (some (.int .i64 (n : Int))) none).run Tryz.prog W = _ := sl_lh 70 b o n cap i n Tryz.underlying70 hR (by omega) (by omega)
  have s1 : ∀ W, (Instr.sliceAt 70 (.slice (some ⟨b, o, none⟩) n cap) none (some (.int .i64 (i : Int))) none).run Tryz.prog W = _ := sl_hi 70 b o n cap i Tryz.underlying70 hR (by omega)
  obtain ⟨w1, r1, g1, k1⟩ := app_room (P := Tryz.prog) w 70 69 70 i0 Tryz.underlying70 Tryz.underlying69 z1 z3 pre (vr A) (vr B ++ post) b o cap i q1 vA q6' sa m c (vr vs) vs2 hv.src hroom (by rw [List.length_append, vB]; omega) (vr_one _)
  rw [← him] at r1 ⊢
  have n0 : ¬ ((i : Int) = (n : Int)) := by omega
  by_cases hlt : im < n
  · have s2 : ∀ W, (Instr.sliceAt 70 (.slice (some ⟨b, o, none⟩) n cap) (some (.int .i64 (im : Int))) none none).run Tryz.prog W = _ := sl_lo 70 b o n cap im Tryz.underlying70 hR (by omega) (by omega)
    obtain ⟨w2, Z, r2, hZ, g2, k2⟩ := clear_at (P := Tryz.prog) (z := 2) w1 70 0 _ Tryz.underlying70 run_zero rfl (by decide) pre (vr A ++ vr vs) ((vr B ++ post).drop (m * 2)) b o cap im (n - im) (cap - im) q1 (by rw [List.length_append, vA, vs2]; omega) (by rw [g1]; simp only [List.append_assoc]) (by omega) (by rw [List.length_drop, List.length_append, vB]; omega)
    have hfin : RowO w2 77 2 (.slice (some ⟨b, o, none⟩) im cap) im (vr (A ++ vs)) := by
      refine of_blk (pre := pre) (post := Z ++ ((vr B ++ post).drop (m * 2)).drop ((n - im) * 2)) q1 (by rw [vr_append, List.length_append, vA, vs2]; omega) (by omega) q4 (by rw [List.length_append, List.length_drop, List.length_drop, List.length_append, vB, hZ]; omega) ?_
      rw [g2, vr_append]
    have HF := veil hfin
    have HK := veil (k1.trans k2)
    have n2 : (im : Int) < (n : Int) := by omega
    clear him g1 g2 k1 k2 hfin q1 q2 q3 q4 q5 q6 q6' h hv vl e0 hA hB lA lB vA vB hl hi hroom z1 z2 z3 z4 vs2 hZ hlt
    go_enter Tryz.func91, Tryz.ntmps91
    go_wp2_with (at_builtin; first
      | refine Lib.wpList_append_run _ rfl _ _ _ _ rfl _ _ rfl rfl _ _ r1 ?_
      | refine wpList_clear_run _ rfl _ _ rfl _ rfl _ _ r2 ?_)
    go_ret
    exact ⟨_, rfl, HF.out, HK.out, rfl⟩
  · have hfin : RowO w1 77 2 (.slice (some ⟨b, o, none⟩) im cap) im (vr (A ++ vs)) := by
      refine of_blk (pre := pre) (post := (vr B ++ post).drop (m * 2)) q1 (by rw [vr_append, List.length_append, vA, vs2]; omega) (by omega) q4 (by rw [List.length_drop, List.length_append, vB]; omega) ?_
      rw [g1, vr_append]
      simp only [List.append_assoc]
    have HF := veil hfin
    have HK := veil k1
    have n2 : ¬ ((im : Int) < (n : Int)) := by omega
    clear him g1 k1 hfin q1 q2 q3 q4 q5 q6 q6' h hv vl e0 hA hB lA lB vA vB hl hi hroom z1 z2 z3 z4 vs2 hlt
    go_enter Tryz.func91, Tryz.ntmps91
    go_wp2_with (at_builtin; refine Lib.wpList_append_run _ rfl _ _ _ _ rfl _ _ rfl rfl _ _ r1 ?_)
    go_ret
    exact ⟨_, rfl, HF.out, HK.out, rfl⟩
set_option maxHeartbeats 1000000 in
set_option maxRecDepth 20000 in
/-- The last ones, where there is no room. -/
theorem rep_tail_grow (w : World) {b o n cap i : Nat} {l : List (Nat × Nat)} (h : RowO w 77 2 (.slice (some ⟨b, o, none⟩) n cap) n (vr l)) (hl : l.length = n) (hn : n ≤ 1073741824) (hi : i < n)
    {sa : Option Addr} {m c : Nat} {vs : List (Nat × Nat)} (hv : VS w b sa m c vs) (hm : m ≤ 1073741824) (hroom : cap < i + m) :
    Calls Tryz.prog 91 #[.slice (some ⟨b, o, none⟩) n cap, .int .i64 (i : Int), .int .i64 (n : Int), .slice sa m c] w fun e w' =>
      ∃ v', e = .returned v' ∧ RowO w' 77 2 v' (i + m) (vr (l.take i ++ vs)) ∧ KeepP (fun k => k = b) w w' ∧ Stay (.slice (some ⟨b, o, none⟩) n cap) v' w := by
  have hnc : n ≤ cap := by obtain ⟨_, _, _, _, q3, _⟩ := blk_of h; exact q3
  have hR : (Tryz.prog.info? 77).map (·.size) = some 2 := by kernel_rfl
  obtain ⟨i0, z1, z2, z3, z4⟩ := run_info
  have vs2 := vr_len vs
  rw [hv.len] at vs2
  obtain ⟨im, him⟩ : ∃ im, im = i + m := ⟨_, rfl⟩
  have s0 : ∀ W, (Instr.sliceAt 70 (.slice (some ⟨b, o, none⟩) n cap) (some (.int .i64 (i : Int))) (some (.int .i64 (n : Int))) none).run Tryz.prog W = _ := sl_lh 70 b o n cap i n Tryz.underlying70 hR (by omega) (by omega)
  have s1 : ∀ W, (Instr.sliceAt 70 (.slice (some ⟨b, o, none⟩) n cap) none (some (.int .i64 (i : Int))) none).run Tryz.prog W = _ := sl_hi 70 b o n cap i Tryz.underlying70 hR (by omega)
  obtain ⟨pre, post, q1, q2, q3, q4, q5, q6⟩ := blk_of h
  have hA : RowO w 77 2 (.slice (some ⟨b, o, none⟩) i cap) i (vr (l.take i)) := by
    refine of_blk (pre := pre) (post := vr (l.drop i) ++ post) q1 (by rw [vr_len, List.length_take]; omega) (by omega) q4 (by rw [List.length_append, vr_len, List.length_drop]; omega) ?_
    rw [q6]
    congr 2
    conv => lhs; rw [← List.take_append_drop i l, vr_append]
    simp only [List.append_assoc]
  obtain ⟨v', w1, r1, h2, h3, h4⟩ := app_any (P := Tryz.prog) w 70 69 70 i0 _ 16 Tryz.underlying70 Tryz.underlying69 z1 z2 z3 z4 rfl (by decide) hA sa m c (vr vs) vs2 hv.src (vr_one _) (by unfold maxLen; omega) (by omega)
  rw [← him] at h2 ⊢
  obtain ⟨va, vc, rfl, _, _⟩ := h2.shape
  rw [← vr_append] at h2
  have HF := veil h2
  have HK := veil (h3.mono (st' := fun k => k = b) (fun k e => by injection e with e; exact e.symm))
  have H4 := veil h4
  have n0 : ¬ ((i : Int) = (n : Int)) := by omega
  have n2 : ¬ ((im : Int) < (n : Int)) := by omega
  clear him h2 h3 h4 hA q1 q2 q3 q4 q5 q6 h hv hl hn hi hroom z1 z2 z3 z4 vs2 hm hnc
  go_enter Tryz.func91, Tryz.ntmps91
  go_wp2_with (at_builtin; refine Lib.wpList_append_run _ rfl _ _ _ _ rfl _ _ rfl rfl _ _ r1 ?_)
  go_ret
  refine ⟨.slice va im vc, rfl, HF.out, HK.out, ?_⟩
  rcases H4.out with h5 | ⟨_, h5⟩
  · intro k hk; rw [h5] at hk; exact .inl hk
  · intro k hk; rw [h5 k hk]; exact .inr (Nat.le_refl _)
end Sr
end Go.Proofs.YtehadfidenejdaaGreatDoor

/-! slices.Replace of some runs amid others. (Its first theorem.) -/
namespace Go.Proofs.YtehadfidenejdaaGreatDoor
open Go Go.RowKit

namespace Sr
theorem apart_run2 (w : World) (b p n c vb vo m vc : Nat) (L M : Array Value) (hb : w.heap[b]? = some (.cells L 77 (0, 0))) (hvb : w.heap[vb]? = some (.cells M 77 (0, 0))) (hne : b ≠ vb) (hM : M.size ≠ 0) :
    (callFunc 123 #[.slice (some ⟨b, p, none⟩) n c, .slice (some ⟨vb, vo, none⟩) m vc]).run Tryz.prog w = .ok (.value (.bool false)) w := by
  rw [run_callFunc_extern Tryz.func123 (by kernel_rfl) (by kernel_rfl) (by kernel_rfl) (e := Extern.SlicesOverlaps.overlaps #[69, 69] #[4]) (by kernel_rfl),
    Lib.run_overlaps_apart w 69 4 77 Tryz.underlying69 2 (lgSize (by kernel_rfl)) ⟨b, p, none⟩ ⟨vb, vo, none⟩ n c m vc hne 77 77 L.size M.size (by simp [World.shape?, hb]) (by simp [World.shape?, hvb]) hM (by simp [World.frozen?, hb]) (by simp [World.frozen?, hb])]
  rfl
/-- Some amid others, and their block. -/
structure Mid (w : World) (b o n cap i j : Nat) (l A B C : List (Nat × Nat)) (pre post : List Value) : Prop where
  eq : l = A ++ B ++ C
  lA : A.length = i
  lB : B.length = j - i
  lC : C.length = n - j
  vA : (vr A).length = i * 2
  vB : (vr B).length = (j - i) * 2
  vC : (vr C).length = (n - j) * 2
  lp : pre.length = o
  nc : n ≤ cap
  cm : cap ≤ maxLen
  room : cap * 2 ≤ n * 2 + post.length
  blk : w.heap[b]? = some (.cells (pre ++ vr A ++ (vr B ++ vr C ++ post)).toArray 77 (0, 0))
theorem mid_of {w : World} {b o n cap i j : Nat} {l : List (Nat × Nat)} (h : RowO w 77 2 (.slice (some ⟨b, o, none⟩) n cap) n (vr l)) (hl : l.length = n) (hi : i ≤ j) (hj : j ≤ n) :
    ∃ B pre post, Mid w b o n cap i j l (l.take i) B (l.drop j) pre post := by
  obtain ⟨pre, post, q1, q2, q3, q4, q5, q6⟩ := blk_of h
  have e0 : l = l.take i ++ (l.drop i).take (j - i) ++ l.drop j := by
    conv => lhs; rw [← List.take_append_drop i l, ← List.take_append_drop (j - i) (l.drop i), List.drop_drop, show i + (j - i) = j by omega]
    rw [List.append_assoc]
  have l1 : (l.take i).length = i := by rw [List.length_take]; omega
  have l2 : ((l.drop i).take (j - i)).length = j - i := by rw [List.length_take, List.length_drop]; omega
  have l3 : (l.drop j).length = n - j := by rw [List.length_drop]; omega
  refine ⟨(l.drop i).take (j - i), pre, post, e0, l1, l2, l3, by rw [vr_len, l1], by rw [vr_len, l2], by rw [vr_len, l3], q1, q3, q4, q5, ?_⟩
  rw [q6]
  congr 2
  conv => lhs; rw [e0, vr_append, vr_append]
  simp only [List.append_assoc]
set_option maxHeartbeats 1000000 in
set_option maxRecDepth 20000 in
/-- Some amid others, no fewer than what is put in, where there is room. -/
theorem rep_low (w : World) {b o n cap i j : Nat} {l : List (Nat × Nat)} (h : RowO w 77 2 (.slice (some ⟨b, o, none⟩) n cap) n (vr l)) (hl : l.length = n) (hn : n ≤ 1073741824) (hi : i < j) (hj : j < n)
    {sa : Option Addr} {m c : Nat} {vs : List (Nat × Nat)} (hv : VS w b sa m c vs) (hm : m ≤ 1073741824) (hroom : i + m + (n - j) ≤ cap) (hlow : i + m ≤ j) :
    Calls Tryz.prog 91 #[.slice (some ⟨b, o, none⟩) n cap, .int .i64 (i : Int), .int .i64 (j : Int), .slice sa m c] w fun e w' =>
      ∃ v', e = .returned v' ∧ RowO w' 77 2 v' (i + m + (n - j)) (vr (l.take i ++ vs ++ l.drop j)) ∧ KeepP (fun k => k = b) w w' ∧ v'.ownBlock = some b := by
  have hR : (Tryz.prog.info? 77).map (·.size) = some 2 := by kernel_rfl
  obtain ⟨i0, z1, z2, z3, z4⟩ := run_info
  have vs2 := vr_len vs
  rw [hv.len] at vs2
  have hbw : b < w.heap.size := h.lt b rfl
  obtain ⟨B, pre, post, H⟩ := mid_of h hl (Nat.le_of_lt hi) (Nat.le_of_lt hj)
  generalize hA : l.take i = A at H ⊢
  generalize hC : l.drop j = C at H ⊢
  obtain ⟨h0, lA, lB, lC, vA, vB, vC, q1, q3, q4, q5, q6⟩ := H
  obtain ⟨nj, hnj⟩ : ∃ nj, nj = n - j := ⟨_, rfl⟩
  obtain ⟨im, him⟩ : ∃ im, im = i + m := ⟨_, rfl⟩
  obtain ⟨tot, htot⟩ : ∃ tot, tot = im + nj := ⟨_, rfl⟩
  rw [← hnj] at vC lC ⊢
  rw [← him, ← htot]
  have s0 : ∀ W, (Instr.sliceAt 70 (.slice (some ⟨b, o, none⟩) n cap) (some (.int .i64 (i : Int))) (some (.int .i64 (j : Int))) none).run Tryz.prog W = _ := sl_lh 70 b o n cap i j Tryz.underlying70 hR (by omega) (by omega)
  have s1 : ∀ W, (Instr.sliceAt 70 (.slice (some ⟨b, o, none⟩) n cap) none (some (.int .i64 (i : Int))) none).run Tryz.prog W = _ := sl_hi 70 b o n cap i Tryz.underlying70 hR (by omega)
  have s2 : ∀ W, (Instr.sliceAt 70 (.slice (some ⟨b, o, none⟩) n cap) (some (.int .i64 (j : Int))) none none).run Tryz.prog W = .ok (.slice (some ⟨b, cutO o cap j 2, none⟩) nj (cap - j)) W := fun W => by rw [hnj]; exact sl_lo 70 b o n cap j Tryz.underlying70 hR (by omega) (by omega) W
  have n0 : ¬ ((i : Int) = (j : Int)) := by omega
  have n1 : ¬ ((j : Int) = (n : Int)) := by omega
  have w1 : IntKind.i64.wrap ((i : Int) + (m : Int)) = (im : Int) := by rw [IntKind.wrap_i64]; omega
  have w2 : IntKind.i64.wrap ((im : Int) + (nj : Int)) = (tot : Int) := by rw [IntKind.wrap_i64]; omega
  have HVS := veil hv
  have n2 : ¬ ((cap : Int) < (tot : Int)) := by omega
  have n3 : (im : Int) ≤ (j : Int) := by omega
  have s3 : ∀ W, (Instr.sliceAt 70 (.slice (some ⟨b, o, none⟩) n cap) none (some (.int .i64 (tot : Int))) none).run Tryz.prog W = _ := sl_hi 70 b o n cap tot Tryz.underlying70 hR (by omega)
  have s4 : ∀ W, (Instr.sliceAt 70 (.slice (some ⟨b, o, none⟩) tot cap) (some (.int .i64 (i : Int))) none none).run Tryz.prog W = _ := sl_lo 70 b o tot cap i Tryz.underlying70 hR (by omega) (by omega)
  have s5 : ∀ W, (Instr.sliceAt 70 (.slice (some ⟨b, o, none⟩) tot cap) (some (.int .i64 (im : Int))) none none).run Tryz.prog W = _ := sl_lo 70 b o tot cap im Tryz.underlying70 hR (by omega) (by omega)
  have s6 : ∀ W, (Instr.sliceAt 70 (.slice (some ⟨b, o, none⟩) n cap) (some (.int .i64 (tot : Int))) none none).run Tryz.prog W = _ := sl_lo 70 b o n cap tot Tryz.underlying70 hR (by omega) (by omega)
  have key : ∀ q, ∃ w1 w2 w3, (Builtin.copy_ #[70, 69] 3 #[.slice (some ⟨b, cutO o cap i 2, none⟩) (tot - i) (cap - i), .slice sa m c]).run Tryz.prog (w.drewN q) = .ok (goInt m) w1 ∧
      (Builtin.copy_ #[70, 70] 3 #[.slice (some ⟨b, cutO o cap im 2, none⟩) (tot - im) (cap - im), .slice (some ⟨b, cutO o cap j 2, none⟩) nj (cap - j)]).run Tryz.prog w1.drew = .ok (goInt nj) w2 ∧
      (Builtin.clear_ #[70] 0 #[.slice (some ⟨b, cutO o cap tot 2, none⟩) (n - tot) (cap - tot)]).run Tryz.prog w2 = .ok (.tuple #[]) w3 ∧
      RowO w3 77 2 (.slice (some ⟨b, o, none⟩) tot cap) tot (vr (A ++ vs ++ C)) ∧ KeepP (fun k => k = b) w w3 := by
    intro q
    have hvq := HVS.out.drew q
    obtain ⟨w1, r1, g1, k1⟩ := copy_at (P := Tryz.prog) (w.drewN q) 70 69 3 Tryz.underlying70 hR pre (vr A) (vr B ++ vr C ++ post) b o cap i (tot - i) (cap - i) q1 vA q6 sa m c m (vr vs) vs2 (by omega) hvq.src (by simp only [Nat.min_def]; split <;> omega) (by rw [List.length_append, List.length_append, vB]; omega) (vr_one _)
    have e1 : (vr B ++ vr C ++ post).drop (m * 2) = (vr B).drop (m * 2) ++ vr C ++ post := by
      rw [List.append_assoc, List.drop_append_of_le_length (by rw [vB]; omega), List.append_assoc]
    rw [e1] at g1
    obtain ⟨w2, r2, g2, k2⟩ := copy_at (P := Tryz.prog) w1.drew 70 70 3 Tryz.underlying70 hR pre (vr A ++ vr vs) ((vr B).drop (m * 2) ++ vr C ++ post) b o cap im (tot - im) (cap - im) q1 (by rw [List.length_append, vA, vs2]; omega)
      (by show w1.heap[b]? = _; rw [g1]; simp only [List.append_assoc]) (some ⟨b, cutO o cap j 2, none⟩) nj (cap - j) nj (vr C) vC (by omega)
      (by unfold cutO; rw [if_neg (by omega)]; exact src_row (t := 77) (A := pre ++ vr A ++ vr vs ++ (vr B).drop (m * 2)) (B := vr C) (C := post) (by show w1.heap[b]? = _; rw [g1]; simp only [List.append_assoc]) (by rw [List.length_append, List.length_append, List.length_append, q1, vA, vs2, List.length_drop, vB]; omega)) (by simp only [Nat.min_def]; split <;> omega) (by rw [List.length_append, List.length_append, vC]; omega) (vr_one _)
    obtain ⟨w3, Z, r3, hZ, g3, k3⟩ := clear_at (P := Tryz.prog) (z := 2) w2 70 0 _ Tryz.underlying70 run_zero rfl (by decide) pre (vr A ++ vr vs ++ vr C) (((vr B).drop (m * 2) ++ vr C ++ post).drop (nj * 2)) b o cap tot (n - tot) (cap - tot) q1 (by rw [List.length_append, List.length_append, vA, vs2, vC]; omega) (by rw [g2]; simp only [List.append_assoc]) (by omega) (by rw [List.length_drop, List.length_append, List.length_append, List.length_drop, vB, vC]; omega)
    refine ⟨w1, w2, w3, r1, r2, r3, ?_, ?_⟩
    · refine of_blk (pre := pre) (post := Z ++ (((vr B).drop (m * 2) ++ vr C ++ post).drop (nj * 2)).drop ((n - tot) * 2)) q1 (by rw [vr_len, List.length_append, List.length_append, lA, HVS.out.len, lC]; omega) (by omega) q4 (by rw [List.length_append, List.length_drop, List.length_drop, List.length_append, List.length_append, List.length_drop, vB, vC, hZ]; omega) ?_
      rw [g3, vr_cut]
    · exact ((onto (onto (KeepP.of_below (st := fun k => k = b) (below_drewN (Below.refl _ w) q)) k1 (fun _ _ e => e)) (keep_drew (fun _ => False) _) (fun _ _ h => h.elim)).trans k2).trans k3
  clear hA hC h0 lA lB lC vA vB vC q1 q3 q4 q5 hnj him htot h hl hn hi hj hm vs2 z1 z2 z3 z4 hbw hv q6 hroom hlow
  go_enter Tryz.func91, Tryz.ntmps91
  go_wp2
  go_quiet (fail)
  obtain ⟨wq, hwq⟩ : ∃ wq, wq = w.drewN nq := ⟨_, rfl⟩
  rw [← hwq]
  obtain ⟨wa, wb, wc, r1, r2, r3, hF, hK⟩ := key nq
  rw [← hwq] at r1
  have HF := veil hF
  have HK := veil hK
  clear key hF hK hwq
  go_wp2_with (at_builtin; refine wpList_copy_runI _ rfl _ _ 70 69 rfl _ _ rfl rfl r1 ?_)
  go_region_law (refine step_copy_runI rfl _ _ 70 70 rfl _ _ (by kernel_rfl) (by kernel_rfl) r2 ?_)
  go_wp2_with (at_builtin; refine wpList_clear_run _ rfl _ _ rfl _ rfl _ _ r3 ?_)
  go_ret
  exact ⟨_, rfl, HF.out, HK.out, rfl⟩

end Sr
end Go.Proofs.YtehadfidenejdaaGreatDoor
