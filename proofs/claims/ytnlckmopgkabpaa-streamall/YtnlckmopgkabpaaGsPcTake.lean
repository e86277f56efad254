/-
  What Take answers, and what becomes of the pieces.
-/
import Derived.Test.YtnlckmopgkabpaaGsPcReady
import Derived.Lib.AppendZeros
import Derived.Sort.BigQuietIn
namespace Go.Proofs.Ytnlckmopgkabpaa
open Go Go.RowKit Go.Maps Go.Shelf
attribute [local go_sem] Oper.semAt_some

theorem own_slice8 {w : World} {B n z : Nat} {e : TypeId} {v : Value} {xs : List Value} (h : w.ownsRow B e z v n xs) : ∃ a c, v = .slice a n c ∧ (∀ k, v.ownBlock = some k → B ≤ k) := by
  rcases h.2 with ⟨rfl, rfl⟩ | ⟨g, c, cur, rfl, hb, _⟩
  · exact ⟨none, 0, rfl, (fun k e => by cases e)⟩
  · exact ⟨some ⟨g, 0, none⟩, c, rfl, (fun k e => by cases e; exact hb)⟩
theorem own_from {W W' : World} {B n z : Nat} {e : TypeId} {v : Value} {xs : List Value} (h : W.ownsRow B e z v n xs) (k : ∀ i, B ≤ i → i < W.heap.size → W'.heap[i]? = W.heap[i]?) : W'.ownsRow B e z v n xs := by
  obtain ⟨h1, h2⟩ := h
  refine ⟨h1, ?_⟩
  rcases h2 with h2 | ⟨g', c, cur, h3, h4, h5, h6⟩
  · exact .inl h2
  · exact .inr ⟨g', c, cur, h3, h4, (k g' h4 (Array.getElem?_eq_some_iff.1 h5).1).trans h5, h6⟩

/-- What lies in the call's variables while bytes are taken. -/
structure Tst (w : World) (S : PS) (g m N : Nat) (v : Value) (j : Nat) (W : World) : Prop where
  rp : Row W w.heap.size 29 #[.pointer (some ⟨g, 0, none⟩)]
  rn : Row W (w.heap.size + 1) 3 #[.int .i64 (N : Int)]
  ro : Row W (w.heap.size + 1 + 1) 22 #[v]
  at_ : AtP S (w.heap.size + 1 + 1 + 1) g m j W
  keep : KeepB w.heap.size (Two g m) w W
theorem Tst.change {w W W' : World} {S : PS} {g m N j : Nat} {v : Value} (h : Tst w S g m N v j W) (hg : g < w.heap.size) (hm : m < w.heap.size) (k : KeepB (w.heap.size + 4) (fun _ => False) W W') : Tst w S g m N v j W' := by
  have hb : ∀ i, i < w.heap.size + 4 → W'.heap[i]? = W.heap[i]? := fun i hi => k.block i hi (fun e => e)
  exact ⟨(hb _ (by omega)).trans h.rp, (hb _ (by omega)).trans h.rn, (hb _ (by omega)).trans h.ro, ⟨(hb _ (by omega)).trans h.at_.box, h.at_.ok.same (hb _ (by omega)) (hb _ (by omega))⟩,
    h.keep.trans ⟨k.os, k.tape, k.output, k.size, fun i hi _ => hb i (by omega)⟩⟩
theorem KeepB.grown9 {B : Nat} {st : Nat → Prop} {W W' : World} {row : Option Nat} (hg : W.grownBy W' row) (hr : ∀ k, row = some k → B ≤ k ∨ st k) (hB : B ≤ W.heap.size) : KeepB B st W W' := by
  refine ⟨hg.os, hg.tape, hg.output, hg.size, fun k hk hs => hg.block k (by omega) (fun e => ?_)⟩
  rcases hr k e.symm with h | h
  · omega
  · exact hs h
theorem KeepB.weak {B : Nat} {st st' : Nat → Prop} {W W' : World} (h : KeepB B st W W') (hs : ∀ k, k < B → st k → st' k) : KeepB B st' W W' := ⟨h.os, h.tape, h.output, h.size, fun k hk hn => h.block k hk (fun e => hn (hs k hk e))⟩
/-- Another slice is laid. -/
theorem Tst.setOut {w W : World} {S : PS} {g m N j : Nat} {v : Value} (h : Tst w S g m N v j W) (hg : g < w.heap.size) (hm : m < w.heap.size) (v' : Value) : Tst w S g m N v' j (W.setCell ⟨w.heap.size + 1 + 1, 0, none⟩ v') :=
  ⟨h.rp.other (a := ⟨w.heap.size + 1 + 1, 0, none⟩) (show w.heap.size ≠ w.heap.size + 1 + 1 by omega) _, h.rn.other (a := ⟨w.heap.size + 1 + 1, 0, none⟩) (show w.heap.size + 1 ≠ w.heap.size + 1 + 1 by omega) _, h.ro.set 0 _,
    ⟨h.at_.box.other (a := ⟨w.heap.size + 1 + 1, 0, none⟩) (show w.heap.size + 1 + 1 + 1 ≠ w.heap.size + 1 + 1 by omega) _, h.at_.ok.same (Below.heap_setCell _ _ _ _ (show g ≠ w.heap.size + 1 + 1 by omega)) (Below.heap_setCell _ _ _ _ (show m ≠ w.heap.size + 1 + 1 by omega))⟩,
    h.keep.trans (KeepB.setCell (g := w.heap.size + 1 + 1) (.inr (by omega)) _ _ _)⟩
/-- One byte is taken. -/
theorem Tst.next {w W W' : World} {S : PS} {g m N j : Nat} {v : Value} (h : Tst w S g m N v j W) (hg : g < w.heap.size) (hm : m < w.heap.size) (hS : S.Fine) {ts : List By} (hl : Pc.Lie S.f S.read ts) (hj : ts.length = j + 1)
    (hgr : W.grownBy W' (some m)) (hM : MapOk W' m (Pc.mid S (j + 1)).f (Pc.heldN (Pc.mid S (j + 1)))) : Tst w S g m N v (j + 1) (W'.setCell ⟨g, 2, none⟩ (.int .u64 ((S.read + j + 1 : Nat) : Int))) := by
  have hne := h.at_.ok.ne
  have hb : ∀ i, i < W.heap.size → i ≠ m → W'.heap[i]? = W.heap[i]? := fun i hi hn => hgr.block i hi (fun e => hn (by injection e))
  have hc : ∀ i, i < W.heap.size → i ≠ m → i ≠ g → (W'.setCell ⟨g, 2, none⟩ (.int .u64 ((S.read + j + 1 : Nat) : Int))).heap[i]? = W.heap[i]? := fun i hi h1 h2 => (Below.heap_setCell _ _ _ _ h2).trans (hb i hi h1)
  refine ⟨(hc _ h.rp.lt (by omega) (by omega)).trans h.rp, (hc _ h.rn.lt (by omega) (by omega)).trans h.rn, (hc _ h.ro.lt (by omega) (by omega)).trans h.ro, ⟨(hc _ h.at_.box.lt (by omega) (by omega)).trans h.at_.box, ⟨?_, hM.same (Below.heap_setCell _ _ _ _ (Ne.symm hne)), Pc.mid_fine hS hl hj⟩⟩, ?_⟩
  · have r : Row W' g 58 (pcC m (Pc.mid S j)) := (hb g h.at_.ok.row.lt hne).trans h.at_.ok.row
    exact r.set 2 _
  · exact (h.keep.trans (KeepB.grown9 hgr (fun k e => by injection e with e; exact .inr (.inr e.symm)) h.keep.size)).trans (KeepB.setCell (g := g) (.inl (.inl rfl)) _ _ _)
/-- Between two rounds. -/
def TakeI (w : World) (S : PS) (g m N : Nat) (j : Nat) (W : World) : Prop :=
  ∃ v ts, ts.length = j ∧ Pc.Lie S.f S.read ts ∧ j ≤ N ∧ Tst w S g m N v j W ∧ W.ownsRow (w.heap.size + 6) 5 1 v j (vb ts)

theorem TakeI.keep {w A B : World} {S : PS} {g m N j l : Nat} (h : TakeI w S g m N j A) (hg : g < w.heap.size) (hm : m < w.heap.size) (hl : l = w.heap.size + 5) (k : KeepP (fun k => k = l) A B) : TakeI w S g m N j B := by
  obtain ⟨v, ts, h1, h2, h3, h4, h5⟩ := h
  have h6 := h4.at_.box.lt
  exact ⟨v, ts, h1, h2, h3, h4.change hg hm ⟨k.os, k.tape, k.output, k.size, fun i hi _ => k.block i (by omega) (by omega)⟩, own_from h5 (fun i hi1 hi2 => k.block i hi2 (by omega))⟩
/-- One byte more. -/
theorem take_more {w W W4 : World} {S : PS} {g m N j vc : Nat} {va : Option Addr} {v4 : Value} {y : By} {ts : List By} (hg : g < w.heap.size) (hm : m < w.heap.size) (hS : S.Fine) (h : Tst w S g m N (.slice va j vc) j W) (hvb : ∀ k, Value.ownBlock (.slice va j vc) = some k → w.heap.size + 6 ≤ k) (hz : w.heap.size + 6 ≤ W.heap.size)
    (h1 : ts.length = j) (h2 : Pc.Lie S.f S.read ts) (h3 : j < N) (hy : S.f (S.read + j) = some y) (o : Obj) (hown : W4.ownsRow (w.heap.size + 6) 5 1 v4 (j + 1) (vb ts ++ [.int .u8 (v8 y)])) (hgr : (W.alloc o).grownBy W4 (Value.ownBlock (.slice va j vc))) :
    (W4.cell? ⟨w.heap.size + 1 + 1, 0, none⟩ = some (.slice va j vc) ∧ W4.frozen? ⟨w.heap.size + 1 + 1, 0, none⟩ = false) ∧
    (W4.setCell ⟨w.heap.size + 1 + 1, 0, none⟩ v4).cell? ⟨w.heap.size, 0, none⟩ = some (.pointer (some ⟨g, 0, none⟩)) ∧ (W4.setCell ⟨w.heap.size + 1 + 1, 0, none⟩ v4).cell? ⟨g, 1, none⟩ = some (.map (some m)) ∧
    ∃ W6, (∀ ty, ty = 0 → (Builtin.delete_ #[56, 28] ty #[.map (some m), .int .u64 ((S.read + j : Nat) : Int)]).run Try.prog (W4.setCell ⟨w.heap.size + 1 + 1, 0, none⟩ v4) = .ok (.tuple #[]) W6) ∧
      W6.cell? ⟨w.heap.size, 0, none⟩ = some (.pointer (some ⟨g, 0, none⟩)) ∧ W6.cell? ⟨g, 2, none⟩ = some (.int .u64 ((S.read + j : Nat) : Int)) ∧ W6.frozen? ⟨g, 2, none⟩ = false ∧
      KeepB (w.heap.size + 4 + 2) (fun k => k = g ∨ k = m ∨ k = w.heap.size + 1 + 1) W (W6.setCell ⟨g, 2, none⟩ (.int .u64 ((S.read + j + 1 : Nat) : Int))) ∧ TakeI w S g m N (j + 1) (W6.setCell ⟨g, 2, none⟩ (.int .u64 ((S.read + j + 1 : Nat) : Int))) := by
  have k4 : KeepB (w.heap.size + 4 + 2) (fun _ => False) W W4 := (KeepB.of_below (((Below.refl _ W).alloc (Nat.le_refl _) o).mono hz)).trans (KeepB.grown9 hgr (fun k e => .inl (hvb k e)) (by simp; omega))
  have T4 := h.change hg hm (k4.mono (by omega))
  have T5 := T4.setOut hg hm v4
  have hok := T5.at_.ok
  have hmap := hok.map
  rw [← Pc.held_step hS hy] at hmap
  have hcm := hS.come
  have hlt := (hS.held _ (show S.f (S.read + j) ≠ none by rw [hy]; simp)).2
  have hl' : Pc.Lie S.f S.read (ts ++ [y]) := fun i hi => by
    rw [List.length_append, List.length_singleton, h1] at hi
    rcases Nat.lt_or_ge i j with e | e
    · rw [h2 i (by omega)]; unfold gb; rw [List.getElem?_append_left (by omega)]
    · obtain rfl : i = j := by omega
      rw [hy]; unfold gb; rw [← h1]; simp
  have hlen : (ts ++ [y]).length = j + 1 := by rw [List.length_append, h1]; rfl
  obtain ⟨W6, hrun, hM6, hg6⟩ := hmap.drop (f' := (Pc.mid S (j + 1)).f) (k := S.read + j) (b := y) (by omega) ((Pc.mid_at S j).trans hy) (if_pos (show S.read + j < S.read + (j + 1) by omega)) (fun z hz => by
    show (if _ then _ else _) = (if _ then _ else _)
    by_cases c : z < S.read + j
    · rw [if_pos c, if_pos (by omega)]
    · rw [if_neg c, if_neg (by omega)]) 0
  have T7 := T5.next hg hm hS hl' hlen hg6 hM6
  have h6 : ∀ i, i < (W4.setCell ⟨w.heap.size + 1 + 1, 0, none⟩ v4).heap.size → i ≠ m → W6.heap[i]? = (W4.setCell ⟨w.heap.size + 1 + 1, 0, none⟩ v4).heap[i]? := fun i hi hn => hg6.block i hi (fun e => hn (by injection e))
  have r6 : Row W6 g 58 (pcC m (Pc.mid S j)) := (h6 g hok.row.lt hok.ne).trans hok.row
  have q6 : Row W6 w.heap.size 29 #[.pointer (some ⟨g, 0, none⟩)] := (h6 _ T5.rp.lt (by omega)).trans T5.rp
  refine ⟨⟨T4.ro.cell 0, T4.ro.frozen 0⟩, T5.rp.cell 0, hok.cells.2.1, W6, (fun ty e => by subst e; exact hrun), q6.cell 0, r6.cell 2, r6.frozen 2, ?_, v4, ts ++ [y], hlen, hl', h3, T7, ?_⟩
  · have k5 : KeepB (w.heap.size + 4 + 2) (fun k => k = g ∨ k = m ∨ k = w.heap.size + 1 + 1) W4 (W4.setCell ⟨w.heap.size + 1 + 1, 0, none⟩ v4) := KeepB.setCell (g := w.heap.size + 1 + 1) (.inl (.inr (.inr rfl))) _ _ _
    have k6 : KeepB (w.heap.size + 4 + 2) (fun k => k = g ∨ k = m ∨ k = w.heap.size + 1 + 1) (W4.setCell ⟨w.heap.size + 1 + 1, 0, none⟩ v4) W6 := KeepB.grown9 hg6 (fun k e => by injection e with e; exact .inr (.inr (.inl e.symm))) (by have := k4.size; have := k5.size; omega)
    exact (((k4.weak (fun _ _ e => e.elim)).trans k5).trans k6).trans (KeepB.setCell (g := g) (.inl (.inl rfl)) _ _ _)
  · rw [vb_append]
    have o5 : (W4.setCell ⟨w.heap.size + 1 + 1, 0, none⟩ v4).ownsRow (w.heap.size + 6) 5 1 v4 (j + 1) (vb ts ++ vb [y]) := own_from hown (fun i hi _ => Below.heap_setCell _ _ _ _ (show i ≠ w.heap.size + 1 + 1 by omega))
    have o6 : W6.ownsRow (w.heap.size + 6) 5 1 v4 (j + 1) (vb ts ++ vb [y]) := own_from o5 (fun i hi1 hi2 => h6 i hi2 (by omega))
    exact own_from o6 (fun i hi1 hi2 => Below.heap_setCell _ _ _ _ (show i ≠ g by omega))

theorem take_end {w W : World} {S : PS} {g m N j D : Nat} {v : Value} {ts : List By} (nq : Nat) (hg : g < w.heap.size) (hm : m < w.heap.size) (h1 : ts.length = j) (h4 : Tst w S g m N v j W) (h5 : W.ownsRow (w.heap.size + 6) 5 1 v j (vb ts)) (hL : Pc.takeL S.f S.read N = ts) (hD : D = w.heap.size + 4) :
    ((W.drewN nq).putObj D (.deferred none)).ownsRow w.heap.size 5 1 v (Pc.takeL S.f S.read N).length (vb (Pc.takeL S.f S.read N)) ∧ PcOk ((W.drewN nq).putObj D (.deferred none)) g m (Pc.takeS S N) ∧ KeepP (Two g m) w ((W.drewN nq).putObj D (.deferred none)) := by
  have hb : ∀ i, i ≠ D → ((W.drewN nq).putObj D (.deferred none)).heap[i]? = W.heap[i]? := fun i hi => World.putObj_heap_other hi
  have e : Pc.takeS S N = Pc.mid S j := by unfold Pc.takeS; rw [hL, h1]
  rw [hL, h1, e]
  refine ⟨own_low (own_from h5 (fun i hi _ => hb i (by omega))) (by omega), h4.at_.ok.same (hb _ (by omega)) (hb _ (by omega)), h4.keep.os, h4.keep.tape, h4.keep.output, ?_, fun k hk hs => (hb k (by omega)).trans (h4.keep.block k hk hs)⟩
  rw [World.putObj_size]
  exact h4.keep.size

set_option maxRecDepth 100000 in
set_option maxHeartbeats 2000000 in
theorem take_yes (S : PS) (g m N : Nat) (w : World) (h : PcOk w g m S) (hN : N ≤ 9223372036854775807) :
    Calls Try.prog 14 #[.pointer (some ⟨g, 0, none⟩), .int .i64 (N : Int)] w fun e w' => ∃ v, e = .returned (.tuple #[v, .bool (Pc.ended (Pc.takeS S N)), .int .i64 0]) ∧ w'.ownsRow w.heap.size 5 1 v (Pc.takeL S.f S.read N).length (vb (Pc.takeL S.f S.read N)) ∧ PcOk w' g m (Pc.takeS S N) ∧ KeepP (Two g m) w w' := by
  have hg := h.row.lt
  have hm := h.map.lt
  have HS := veil h.fine
  have HO := veil h
  obtain ⟨c0, c1, c2, c3, c4⟩ := h.cells
  have hn0 : decide ((N : Int) < 0) = false := by simp
  clear h c0 c2 c3 c4
  refine (callsIn_wide (n := 5)).1 ?_
  refine callsIn_of_wp_marks Try.func14 rfl trivial ?_ rfl
  simp only [Try.ntmps14, List.size_toArray, List.length_cons, List.length_nil, Nat.reduceAdd, Nat.reduceSub, Array.replicate_succ, Array.replicate_zero, List.push_toArray, List.append_toArray, List.nil_append, List.cons_append]
  gi_wp2_with fail
  have rp0 : Row ((w.alloc (.cells #[.pointer (some ⟨g, 0, none⟩)] 29)).alloc (.cells #[.int .i64 (N : Int)] 3)) w.heap.size 29 #[.pointer (some ⟨g, 0, none⟩)] := (Row.new _ _ _).alloc _
  have rn0 : Row ((w.alloc (.cells #[.pointer (some ⟨g, 0, none⟩)] 29)).alloc (.cells #[.int .i64 (N : Int)] 3)) (w.heap.size + 1) 3 #[.int .i64 (N : Int)] := Row.new1 _ _ _ _
  have b0 : Below w.heap.size w ((w.alloc (.cells #[.pointer (some ⟨g, 0, none⟩)] 29)).alloc (.cells #[.int .i64 (N : Int)] 3)) := ((Below.refl _ w).alloc (Nat.le_refl _) _).alloc (by simp) _
  have hz0 : ((w.alloc (.cells #[.pointer (some ⟨g, 0, none⟩)] 29)).alloc (.cells #[.int .i64 (N : Int)] 3)).heap.size = w.heap.size + 1 + 1 := by simp
  generalize ((w.alloc (.cells #[.pointer (some ⟨g, 0, none⟩)] 29)).alloc (.cells #[.int .i64 (N : Int)] 3)) = w0 at *
  refine ⟨trivial, (callsIn_wide.2 (there_yes w0 g m (b0.cell (p := ⟨g, 1, none⟩) hg |>.trans c1))).mono ?_⟩
  rintro e1 w1 ⟨rfl, rfl⟩
  have cP := rp0.cell 0
  have cN := rn0.cell 0
  gi_wp2_with fail
  refine ⟨trivial, (ready_in _ g _).mono ?_⟩
  rintro e2 w2 ⟨rfl, rfl⟩
  gi_wp2_with fail
  have e3 : (w1.alloc (.cells #[.slice none 0 0] 22)).heap.size = w.heap.size + 1 + 1 + 1 := by rw [World.size_alloc, hz0]
  have T0 : Tst w S g m N (.slice none 0 0) 0 ((w1.alloc (.cells #[.slice none 0 0] 22)).alloc (.cells #[.pointer (some ⟨g, 0, none⟩)] 29)) := by
    refine ⟨(rp0.alloc _).alloc _, (rn0.alloc _).alloc _, ?_, ⟨?_, ?_⟩, ?_⟩
    · have := (Row.new w1 22 #[.slice none 0 0]).alloc (.cells #[.pointer (some ⟨g, 0, none⟩)] 29)
      rw [hz0] at this
      exact this
    · have := Row.new (w1.alloc (.cells #[.slice none 0 0] 22)) 29 #[.pointer (some ⟨g, 0, none⟩)]
      rw [e3] at this
      exact this
    · rw [Pc.mid_zero HS.out]
      exact ((HO.out.below b0).alloc _).alloc _
    · exact KeepB.of_below ((b0.alloc (by omega) _).alloc (by rw [e3]; omega) _)
  have hz2 : ((w1.alloc (.cells #[.slice none 0 0] 22)).alloc (.cells #[.pointer (some ⟨g, 0, none⟩)] 29)).heap.size = w.heap.size + 4 := by rw [World.size_alloc, e3]
  rw [e3] at *
  generalize ((w1.alloc (.cells #[.slice none 0 0] 22)).alloc (.cells #[.pointer (some ⟨g, 0, none⟩)] 29)) = V3 at *
  have HT0 := veil T0
  clear T0 e3 rp0 rn0 b0 hz0 cP cN c1
  refine rangeFunc_breaks (F := Fence.wide) (n := 5) rfl (by decide) (gf := 40) (lb := #[.pointer (some ⟨w.heap.size + 1 + 1 + 1, 0, none⟩)]) rfl trivial (enters_of Try.func40 (by kernel_rfl) rfl) (encs := encP) (fun _ => rfl)
    (fun k => k = g ∨ k = m ∨ k = w.heap.size + 1 + 1) (fun k hk => by rcases hk with rfl | rfl | rfl <;> omega)
    (ready_tells (5 - 1) (by decide) (w.heap.size + 1 + 1 + 1) g m S HS.out _ V3) 0
    (TakeI w S g m N) (TakeI w S g m N N) ?hIR ?hI ?hIs ?h0 (fun x => { tmps := #[.pointer (some ⟨g, 0, none⟩), .int .i64 (N : Int), .pointer (some ⟨w.heap.size, 0, none⟩), .pointer (some ⟨w.heap.size + 1, 0, none⟩), .slice none 0 0, .bool false, .int .i64 0, .pointer (some ⟨w.heap.size + 1 + 1, 0, none⟩), .int .u64 (x.1 : Int), .int .u8 (v8 x.2), .pointer (some ⟨g, 0, none⟩), .bool true, .bool false, .int .i64 (N : Int), .bool false, .pointer (some ⟨g, 0, none⟩), .func (.func 40) #[] #[.pointer (some ⟨w.heap.size + 1 + 1 + 1, 0, none⟩)], .int .u64 (x.1 : Int), .int .u8 (v8 x.2), undef, undef, undef, undef, undef, undef, undef, undef, undef, undef, undef, undef, undef, undef, undef, undef, undef, undef, undef, undef, undef, undef, undef, undef, undef, undef, undef, undef, undef, undef, undef, undef, undef, undef], defers := [] }) ?assign ?body ?done ?stop
  case hIR =>
    rintro s A ⟨v, ts, _, _, _, h4, _⟩
    exact h4.at_
  case hI =>
    rintro s A B hA k
    exact hA.keep hg hm (by omega) k
  case hIs =>
    rintro A B hA k
    exact hA.keep hg hm (by omega) k
  case h0 => exact ⟨.slice none 0 0, [], rfl, (fun j hj => absurd hj (Nat.not_lt_zero _)), Nat.zero_le _, HT0.out, ⟨rfl, .inl ⟨rfl, rfl⟩⟩⟩
  case assign =>
    intro l x W K hK
    unfold encP
    gi_wp2_with fail
    exact hK
  case body =>
    rintro l j ⟨a, y⟩ j' W ⟨hx1, hx2, rfl⟩ ⟨v, ts, h1, h2, h3, h4, h5⟩ hsz
    simp only at hx1 hx2
    have hlt := HS.out.held _ (show S.f (S.read + j) ≠ none by rw [hx2]; simp)
    have hjr : j < 1048576 := by have := HS.out.room; have := HS.out.hi; omega
    have hcm := HS.out.come
    obtain ⟨va, vc, rfl, hvb⟩ := own_slice8 h5
    have cO := h4.ro.cell 0
    have cN := h4.rn.cell 0
    have cP := h4.rp.cell 0
    by_cases hjN : j = N
    · have f0 : ((j : Int) == (N : Int)) = true := by rw [hjN]; simp
      have HI := veil (show TakeI w S g m N N W from ⟨_, ts, h1.trans hjN, h2, Nat.le_refl _, hjN ▸ h4, hjN ▸ h5⟩)
      clear h1 h2 h3 h4 h5 hlt hx1 hx2 hcm hjr hjN
      gi_wp2_with fail
      exact ⟨KeepB.refl _ _ _, HI.out⟩
    · have f0 : ((j : Int) == (N : Int)) = false := by simp; omega
      obtain ⟨i0, hi, hz0, hz1, hz2'⟩ := info_parts (P := Try.prog) (e := 5) (z := .int .u8 0) (size := 1) (bytes := 1) (by kernel_rfl)
      have hmL : j + 1 ≤ maxLen := by unfold maxLen; omega
      have hmB : (j + 1) * 1 ≤ 140737488355328 := by omega
      have hw : IntKind.u64.wrap ((a : Int) + 1) = ((S.read + j + 1 : Nat) : Int) := by rw [IntKind.wrap_u64]; omega
      have HMORE := veil (fun (o : Obj) (W4 : World) (v4 : Value) => take_more (W4 := W4) (v4 := v4) hg hm HS.out h4 hvb (by omega) h1 h2 (by omega) hx2 o)
      rw [← hx1] at HMORE
      have HX1 := veil hx1
      have HOWN := veil h5
      have HB6 := veil (show ∀ o, w.heap.size + 6 ≤ (W.alloc o).heap.size from fun o => by rw [World.size_alloc]; omega)
      have HLIT := veil (show ∀ i u, ([.int .u8 (v8 y)] : List Value)[i]? = some u → (W.alloc (.cells #[.int .u8 (v8 y)] 5)).cell? ((⟨W.heap.size, 0, none⟩ : Addr).add i) = some u from cell_one_new _ _ _)
      have HONE := veil (show ∀ u ∈ ([.int .u8 (v8 y)] : List Value), u.oneCell' = true by simp [Value.oneCell'])
      clear h1 h2 h3 h4 h5 hlt hx1 hx2 hcm hjr hjN hvb
      gi_wp2_with (with_reducible (show wpListIn _ _ _ _ _ (⟨_, Op.call { callee := .builtin .append, args := _, argTypes := _ }, _, _, _, _⟩ :: _) _ _)
                   refine wpListIn_append_own _ rfl _ _ 22 rfl (w.heap.size + 6) 5 i0 (.int .u8 0) 1 1 Try.underlying22 hi hz0 hz1 hz2' rfl (by decide) (.slice va j vc) _ _ rfl (HOWN.out.alloc _) ⟨W.heap.size, 0, none⟩ 1 1 [.int .u8 (v8 y)] rfl rfl HLIT.out HONE.out hmL hmB (HB6.out _) ?_
                   intro v4 W4 hown4 hgrow4 _
                   obtain ⟨⟨c4, f4⟩, cP5, c15, W6, hdel, cP6, c26, f26, k7, i7⟩ := HMORE.out _ _ _ hown4 hgrow4
                   obtain ⟨a4, cap4, rfl, _⟩ := own_slice8 hown4
                   have hdel0 := hdel 0 rfl
                   have K7 := veil k7
                   have I7 := veil i7
                   clear k7 i7 hgrow4 hown4 hdel)
      have e8 : (S.read : Int) + (j : Int) + 1 = ((a + 1 : Nat) : Int) := by have := HX1.out; omega
      rw [e8]
      exact ⟨K7.out, I7.out⟩
  case done =>
    rintro D j W hD hE ⟨v, ts, h1, h2, h3, h4, h5⟩ hK
    have HL := veil (show Pc.takeL S.f S.read N = ts from Pc.take_of h2 (by omega) (.inr (by rw [h1]; exact hE)))
    obtain ⟨va, vc, rfl, hvb⟩ := own_slice8 h5
    have cO := h4.ro.cell 0
    have cP := h4.rp.cell 0
    obtain ⟨d0, d1, d2, d3, d4⟩ := h4.at_.ok.cells
    have HK := veil hK
    have HEND := veil (show ∀ nq, _ from fun nq => take_end nq hg hm h1 h4 h5 HL.out (show D = w.heap.size + 4 by omega))
    have HTK := veil (show Pc.takeS S N = Pc.mid S j by unfold Pc.takeS; rw [HL.out, h1])
    clear hD hE h1 h2 h3 h4 h5 hK hvb d0 d1
    generalize hkn : (Pc.mid S j).known = kn at *
    generalize hrd : (Pc.mid S j).read = rd at *
    generalize hcm : (Pc.mid S j).come = cm at *
    cases kn
    · have HEN := veil (show Pc.ended (Pc.takeS S N) = false by rw [HTK.out]; unfold Pc.ended; rw [hkn]; rfl)
      clear hkn hrd hcm
      gi_wp2_with fail
      gi_quiet (fail)
      gi_wp2_with fail
      refine ⟨by simp, .inl ⟨_, _, rfl, run_takeDeferred HK.out, ?_⟩⟩
      exact ⟨_, results_tmp3 rfl _ _ _, _, by rw [HEN.out]; rfl, HEND.out _⟩
    · have HEN := veil (show Pc.ended (Pc.takeS S N) = ((rd : Int) == (cm : Int)) by
        rw [HTK.out]; unfold Pc.ended; rw [hkn, hrd, hcm, Bool.true_and]
        by_cases c : rd = cm
        · rw [c]; simp
        · rw [beq_false_of_ne c, beq_false_of_ne (fun e => c (by omega))])
      clear hkn hrd hcm
      gi_wp2_with fail
      gi_quiet (fail)
      gi_wp2_with fail
      refine ⟨by simp, .inl ⟨_, _, rfl, run_takeDeferred HK.out, ?_⟩⟩
      exact ⟨_, results_tmp3 rfl _ _ _, _, by rw [HEN.out]; rfl, HEND.out _⟩
  case stop =>
    rintro D W hD ⟨v, ts, h1, h2, h3, h4, h5⟩ hK
    have HL := veil (show Pc.takeL S.f S.read N = ts from Pc.take_of h2 (by omega) (.inl h1))
    obtain ⟨va, vc, rfl, hvb⟩ := own_slice8 h5
    have cO := h4.ro.cell 0
    have cP := h4.rp.cell 0
    obtain ⟨d0, d1, d2, d3, d4⟩ := h4.at_.ok.cells
    have HK := veil hK
    have HEND := veil (show ∀ nq, _ from fun nq => take_end nq hg hm h1 h4 h5 HL.out (show D = w.heap.size + 4 by omega))
    have HTK := veil (show Pc.takeS S N = Pc.mid S N by unfold Pc.takeS; rw [HL.out, h1])
    clear hD h1 h2 h3 h4 h5 hK hvb d0 d1
    generalize hkn : (Pc.mid S N).known = kn at *
    generalize hrd : (Pc.mid S N).read = rd at *
    generalize hcm : (Pc.mid S N).come = cm at *
    cases kn
    · have HEN := veil (show Pc.ended (Pc.takeS S N) = false by rw [HTK.out]; unfold Pc.ended; rw [hkn]; rfl)
      clear hkn hrd hcm
      gi_wp2_with fail
      gi_quiet (fail)
      gi_wp2_with fail
      refine ⟨by simp, .inl ⟨_, _, rfl, run_takeDeferred HK.out, ?_⟩⟩
      exact ⟨_, results_tmp3 rfl _ _ _, _, by rw [HEN.out]; rfl, HEND.out _⟩
    · have HEN := veil (show Pc.ended (Pc.takeS S N) = ((rd : Int) == (cm : Int)) by
        rw [HTK.out]; unfold Pc.ended; rw [hkn, hrd, hcm, Bool.true_and]
        by_cases c : rd = cm
        · rw [c]; simp
        · rw [beq_false_of_ne c, beq_false_of_ne (fun e => c (by omega))])
      clear hkn hrd hcm
      gi_wp2_with fail
      gi_quiet (fail)
      gi_wp2_with fail
      refine ⟨by simp, .inl ⟨_, _, rfl, run_takeDeferred HK.out, ?_⟩⟩
      exact ⟨_, results_tmp3 rfl _ _ _, _, by rw [HEN.out]; rfl, HEND.out _⟩
end Go.Proofs.Ytnlckmopgkabpaa
