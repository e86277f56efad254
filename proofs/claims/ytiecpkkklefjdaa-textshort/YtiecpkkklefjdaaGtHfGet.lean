/-
  What Get answers.
-/
import Derived.Test.YtiecpkkklefjdaaGtHfGetP
import Derived.Test.YtiecpkkklefjdaaGtHfPut
namespace Go.Proofs.Ytiecpkkklefjdaa
open Go Go.RowKit Go.Maps Go.Shelf
attribute [local go_sem] Oper.semAt_some

theorem appIn_run {F : Fence} {n : Nat} {P : Program} {w w' : World} {ops : Array Oper} {rest : List Oper} {o : Oper} {a : Act} {Q : Exit → Act → World → Prop}
    (hg : o.guard = none) (s x : Operand) (t : TypeId) (hop : o.op = Op.call { callee := Callee.builtin Builtin.append, args := #[s, x], argTypes := #[t, t] }) (vs vx v' : Value) (hs : a.eval s = vs) (hx : a.eval x = vx)
    (hrun : (Builtin.append_ #[t, t] o.type #[vs, vx]).run P w = .ok v' w') (h : wpListIn F n P ops Q rest (a.put o.dst v') w') : wpListIn F n P ops Q (o :: rest) a w := by
  refine wpListIn_plain hg fun K hK' => ?_
  unfold Oper.wpIn
  refine ⟨?_, ?_⟩
  · simp [Oper.about, hop, resolve, Target.leads, Sem.run_pure]
  · rw [Oper.semAt_plain F _ _ (by rw [hop]; intro c hc'; cases hc')]
    simp [execOp, hop, resolve, invoke, builtin, hs, hx, hrun, Result.andThen]
    exact hK' _ _ h
/-- What lies there behind 'left = left.with(bit)'. -/
structure GetL (w : World) (Kx m Tx Lx b6 : Nat) (t : List By) (vt : Value) (n1 v1 : Nat) (M : Nat → Prop) (X W : World) : Prop where
  rs : Row W w.heap.size 9 #[.string ⟨#[]⟩]
  re : Row W (w.heap.size + 1) 25 #[.int .i64 0]
  rk : Row W Kx 88 #[.map (some m)]
  map : MapW W m Hf.sym 257
  rt : Row W Tx 22 #[vt]
  own : W.ownsRow (b6 + 2) 5 1 vt t.length (vb t)
  nm : ∀ g, vt.ownBlock = some g → ¬ M g
  rl : Row W Lx 81 #[.int .i64 (n1 : Int), .int .u32 (v1 : Int)]
  lo : ∀ k, M k → b6 ≤ k
  size : b6 + 2 ≤ W.heap.size
  mx : ∀ k, M k → k < W.heap.size
  below : Below w.heap.size w W
  keep : KeepY (b6 + 2) (stGet w Tx Lx) M X W
theorem get_left {w X w7 : World} {Kx m Tx Lx b6 : Nat} {bs : List Bool} {i : Nat} {M : Nat → Prop} (h : GetI w Kx m Tx Lx b6 bs i M X) (hb : GetB w Kx m Tx Lx b6) {t : List By} {vt : Value} {n v : Nat} (h2 : Row X Tx 22 #[vt]) (h3 : X.ownsRow (b6 + 2) 5 1 vt t.length (vb t)) (h4 : ∀ g, vt.ownBlock = some g → ¬ M g) (h5 : Row X Lx 81 #[.int .i64 (n : Int), .int .u32 (v : Int)])
    (hX : b6 + 2 ≤ X.heap.size) (hmx : ∀ k, M k → k < X.heap.size) (hb7 : Below X.heap.size X w7) (n1 v1 : Nat) : GetL w Kx m Tx Lx b6 t vt n1 v1 M X ((w7.setCell ⟨Lx, 0, none⟩ (.int .i64 (n1 : Int))).setCell ⟨Lx, 1, none⟩ (.int .u32 (v1 : Int))) := by
  have hk := hb.bk
  have hm := hb.bm
  have ht := hb.bt
  have hl := hb.bl
  have e1 := hb.kl
  have e2 := hb.tl
  have e3 := hb.ml
  have hs7 := hb7.size
  have hrow : ∀ {g : Nat} {ty : TypeId} {cs : Array Value}, Row X g ty cs → g ≠ Lx → Row ((w7.setCell ⟨Lx, 0, none⟩ (.int .i64 (n1 : Int))).setCell ⟨Lx, 1, none⟩ (.int .u32 (v1 : Int))) g ty cs := fun hr hg => ((hr.below hb7 hr.lt).other (a := ⟨Lx, 0, none⟩) hg _).other (a := ⟨Lx, 1, none⟩) hg _
  have hblk : ∀ g, g < X.heap.size → g ≠ Lx → ((w7.setCell ⟨Lx, 0, none⟩ (.int .i64 (n1 : Int))).setCell ⟨Lx, 1, none⟩ (.int .u32 (v1 : Int))).heap[g]? = X.heap[g]? := fun g hg hne => (Below.heap_setCell _ _ _ g hne).trans ((Below.heap_setCell _ _ _ g hne).trans (hb7.block g hg))
  have hsz : ((w7.setCell ⟨Lx, 0, none⟩ (.int .i64 (n1 : Int))).setCell ⟨Lx, 1, none⟩ (.int .u32 (v1 : Int))).heap.size = w7.heap.size := by simp [World.setCell]
  have hMl : ¬ M Lx := fun e => by have := h.lo _ e; omega
  refine ⟨hrow h.rs (by omega), hrow h.re (by omega), hrow h.rk e1, h.map.same (hblk _ h.map.lt e3), hrow h2 e2, own_blk h3 (fun g hg => hblk g (h3.lt g hg).2 (by have := (h3.lt g hg).1; omega)), h4, ?_, h.lo, by omega, fun k hk => by have := hmx k hk; omega, ?_, ?_⟩
  · have := ((h5.below hb7 h5.lt).set 0 (.int .i64 (n1 : Int))).set 1 (.int .u32 (v1 : Int))
    exact this
  · exact ((h.below.trans (hb7.mono h.below.size)).setCell (p := ⟨Lx, 0, none⟩) (by show w.heap.size ≤ Lx; omega) _).setCell (p := ⟨Lx, 1, none⟩) (by show w.heap.size ≤ Lx; omega) _
  · exact ((KeepY.of_below hb7).trans (KeepY.setCell (st := stGet w Tx Lx) (.inl (.inr (.inr (.inr rfl)))) hMl _ _ _)).trans (KeepY.setCell (st := stGet w Tx Lx) (.inl (.inr (.inr (.inr rfl)))) hMl _ _ _)
theorem get_stop {w X W : World} {Kx m Tx Lx b6 : Nat} {t : List By} {vt : Value} {n1 v1 : Nat} {M : Nat → Prop} (h : GetL w Kx m Tx Lx b6 t vt n1 v1 M X W) (hb : GetB w Kx m Tx Lx b6) {bs : List Bool} (hno : Hf.runG (some ([], 0, 0)) bs = none) :
    KeepY (b6 + 2) (stGet w Tx Lx) M X ((W.setCell ⟨w.heap.size, 0, none⟩ (.string ⟨#[]⟩)).setCell ⟨w.heap.size + 1, 0, none⟩ (.int .i64 5)) ∧ GetS w b6 bs M ((W.setCell ⟨w.heap.size, 0, none⟩ (.string ⟨#[]⟩)).setCell ⟨w.heap.size + 1, 0, none⟩ (.int .i64 5)) := by
  have hk := hb.bk
  have hlo := h.lo
  refine ⟨(h.keep.trans (KeepY.setCell (st := stGet w Tx Lx) (.inl (.inl rfl)) (fun e => by have := hlo _ e; omega) _ _ _)).trans (KeepY.setCell (st := stGet w Tx Lx) (.inl (.inr (.inl rfl))) (fun e => by have := hlo _ e; omega) _ _ _), ?_, ?_, hno, hlo, ?_, ?_⟩
  · exact (h.rs.set 0 (.string ⟨#[]⟩)).other (a := ⟨w.heap.size + 1, 0, none⟩) (show w.heap.size ≠ w.heap.size + 1 by omega) _
  · exact (h.re.other (a := ⟨w.heap.size, 0, none⟩) (show w.heap.size + 1 ≠ w.heap.size by omega) _).set 0 (.int .i64 5)
  · have := h.size
    simp [World.setCell]
    omega
  · exact (h.below.setCell (p := ⟨w.heap.size, 0, none⟩) (Nat.le_refl _) _).setCell (p := ⟨w.heap.size + 1, 0, none⟩) (by show w.heap.size ≤ w.heap.size + 1; omega) _
theorem get_next {w X W : World} {Kx m Tx Lx b6 : Nat} {t : List By} {vt : Value} {n1 v1 : Nat} {M : Nat → Prop} (h : GetL w Kx m Tx Lx b6 t vt n1 v1 M X W) {bs : List Bool} {j : Nat} (hr : Hf.runG (some ([], 0, 0)) (bs.take j) = some (t, n1, v1)) : GetI w Kx m Tx Lx b6 bs j M W :=
  ⟨h.rs, h.re, h.rk, h.map, ⟨t, n1, v1, vt, hr, h.rt, h.own, h.nm, h.rl⟩, h.lo, by have := h.size; omega, h.below⟩
/-- A byte more. -/
theorem get_more {w X W W10 : World} {Kx m Tx Lx b6 : Nat} {t : List By} {vt v4 : Value} {n1 v1 : Nat} {M : Nat → Prop} (h : GetL w Kx m Tx Lx b6 t vt n1 v1 M X W) (hb : GetB w Kx m Tx Lx b6) (o : Obj) (y : By)
    (hown : W10.ownsRow (b6 + 2) 5 1 v4 (t.length + 1) (vb t ++ vb [y])) (hg : (W.alloc o).grownBy W10 vt.ownBlock) (hnew : ∀ g, v4.ownBlock = some g → vt.ownBlock = some g ∨ W.heap.size ≤ g) {bs : List Bool} {j : Nat} (hr : Hf.runG (some ([], 0, 0)) (bs.take j) = some (t ++ [y], 0, 0)) :
    (W10.cell? ⟨Tx, 0, none⟩ = some vt ∧ W10.frozen? ⟨Tx, 0, none⟩ = false) ∧ ((W10.setCell ⟨Tx, 0, none⟩ v4).cell? ⟨Lx, 0, none⟩ = some (.int .i64 (n1 : Int)) ∧ (W10.setCell ⟨Tx, 0, none⟩ v4).frozen? ⟨Lx, 0, none⟩ = false ∧ (W10.setCell ⟨Tx, 0, none⟩ v4).cell? ⟨Lx, 1, none⟩ = some (.int .u32 (v1 : Int)) ∧ (W10.setCell ⟨Tx, 0, none⟩ v4).frozen? ⟨Lx, 1, none⟩ = false) ∧
    KeepY (b6 + 2) (stGet w Tx Lx) M X (((W10.setCell ⟨Tx, 0, none⟩ v4).setCell ⟨Lx, 0, none⟩ (.int .i64 0)).setCell ⟨Lx, 1, none⟩ (.int .u32 0)) ∧ GetI w Kx m Tx Lx b6 bs j M (((W10.setCell ⟨Tx, 0, none⟩ v4).setCell ⟨Lx, 0, none⟩ (.int .i64 0)).setCell ⟨Lx, 1, none⟩ (.int .u32 0)) := by
  have hk := hb.bk
  have hm := hb.bm
  have ht := hb.bt
  have hl := hb.bl
  have e1 := hb.kl
  have e2 := hb.tl
  have e3 := hb.ml
  have e4 := hb.kt
  have e5 := hb.mt
  have hlo := h.lo
  have hsz := h.size
  have hob : ∀ g, vt.ownBlock = some g → b6 + 2 ≤ g ∧ g < W.heap.size := fun g hg => h.own.lt g hg
  have hal : W.heap.size ≤ (W.alloc o).heap.size := by rw [World.size_alloc]; omega
  have hgs := hg.size
  have h10 : ∀ k, k < W.heap.size → (∀ g, vt.ownBlock = some g → k ≠ g) → W10.heap[k]? = W.heap[k]? := fun k hk hn => (hg.block k (by omega) (fun e => hn k e.symm rfl)).trans (Below.heap_alloc W o k hk)
  have hrow : ∀ {g : Nat} {ty : TypeId} {cs : Array Value}, Row W g ty cs → g < b6 → Row W10 g ty cs := fun hr hg' => (h10 _ hr.lt (fun q hq => by have := (hob q hq).1; omega)).trans hr
  have rt := hrow h.rt (by omega)
  have rl := hrow h.rl (by omega)
  have rl1 := rl.other (a := ⟨Tx, 0, none⟩) (Ne.symm e2) v4
  have h4lt : ∀ g, v4.ownBlock = some g → b6 + 2 ≤ g := fun g hg => (hown.lt g hg).1
  have hfin : ∀ {g : Nat} {ty : TypeId} {cs : Array Value}, Row W10 g ty cs → g ≠ Tx → g ≠ Lx → Row (((W10.setCell ⟨Tx, 0, none⟩ v4).setCell ⟨Lx, 0, none⟩ (.int .i64 0)).setCell ⟨Lx, 1, none⟩ (.int .u32 0)) g ty cs := fun hr h1 h2 => ((hr.other (a := ⟨Tx, 0, none⟩) h1 _).other (a := ⟨Lx, 0, none⟩) h2 _).other (a := ⟨Lx, 1, none⟩) h2 _
  have hblk : ∀ g, g ≠ Tx → g ≠ Lx → (((W10.setCell ⟨Tx, 0, none⟩ v4).setCell ⟨Lx, 0, none⟩ (.int .i64 0)).setCell ⟨Lx, 1, none⟩ (.int .u32 0)).heap[g]? = W10.heap[g]? := fun g h1 h2 => (Below.heap_setCell _ _ _ g h2).trans ((Below.heap_setCell _ _ _ g h2).trans (Below.heap_setCell _ _ _ g h1))
  have hMt : ¬ M Tx := fun e => by have := hlo _ e; omega
  have hMl : ¬ M Lx := fun e => by have := hlo _ e; omega
  refine ⟨⟨rt.cell 0, rt.frozen 0⟩, ⟨rl1.cell 0, rl1.frozen 0, rl1.cell 1, rl1.frozen 1⟩, ?_, ?_⟩
  · refine ((((h.keep.trans (KeepY.of_below ((Below.refl _ W).alloc (Nat.le_refl _) o))).trans (KeepY.grown hg (fun g hq => ⟨(hob g hq).1, h.nm g hq⟩))).trans (KeepY.setCell (st := stGet w Tx Lx) (.inl (.inr (.inr (.inl rfl)))) hMt _ _ _)).trans (KeepY.setCell (st := stGet w Tx Lx) (.inl (.inr (.inr (.inr rfl)))) hMl _ _ _)).trans (KeepY.setCell (st := stGet w Tx Lx) (.inl (.inr (.inr (.inr rfl)))) hMl _ _ _)
  · refine ⟨hfin (hrow h.rs (by omega)) (by omega) (by omega), hfin (hrow h.re (by omega)) (by omega) (by omega), hfin (hrow h.rk (by omega)) e4 e1, (h.map.same (h10 _ h.map.lt (fun q hq => by have := (hob q hq).1; omega))).same (hblk _ e5 e3), ⟨t ++ [y], 0, 0, v4, hr, ?_, ?_, ?_, ?_⟩, hlo, ?_, ?_⟩
    · exact ((rt.set 0 v4).other (a := ⟨Lx, 0, none⟩) e2 _).other (a := ⟨Lx, 1, none⟩) e2 _
    · rw [List.length_append, vb_append]
      exact own_blk hown (fun g hg => hblk g (by have := h4lt g hg; omega) (by have := h4lt g hg; omega))
    · intro g hg e
      rcases hnew g hg with c | c
      · exact h.nm g c e
      · have := h.mx g e
        omega
    · exact (rl1.set 0 (.int .i64 0)).set 1 (.int .u32 0)
    · simp [World.setCell]
      omega
    · refine ((Below.setCell (p := ⟨Tx, 0, none⟩) ?_ (by show w.heap.size ≤ Tx; omega) _).setCell (p := ⟨Lx, 0, none⟩) (by show w.heap.size ≤ Lx; omega) _).setCell (p := ⟨Lx, 1, none⟩) (by show w.heap.size ≤ Lx; omega) _
      exact (h.below.alloc h.below.size o).grown hg (by have := h.below.size; omega) (fun g hq => by have := (hob g hq).1; omega)
theorem get_results (tmps : Array Value) (S : Nat) (s : ByteArray) (E : Int) (W : World) (h2 : tmps.getD 2 undef = .pointer (some ⟨S, 0, none⟩)) (h3 : tmps.getD 3 undef = .pointer (some ⟨S + 1, 0, none⟩)) (c2 : W.cell? ⟨S, 0, none⟩ = some (.string s)) (c3 : W.cell? ⟨S + 1, 0, none⟩ = some (.int .i64 E)) :
    (results Try.f37 tmps).run Try.prog W = .ok (.tuple #[.string s, .int .i64 E]) W := by
  have h2' : tmps[2]?.getD undef = .pointer (some ⟨S, 0, none⟩) := by simpa using h2
  have h3' : tmps[3]?.getD undef = .pointer (some ⟨S + 1, 0, none⟩) := by simpa using h3
  simp [results, Try.results37, h2', h3', asAddr, go_sem, c2, c3]
set_option maxHeartbeats 400000 in
theorem get_limit (q : SL) (hs : 1048576 < q.len) (hl : q.len ≤ 9223372036854775807) (w : World) : Calls Try.prog 37 #[.slice q.a q.len q.cap] w fun e w' => e = .returned (.tuple #[.string ⟨#[]⟩, .int .i64 3]) ∧ Below w.heap.size w w' := by
  have h : (q.len : Int) > 1048576 := by omega
  go_enter Try.func37, Try.ntmps37
  go_wp2
  refine bodyPost_ret (get_results _ w.heap.size ⟨#[]⟩ 3 _ rfl rfl (((Row.new w 9 #[.string ⟨#[]⟩]).alloc _).cell 0) ((Row.new1 w _ 25 #[.int .i64 3]).cell 0)) rfl ⟨rfl, ((Below.refl _ w).alloc (Nat.le_refl _) _).alloc (by simp) _⟩

set_option maxRecDepth 100000 in
set_option maxHeartbeats 2000000 in
theorem get_any (q : SL) (w : World) (hq : q.Ok w) (hl : q.len ≤ 1048576) : Calls Try.prog 37 #[.slice q.a q.len q.cap] w fun e w' => ∃ s E, e = .returned (.tuple #[.string s, .int .i64 E]) ∧ (Hf.getT q.b = none ∧ E = 5 ∧ s = ⟨#[]⟩ ∨ ∃ t, Hf.getT q.b = some t ∧ E = 0 ∧ s = strOf t) ∧ Below w.heap.size w w' := by
  have hlim : ¬ ((q.len : Int) > 1048576) := by omega
  have HQ := veil hq
  clear hq
  refine (callsIn_wide (n := 9)).1 ?_
  refine callsIn_of_wp_marks Try.func37 rfl trivial ?_ rfl
  simp only [Try.ntmps37, List.size_toArray, List.length_cons, List.length_nil, Nat.reduceAdd, Nat.reduceSub, Array.replicate_succ, Array.replicate_zero, List.push_toArray, List.append_toArray, List.nil_append, List.cons_append]
  gi_wp2_with fail
  have rs0 : Row ((w.alloc (.cells #[.string ⟨#[]⟩] 9)).alloc (.cells #[.int .i64 0] 25)) w.heap.size 9 #[.string ⟨#[]⟩] := (Row.new _ _ _).alloc _
  have re0 : Row ((w.alloc (.cells #[.string ⟨#[]⟩] 9)).alloc (.cells #[.int .i64 0] 25)) (w.heap.size + 1) 25 #[.int .i64 0] := Row.new1 _ _ _ _
  have b0 : Below w.heap.size w ((w.alloc (.cells #[.string ⟨#[]⟩] 9)).alloc (.cells #[.int .i64 0] 25)) := ((Below.refl _ w).alloc (Nat.le_refl _) _).alloc (by simp) _
  have z0 : ((w.alloc (.cells #[.string ⟨#[]⟩] 9)).alloc (.cells #[.int .i64 0] 25)).heap.size = w.heap.size + 2 := by simp
  generalize ((w.alloc (.cells #[.string ⟨#[]⟩] 9)).alloc (.cells #[.int .i64 0] 25)) = w0 at *
  refine ⟨trivial, (callsIn_wide.2 (numbers_any w0)).mono ?_⟩
  rintro e1 w1 ⟨m, rfl, hM1, hm0, hb1⟩
  have rs1 := rs0.below hb1 rs0.lt
  have re1 := re0.below hb1 re0.lt
  have b1 := b0.trans (hb1.mono b0.size)
  have s1 : w.heap.size + 2 ≤ w1.heap.size := by have := hb1.size; omega
  have hml := hM1.lt
  rw [z0] at hm0
  clear rs0 re0 b0 hb1 z0
  gi_wp2_with fail
  have rk2 : Row (((w1.alloc (.cells #[.map (some m)] 88)).alloc (.cells #[.slice none 0 0] 22)).alloc (.cells #[.int .i64 0, .int .u32 0] 81)) w1.heap.size 88 #[.map (some m)] := ((Row.new _ _ _).alloc _).alloc _
  have rt2 : Row (((w1.alloc (.cells #[.map (some m)] 88)).alloc (.cells #[.slice none 0 0] 22)).alloc (.cells #[.int .i64 0, .int .u32 0] 81)) (w1.heap.size + 1) 22 #[.slice none 0 0] := (Row.new1 _ _ _ _).alloc _
  have rl2 : Row (((w1.alloc (.cells #[.map (some m)] 88)).alloc (.cells #[.slice none 0 0] 22)).alloc (.cells #[.int .i64 0, .int .u32 0] 81)) (w1.heap.size + 1 + 1) 81 #[.int .i64 0, .int .u32 0] := Row.new2 _ _ _ _ _
  have bA : Below w1.heap.size w1 (((w1.alloc (.cells #[.map (some m)] 88)).alloc (.cells #[.slice none 0 0] 22)).alloc (.cells #[.int .i64 0, .int .u32 0] 81)) := (((Below.refl _ w1).alloc (Nat.le_refl _) _).alloc (by simp) _).alloc (by simp; omega) _
  have z2 : (((w1.alloc (.cells #[.map (some m)] 88)).alloc (.cells #[.slice none 0 0] 22)).alloc (.cells #[.int .i64 0, .int .u32 0] 81)).heap.size = w1.heap.size + 3 := by simp
  have HZ2 := veil z2
  clear z2
  generalize (((w1.alloc (.cells #[.map (some m)] 88)).alloc (.cells #[.slice none 0 0] 22)).alloc (.cells #[.int .i64 0, .int .u32 0] 81)) = w2 at *
  refine ⟨trivial, (asTheyAre_in _ q.a q.len q.cap w2).mono ?_⟩
  rintro e4 w4 ⟨rfl, rfl⟩
  gi_wp2_with fail
  refine ⟨trivial, (bits_in _ _ _ _).mono ?_⟩
  rintro e5 w5 ⟨rfl, rfl⟩
  gi_wp2_with fail
  have r1 : Row ((w2.alloc (.cells #[.slice q.a q.len q.cap] 22)).alloc (.cells #[.func (.func 59) #[] #[.pointer (some ⟨w2.heap.size, 0, none⟩)]] 63)) w2.heap.size 22 #[.slice q.a q.len q.cap] := (Row.new _ _ _).alloc _
  have r2 : Row ((w2.alloc (.cells #[.slice q.a q.len q.cap] 22)).alloc (.cells #[.func (.func 59) #[] #[.pointer (some ⟨w2.heap.size, 0, none⟩)]] 63)) (w2.heap.size + 1) 63 #[.func (.func 59) #[] #[.pointer (some ⟨w2.heap.size, 0, none⟩)]] := Row.new1 _ _ _ _
  have bB : Below w2.heap.size w2 ((w2.alloc (.cells #[.slice q.a q.len q.cap] 22)).alloc (.cells #[.func (.func 59) #[] #[.pointer (some ⟨w2.heap.size, 0, none⟩)]] 63)) := ((Below.refl _ w2).alloc (Nat.le_refl _) _).alloc (by simp) _
  have z5 : ((w2.alloc (.cells #[.slice q.a q.len q.cap] 22)).alloc (.cells #[.func (.func 59) #[] #[.pointer (some ⟨w2.heap.size, 0, none⟩)]] 63)).heap.size = w2.heap.size + 2 := by simp
  generalize ((w2.alloc (.cells #[.slice q.a q.len q.cap] 22)).alloc (.cells #[.func (.func 59) #[] #[.pointer (some ⟨w2.heap.size, 0, none⟩)]] 63)) = w5 at *
  have bw1 := bA.trans (bB.mono bA.size)
  have hbw := b1.trans (bw1.mono b1.size)
  have z2 := HZ2.out
  have HGB := veil (show GetB w w1.heap.size m (w1.heap.size + 1) (w1.heap.size + 1 + 1) w5.heap.size from ⟨by omega, by omega, by omega, by omega, by omega, by omega, by omega, by omega, by omega⟩)
  have HZ := veil (show w5.heap.size = w1.heap.size + 5 by omega)
  have hTell : TellsM Try.prog 46 #[.pointer (some ⟨w2.heap.size + 1, 0, none⟩)] encB (stGet w (w1.heap.size + 1) (w1.heap.size + 1 + 1)) (StepB (Hf.bitsB q.b)) (EndB (Hf.bitsB q.b)) 0 w5 := by
    have := bits1_tells (w2.heap.size + 1) 59 #[.pointer (some ⟨w2.heap.size, 0, none⟩)] (rowB q.b) (stGet w (w1.heap.size + 1) (w1.heap.size + 1 + 1)) w5 r2 (enters_of Try.func59 (by kernel_rfl) rfl)
      (fun p hp => by
        unfold rowB at hp
        obtain ⟨c, _, rfl⟩ := List.mem_map.1 hp
        have := c.isLt
        exact ⟨show 8 ≤ 30 by decide, show c.toNat < 4294967296 by omega⟩)
      (by rw [bitsRow_B, Hf.bitsB_length, HQ.out.hb]; omega)
      (fun st' W hb hsub => asTheyAre1_tells w2.heap.size q st' W (r1.below hb r1.lt) ((HQ.out.below' hbw (fun p => HQ.out.lt p)).below hb) (by omega) (fun p h => by
        have h1 := HQ.out.lt p
        have h2 := hsub _ (by have := hbw.size; omega) h
        rcases h2 with h2 | h2 | h2 | h2 <;> omega))
    rw [bitsRow_B] at this
    exact this
  have HTELL := veil hTell
  have HI0 := veil (show GetI w w1.heap.size m (w1.heap.size + 1) (w1.heap.size + 1 + 1) w5.heap.size (Hf.bitsB q.b) 0 (fun _ => False) w5 from
    ⟨rs1.below bw1 rs1.lt, re1.below bw1 re1.lt, rk2.below bB rk2.lt, hM1.same (bw1.block _ hml), ⟨[], 0, 0, .slice none 0 0, rfl, rt2.below bB rt2.lt, ⟨rfl, .inl ⟨rfl, rfl⟩⟩, (fun g h => by cases h), rl2.below bB rl2.lt⟩, (fun k h => h.elim), Nat.le_refl _, hbw⟩)
  clear hTell r1 r2 rs1 re1 rk2 rt2 rl2 bA bB bw1 hbw hM1 b1 hm0 hml z2 z5 s1
  have hst : ∀ k, stGet w (w1.heap.size + 1) (w1.heap.size + 1 + 1) k → k < w5.heap.size := fun k h => by
    have h1 := HGB.out.bt
    have h2 := HGB.out.bl
    rcases h with h | h | h | h <;> omega
  refine rangeFunc_tellsM (n := 9) (gf := 46) (lb := #[.pointer (some ⟨w2.heap.size + 1, 0, none⟩)]) rfl (enters_of Try.func46 (by kernel_rfl) rfl) (encs := encB) (fun _ => rfl) (stGet w (w1.heap.size + 1) (w1.heap.size + 1 + 1)) hst HTELL.out
    (GetI w w1.heap.size m (w1.heap.size + 1) (w1.heap.size + 1 + 1) w5.heap.size (Hf.bitsB q.b)) (GetS w w5.heap.size (Hf.bitsB q.b)) ?hI ?hIs ?hIm ?hIsm HI0.out
    (fun x _ => { tmps := #[.slice q.a q.len q.cap, undef, .pointer (some ⟨w.heap.size, 0, none⟩), .pointer (some ⟨w.heap.size + 1, 0, none⟩), .pointer (some ⟨w1.heap.size, 0, none⟩), .pointer (some ⟨w1.heap.size + 1, 0, none⟩), .pointer (some ⟨w1.heap.size + 1 + 1, 0, none⟩), undef, .int .u32 (x.2.toNat : Int), undef, undef, .slice q.a q.len q.cap, .int .i64 (q.len : Int), .bool false, .map (some m), .slice q.a q.len q.cap, .func (.func 59) #[] #[.pointer (some ⟨w2.heap.size, 0, none⟩)], .func (.func 46) #[] #[.pointer (some ⟨w2.heap.size + 1, 0, none⟩)], .int .i64 (x.1 : Int), .int .u32 (x.2.toNat : Int), undef, undef, undef, undef, undef, undef, undef, undef, undef, undef, undef, undef, undef, undef, undef, undef, undef, undef, undef, undef, undef, undef, undef, undef], defers := [] })
    (fun _ _ _ => True) (fun _ _ _ _ h _ => h) ?assign ?body ?done ?stop
  case hI => exact fun j M A B h k => h.keep HGB.out k
  case hIs => exact fun M A B h k => h.keep (by have := HGB.out.bk; omega) k
  case hIm => exact fun j M A B h k => h.more HGB.out k
  case hIsm => exact fun M A B h k => h.more (by have := HGB.out.bk; omega) k
  case assign =>
    intro l x W K hK
    unfold encB
    gi_wp2_with fail
    exact hK _ (Below.refl _ _) trivial
  case stop =>
    rintro D M X hD hI hK
    have hgb := HGB.out.bk
    have r1 : Row (X.putObj D (.deferred none)) w.heap.size _ _ := (World.putObj_heap_other (by omega)).trans hI.rs
    have r2 : Row (X.putObj D (.deferred none)) (w.heap.size + 1) _ _ := (World.putObj_heap_other (by omega)).trans hI.re
    have HB := veil (show Below w.heap.size w (X.putObj D (.deferred none)) from hI.below.trans ((keepP_put X D _).below (fun q e => by omega) hI.below.size))
    have HNO := veil (show Hf.getT q.b = none by unfold Hf.getT; rw [hI.no])
    have HK := veil hK
    clear hK hI hD
    gi_wp2_with fail
    refine ⟨by simp, .inl ⟨_, _, rfl, run_takeDeferred HK.out, ?_⟩⟩
    exact ⟨_, get_results _ w.heap.size ⟨#[]⟩ 5 _ rfl rfl (r1.cell 0) (r2.cell 0), _, _, rfl, .inl ⟨HNO.out, rfl, rfl⟩, HB.out⟩
  case done =>
    rintro D j M X hD hE hI hK
    obtain rfl : j = (Hf.bitsB q.b).length := hE
    have hgk := HGB.out.bk
    have hgl := HGB.out.bl
    have hgt := HGB.out.bt
    obtain ⟨t, n, v, vt, h1, h2, h3, h4, h5⟩ := hI.st
    rw [List.take_length] at h1
    have hfine := (Hf.gfine_zero []).run h1
    have hn30 : n < 30 := hfine.few
    obtain ⟨va, vc, rfl⟩ := own_slice h3
    have HB := veil hI.below
    have HK := veil hK
    have HGT := veil (show Hf.getT q.b = if fillsB n v = true then some t else none by
      unfold Hf.getT fillsB
      rw [h1]
      simp)
    have c0 : X.cell? ⟨w1.heap.size + 1 + 1, 0, none⟩ = some (.int .i64 (n : Int)) := h5.cell 0
    have c1 : X.cell? ⟨w1.heap.size + 1 + 1, 1, none⟩ = some (.int .u32 (v : Int)) := h5.cell 1
    have HRS := veil hI.rs
    have HRE := veil hI.re
    have HRT := veil h2
    have HOWN := veil h3
    have HXS := veil hI.size
    clear hI hK h1 h2 h3 h4 h5 hfine
    gi_wp2_with fail
    refine ⟨trivial, (callsIn_wide.2 (fills_any n v (by omega) X)).mono ?_⟩
    rintro e1 w7 ⟨rfl, hb7⟩
    have rs := HRS.out.below hb7 HRS.out.lt
    have re := HRE.out.below hb7 HRE.out.lt
    have rt := HRT.out.below hb7 HRT.out.lt
    have ow := own_blk HOWN.out (fun g hg => hb7.block g (HOWN.out.lt g hg).2)
    have b7 := HB.out.trans (hb7.mono HB.out.size)
    have hs7 := hb7.size
    have hxs := HXS.out
    have hK7 : w7.heap[D]? = some (.deferred (some [])) := (hb7.block D (Array.getElem?_eq_some_iff.1 HK.out).1).trans HK.out
    have cs : w7.cell? ⟨w.heap.size, 0, none⟩ = some (.string ⟨#[]⟩) := rs.cell 0
    have fs := rs.frozen 0
    have ce : w7.cell? ⟨w.heap.size + 1, 0, none⟩ = some (.int .i64 0) := re.cell 0
    have fe := re.frozen 0
    have ct : w7.cell? ⟨w1.heap.size + 1, 0, none⟩ = some (.slice va t.length vc) := rt.cell 0
    have hcv := conv_own ow
    have HB7 := veil b7
    have HK7 := veil hK7
    have HRS7 := veil rs
    have HRE7 := veil re
    have HD := veil hD
    clear rs re rt ow b7 hK7 hb7 HB HK HRS HRE HRT HOWN c0 c1 hD
    cases hfl : fillsB n v with
    | false =>
      rw [hfl] at HGT
      clear hfl
      gi_wp2_with fail
      have k7 : ((w7.setCell ⟨w.heap.size, 0, none⟩ (.string ⟨#[]⟩)).setCell ⟨w.heap.size + 1, 0, none⟩ (.int .i64 5)).heap[D]? = some (.deferred (some [])) := by
        have hd := HD.out
        exact (Below.heap_setCell _ _ _ D (show D ≠ w.heap.size + 1 by omega)).trans ((Below.heap_setCell _ _ _ D (show D ≠ w.heap.size by omega)).trans HK7.out)
      refine ⟨by simp, .inl ⟨_, _, rfl, run_takeDeferred k7, ?_⟩⟩
      have hd := HD.out
      have r1 : Row (((w7.setCell ⟨w.heap.size, 0, none⟩ (.string ⟨#[]⟩)).setCell ⟨w.heap.size + 1, 0, none⟩ (.int .i64 5)).putObj D (.deferred none)) w.heap.size 9 #[.string ⟨#[]⟩] := (World.putObj_heap_other (by omega)).trans ((HRS7.out.set 0 (.string ⟨#[]⟩)).other (a := ⟨w.heap.size + 1, 0, none⟩) (show w.heap.size ≠ w.heap.size + 1 by omega) _)
      have r2 : Row (((w7.setCell ⟨w.heap.size, 0, none⟩ (.string ⟨#[]⟩)).setCell ⟨w.heap.size + 1, 0, none⟩ (.int .i64 5)).putObj D (.deferred none)) (w.heap.size + 1) 25 #[.int .i64 5] := (World.putObj_heap_other (by omega)).trans ((HRE7.out.other (a := ⟨w.heap.size, 0, none⟩) (show w.heap.size + 1 ≠ w.heap.size by omega) _).set 0 (.int .i64 5))
      refine ⟨_, get_results _ w.heap.size ⟨#[]⟩ 5 _ rfl rfl (r1.cell 0) (r2.cell 0), _, _, rfl, .inl ⟨?_, rfl, rfl⟩, ?_⟩
      · rw [HGT.out]; rfl
      · exact ((HB7.out.setCell (p := ⟨w.heap.size, 0, none⟩) (Nat.le_refl _) _).setCell (p := ⟨w.heap.size + 1, 0, none⟩) (by show w.heap.size ≤ w.heap.size + 1; omega) _).trans ((keepP_put _ D _).below (fun q e => by omega) (by simp [World.setCell]; have := HB7.out.size; omega))
    | true =>
      rw [hfl] at HGT
      clear hfl
      gi_wp2_with fail
      have k7 : ((w7.setCell ⟨w.heap.size, 0, none⟩ (.string (strOf t))).setCell ⟨w.heap.size + 1, 0, none⟩ (.int .i64 0)).heap[D]? = some (.deferred (some [])) := by
        have hd := HD.out
        exact (Below.heap_setCell _ _ _ D (show D ≠ w.heap.size + 1 by omega)).trans ((Below.heap_setCell _ _ _ D (show D ≠ w.heap.size by omega)).trans HK7.out)
      refine ⟨by simp, .inl ⟨_, _, rfl, run_takeDeferred k7, ?_⟩⟩
      have hd := HD.out
      have r1 : Row (((w7.setCell ⟨w.heap.size, 0, none⟩ (.string (strOf t))).setCell ⟨w.heap.size + 1, 0, none⟩ (.int .i64 0)).putObj D (.deferred none)) w.heap.size 9 #[.string (strOf t)] := (World.putObj_heap_other (by omega)).trans ((HRS7.out.set 0 (.string (strOf t))).other (a := ⟨w.heap.size + 1, 0, none⟩) (show w.heap.size ≠ w.heap.size + 1 by omega) _)
      have r2 : Row (((w7.setCell ⟨w.heap.size, 0, none⟩ (.string (strOf t))).setCell ⟨w.heap.size + 1, 0, none⟩ (.int .i64 0)).putObj D (.deferred none)) (w.heap.size + 1) 25 #[.int .i64 0] := (World.putObj_heap_other (by omega)).trans ((HRE7.out.other (a := ⟨w.heap.size, 0, none⟩) (show w.heap.size + 1 ≠ w.heap.size by omega) _).set 0 (.int .i64 0))
      refine ⟨_, get_results _ w.heap.size (strOf t) 0 _ rfl rfl (r1.cell 0) (r2.cell 0), _, _, rfl, .inr ⟨t, ?_, rfl, rfl⟩, ?_⟩
      · rw [HGT.out]; rfl
      · exact ((HB7.out.setCell (p := ⟨w.heap.size, 0, none⟩) (Nat.le_refl _) _).setCell (p := ⟨w.heap.size + 1, 0, none⟩) (by show w.heap.size ≤ w.heap.size + 1; omega) _).trans ((keepP_put _ D _).below (fun q e => by omega) (by simp [World.setCell]; have := HB7.out.size; omega))
  case body =>
    rintro l j ⟨i, b⟩ j' M V X ⟨hij, hbit, rfl⟩ hI0 hk _ hsz hM
    simp only at hij hbit
    subst hij
    have hI := hI0.keep HGB.out hk
    have hgk := HGB.out.bk
    have hgm := HGB.out.bm
    have hgl := HGB.out.bl
    have hgt := HGB.out.bt
    have hg1 := HGB.out.kt
    have hg2 := HGB.out.kl
    have hg3 := HGB.out.tl
    have hg4 := HGB.out.mt
    have hg5 := HGB.out.ml
    obtain ⟨t, n, v, vt, h1, h2, h3, h4, h5⟩ := hI.st
    have hfine := (Hf.gfine_zero []).run h1
    have hn30 : n < 30 := hfine.few
    have hv30 : v < 1073741824 := Nat.lt_of_lt_of_le hfine.lt (show 2 ^ n ≤ 2 ^ 30 from Nat.pow_le_pow_right (by decide) (by omega))
    have hil : i < (Hf.bitsB q.b).length := (List.getElem?_eq_some_iff.1 hbit).1
    have HR1 := veil h1
    have HRUN := veil (show Hf.runG (some ([], 0, 0)) ((Hf.bitsB q.b).take (i + 1)) = Hf.stepG (t, n, v) b by
      rw [List.take_add_one, Hf.runG_append, h1, hbit]
      rfl)
    have HALL := veil (show ∀ s, Hf.runG (some ([], 0, 0)) (Hf.bitsB q.b) = s → Hf.runG (Hf.stepG (t, n, v) b) ((Hf.bitsB q.b).drop (i + 1)) = s from fun s hs => by
      rw [← hs, ← HRUN.out, ← Hf.runG_append, List.take_append_drop])
    obtain ⟨va, vc, rfl⟩ := own_slice h3
    have hb1 : b.toNat ≤ 1 := by cases b <;> simp
    have c0 : X.cell? ⟨w1.heap.size + 1 + 1, 0, none⟩ = some (.int .i64 (n : Int)) := h5.cell 0
    have c1 : X.cell? ⟨w1.heap.size + 1 + 1, 1, none⟩ = some (.int .u32 (v : Int)) := h5.cell 1
    have HI := veil hI
    have HT := veil h2
    have HOWN := veil h3
    have HNM := veil h4
    have HLX := veil h5
    have HM := veil hM
    have HXS := veil (show w5.heap.size + 2 ≤ X.heap.size by have := hk.size; omega)
    have HVX := veil hk.size
    clear hI0 hI hk hM h1 h2 h3 h4 h5 hfine hsz
    gi_wp2_with fail
    refine ⟨trivial, (callsIn_wide.2 (with_any n v b (by omega) hv30 X)).mono ?_⟩
    rintro e1 w7 ⟨rfl, hb7⟩
    have HL := veil (fun n1 v1 => get_left HI.out HGB.out HT.out HOWN.out HNM.out HLX.out HXS.out (fun k hk => Nat.lt_of_lt_of_le (HM.out k hk).2 HVX.out) hb7 n1 v1)
    have lx7 := HLX.out.below hb7 HLX.out.lt
    have cl0 : w7.cell? ⟨w1.heap.size + 1 + 1, 0, none⟩ = some (.int .i64 (n : Int)) := lx7.cell 0
    have cl1 : w7.cell? ⟨w1.heap.size + 1 + 1, 1, none⟩ = some (.int .u32 (v : Int)) := lx7.cell 1
    have fl0 := lx7.frozen 0
    have fl1 := lx7.frozen 1
    obtain ⟨n1, hn1⟩ : ∃ n1, n1 = n + 1 := ⟨_, rfl⟩
    obtain ⟨v1, hv1⟩ : ∃ v1, v1 = 2 * v + b.toNat := ⟨_, rfl⟩
    rw [← hn1, ← hv1]
    have HL1 := veil (HL.out n1 v1)
    have hin : InW n1 v1 := ⟨by omega, by omega⟩
    have hlook := HL1.out.map.look hin
    have hstep : Hf.stepG (t, n, v) b = match Hf.sym n1 v1 with
      | none => some (t, n1, v1)
      | some k => if k = 256 then none else some (t ++ [BitVec.ofNat 8 k], 0, 0) := by rw [hn1, hv1]; rfl
    have HSTEP := veil hstep
    have ck8 := HL1.out.rk.cell 0
    have cl80 := HL1.out.rl.cell 0
    have cl81 := HL1.out.rl.cell 1
    have HSYM := veil (fun k (e : Hf.sym n1 v1 = some k) => (sym_some' e).1)
    have HN := veil hn1
    have HV := veil hv1
    clear hstep hn1 hv1 lx7 hb7 HL hin c0 c1
    generalize hsy : Hf.sym n1 v1 = sy at *
    cases sy with
    | none =>
      simp only [oi, Option.isSome_none] at hlook
      have HPOST := veil (get_next HL1.out (bs := Hf.bitsB q.b) (j := i + 1) (by rw [HRUN.out, HSTEP.out]))
      clear hsy
      gi_wp2_with fail
      exact ⟨HL1.out.keep, HPOST.out⟩
    | some k =>
      simp only [oi, Option.isSome_some] at hlook
      have hk257 := HSYM.out k rfl
      by_cases hk : k = 256
      · subst hk
        have hlook2 : (Instr.lookup 88 (.map (some m)) (.agg #[.int .i64 (n1 : Int), .int .u32 (v1 : Int)]) true).run Try.prog ((w7.setCell ⟨w1.heap.size + 1 + 1, 0, none⟩ (.int .i64 (n1 : Int))).setCell ⟨w1.heap.size + 1 + 1, 1, none⟩ (.int .u32 (v1 : Int))) = .ok (.tuple #[.int .i64 256, .bool true]) _ := hlook
        have HPOST := veil (get_stop HL1.out HGB.out (bs := Hf.bitsB q.b) (by
          have := HALL.out _ rfl
          rw [← this, HSTEP.out]
          exact Hf.runG_none _))
        have cs8 := HL1.out.rs.cell 0
        have fs8 := HL1.out.rs.frozen 0
        have re9 := HL1.out.re.other (a := ⟨w.heap.size, 0, none⟩) (show w.heap.size + 1 ≠ w.heap.size by omega) (.string ⟨#[]⟩)
        have ce9 := re9.cell 0
        have fe9 := re9.frozen 0
        clear hlook re9 hsy
        gi_wp2_with fail
        exact HPOST.out
      · have hk8 : k < 256 := by omega
        obtain ⟨i0, hi, hz0, hz1, hz2'⟩ := info_parts (P := Try.prog) (e := 5) (z := .int .u8 0) (size := 1) (bytes := 1) (by kernel_rfl)
        have htl : t.length ≤ 8388608 := by
          have h1 := Hf.run_bits (Hf.gfine_zero []) HR1.out
          have h2 := congrArg List.length h1
          have h3 := Hf.txt_length_le t
          have h4 : ((Hf.bitsB q.b).take i).length ≤ 8388608 := by rw [List.length_take, Hf.bitsB_length, HQ.out.hb]; omega
          simp only [List.length_append] at h2
          have h5 : (Hf.txt ([] : List By)).length = 0 := rfl
          have h6 : (Hf.bitsN 0 0).length = 0 := rfl
          rw [h5, h6] at h2
          omega
        have hsz8 : ((w7.setCell ⟨w1.heap.size + 1 + 1, 0, none⟩ (.int .i64 (n1 : Int))).setCell ⟨w1.heap.size + 1 + 1, 1, none⟩ (.int .u32 (v1 : Int))).heap.size = w7.heap.size := by simp [World.setCell]
        have hal := World.size_alloc ((w7.setCell ⟨w1.heap.size + 1 + 1, 0, none⟩ (.int .i64 (n1 : Int))).setCell ⟨w1.heap.size + 1 + 1, 1, none⟩ (.int .u32 (v1 : Int))) (.cells #[.int .u8 (k : Int)] 5)
        obtain ⟨v4, W10, hrunA, hownA, hgrowA, _, hatA⟩ := run_append_own_at (P := Try.prog) (((w7.setCell ⟨w1.heap.size + 1 + 1, 0, none⟩ (.int .i64 (n1 : Int))).setCell ⟨w1.heap.size + 1 + 1, 1, none⟩ (.int .u32 (v1 : Int))).alloc (.cells #[.int .u8 (k : Int)] 5)) (w5.heap.size + 2) 22 22 5 i0 (.int .u8 0) 1 1 Try.underlying22 hi hz0 hz1 hz2' rfl (by decide) (.slice va t.length vc) t.length (vb t) (HL1.out.own.alloc _) ⟨w7.heap.size, 0, none⟩ 1 1 [.int .u8 (k : Int)] rfl (by rw [← hsz8]; exact cell_one_new _ _ _) (by simp [Value.oneCell']) (by unfold maxLen; omega) (by omega) (by have := HL1.out.size; omega)
        have hvk : [Value.int .u8 (k : Int)] = vb [BitVec.ofNat 8 k] := by
          show _ = [Value.int .u8 (v8 (BitVec.ofNat 8 k))]
          unfold v8
          rw [BitVec.toNat_ofNat, Nat.mod_eq_of_lt (by omega)]
        rw [hvk] at hownA
        obtain ⟨⟨cTx, fTx⟩, ⟨cL0, fL0, cL1, fL1⟩, hKF, hIF⟩ := get_more HL1.out HGB.out (.cells #[.int .u8 (k : Int)] 5) (BitVec.ofNat 8 k) hownA hgrowA (fun g hg => by
          rcases hatA with c | c
          · exact .inl (c.symm.trans hg)
          · rw [c] at hg
            injection hg with hg
            exact .inr (by omega)) (bs := Hf.bitsB q.b) (j := i + 1) (by rw [HRUN.out, HSTEP.out]; exact if_neg hk)
        obtain ⟨a4, c4, rfl⟩ := own_slice hownA
        have ct8 : ((w7.setCell ⟨w1.heap.size + 1 + 1, 0, none⟩ (.int .i64 (n1 : Int))).setCell ⟨w1.heap.size + 1 + 1, 1, none⟩ (.int .u32 (v1 : Int))).cell? ⟨w1.heap.size + 1, 0, none⟩ = some (.slice va t.length vc) := HL1.out.rt.cell 0
        have hkne : ((k : Int) == 256) = false := by simp; omega
        have hcv : IntKind.u8.wrap (k : Int) = (k : Int) := by rw [IntKind.wrap_u8]; omega
        have HPOST := veil (And.intro hKF hIF)
        clear hsy hownA hgrowA hatA hKF hIF hvk hal hi hz0 hz1 hz2'
        gi_wp2_with (with_reducible (show wpListIn _ _ _ _ _ (⟨_, Op.call { callee := .builtin .append, args := _, argTypes := _ }, _, _, _, _⟩ :: _) _ _)
                     refine appIn_run rfl _ _ 22 rfl (.slice va t.length vc) (.slice (some ⟨w7.heap.size, 0, none⟩) 1 1) (.slice a4 (t.length + 1) c4) rfl rfl hrunA ?_)
        exact HPOST.out
end Go.Proofs.Ytiecpkkklefjdaa
