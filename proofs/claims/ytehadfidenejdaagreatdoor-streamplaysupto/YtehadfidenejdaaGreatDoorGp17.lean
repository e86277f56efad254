/-
  Written by mksnframe.py: a run is told by a frame.
-/
import Derived.Test.YtehadfidenejdaaGreatDoorGp16
import Derived.Laws.OwnMore
namespace Go.Proofs.YtehadfidenejdaaGreatDoor
open Go Go.RowKit

namespace Sr
open Sd
/-- A frame of a stream, in cells. -/
def frD (id p : Nat) (fn : Bool) (d : Value) : Array Value := #[.int .u8 7, .int .u64 (id : Int), .int .u64 (p : Int), .int .u64 0, .int .u64 0, .bool fn, d, .slice none 0 0]
def fr0 : Array Value := #[.int .u8 0, .int .u64 0, .int .u64 0, .int .u64 0, .int .u64 0, .bool false, .slice none 0 0, .slice none 0 0]
theorem run_gtrN {P : Program} {a : Act} {o : Oper} (t t' : TypeId) (x y : Operand) (p q : Nat) (d : Bool) (ho : o.op = .binOp .gtr t x y t') (hx : a.eval x = .int .u64 (p : Int)) (hy : a.eval y = .int .u64 (q : Int)) (hd : d = decide (q < p)) (W : World) :
    (execOp a.eval o).run P W = .ok (.value (.bool d)) W := by
  subst hd
  unfold execOp
  simp only [ho, hx, hy]
  by_cases c : q < p
  · have e : (q : Int) < (p : Int) := by omega
    simp only [c, decide_true]
    go_simp
  · have e : ¬ (q : Int) < (p : Int) := by omega
    simp only [c, decide_false]
    go_simp
theorem run_storeMid8 {P : Program} {a : Act} {o : Oper} (ty : TypeId) (x y : Operand) (b off : Nat) (cells : Array Value) (ho : o.op = .store ty x y) (hx : a.eval x = .pointer (some ⟨b, off, none⟩)) (hy : a.eval y = .agg cells) (w : World) (ht : w.there b off cells.size) (hi : (P.info? ty).map (·.size) = some cells.size) (h1 : cells.all (·.oneCell') = true) : (execOp a.eval o).run P w = .ok .skip (w.setCells b off cells.toList) := by
  unfold execOp
  simp only [ho, hx, hy, run_storeAt_mid w b off ty cells ht hi h1, Sem.run_bind, Sem.run_pure, Result.andThen_ok]
theorem below_setCells {B : Nat} {w : World} {b : Nat} (hb : B ≤ b) : ∀ (vs : List Value) (o : Nat) (W : World), Below B W (W.setCells b o vs)
  | [], _, _ => Below.refl _ _
  | v :: r, o, W => ((Below.refl B W).setCell (p := ⟨b, o, none⟩) hb v).trans (below_setCells (w := w) hb r (o + 1) _)
theorem own_setCells {base e z n : Nat} {v : Value} {xs : List Value} (g : Nat) (hv : ∀ k, v.ownBlock = some k → k ≠ g) : ∀ (vs : List Value) (o : Nat) (W : World), W.ownsRow base e z v n xs → (W.setCells g o vs).ownsRow base e z v n xs
  | [], _, _, h => h
  | u :: r, o, W, h => own_setCells g hv r (o + 1) _ (by
    refine ⟨h.1, ?_⟩
    rcases h.2 with h2 | ⟨g', cap, cur, rfl, hb, hh, rest⟩
    · exact .inl h2
    · exact .inr ⟨g', cap, cur, rfl, hb, (Below.heap_setCell _ _ _ g' (hv g' rfl)).trans hh, rest⟩)
/-- A part of a list in memory, told by numbers of any kind. -/
theorem sl_anyK {P : Program} {e : TypeId} {z : Nat} (w : World) (t : TypeId) (k : IntKind) (hu : P.underlying t = some (.slice e)) (hs : (P.info? e).map (·.size) = some z) {v : Value} {n l j : Nat} {xs : List Value} (h : RowO w e z v n xs) (h1 : l ≤ j) (h2 : j ≤ n) :
    ∃ a c, (∀ W, (Instr.sliceAt t v (some (.int k (l : Int))) (some (.int k (j : Int))) none).run P W = .ok (.slice a (j - l) c) W) ∧
      (∀ W, RowO W e z v n xs → RowO W e z (.slice a (j - l) c) (j - l) ((xs.drop (l * z)).take ((j - l) * z))) ∧ (Value.slice a (j - l) c).ownBlock = v.ownBlock := by
  obtain ⟨a, c, q1, _, q2, q3⟩ := sl_any (P := P) w t hu hs h h1 h2
  refine ⟨a, c, fun W => ?_, q2, q3⟩
  rw [← q1 W]
  obtain ⟨va, vc, rfl, hvc, _⟩ := h.shape
  have hjc : j ≤ vc := by omega
  have hz' := lgSize hs W
  cases va <;> simp [Instr.sliceAt, Instr.slice, Instr.sliceBounds, Instr.sliceBound, asIntOf, run_underlying hu, hz', h1, hjc]
theorem RowO.src {w : World} {e : TypeId} {z n c : Nat} {sa : Option Addr} {xs : List Value} (h : RowO w e z (.slice sa n c) n xs) : Src w sa n xs := by
  rcases h.2 with ⟨h1, h2⟩ | ⟨g, o, cap, cur, h1, _⟩
  · injection h1 with e1 e2 e3
    subst e1 e2
    refine .inl ⟨rfl, rfl, List.eq_nil_of_length_eq_zero (by rw [h.1]; simp)⟩
  · injection h1 with e1 e2 e3
    subst e1
    refine .inr ⟨_, rfl, fun j v hj => ?_⟩
    obtain ⟨g', o', q1, q2⟩ := h.cells j v hj
    injection q1 with q1
    injection q1 with q1 q3
    subst q1 q3
    rw [Addr.add_mid]
    exact q2
def depFm : Nat → List Nat
  | 0 => []
  | 1 => [0]
  | 2 => [1]
  | 3 => [2]
  | 4 => []
  | 5 => [4]
  | 6 => []
  | 7 => []
  | 8 => [7]
  | 9 => []
  | 10 => [9]
  | 11 => [8, 10]
  | 12 => [3, 5, 6, 11]
  | 13 => [0, 1, 2, 3, 4, 5, 6, 7, 8, 9, 10, 11, 12]
  | _ => []
theorem depFm_all (j : Nat) (hj : decide (j < 13) = true) : j ∈ depFm 13 := by
  have := of_decide_eq_true hj
  simp only [depFm, List.mem_cons, List.not_mem_nil, or_false]
  omega
def valFm (g id p q b3 bd n n0 : Nat) (fn : Bool) : Nat → Value → Prop
  | 0, u => u = .pointer (some ⟨g, 0, none⟩)
  | 1, u => u = .pointer (some ⟨g, 0, none⟩)
  | 2, u => u = .pointer (some ⟨g, 1, none⟩)
  | 3, u => u = .int .u64 (id : Int)
  | 4, u => u = .pointer (some ⟨b3, 0, none⟩)
  | 5, u => u = .int .u64 (p : Int)
  | 6, u => u = .slice (some ⟨bd, 0, none⟩) n n
  | 7, u => u = .pointer (some ⟨b3, 1, none⟩)
  | 8, u => u = .int .u64 (q : Int)
  | 9, u => u = .pointer (some ⟨g, 0, none⟩)
  | 10, u => u = .int .u64 (n0 : Int)
  | 11, u => u = .bool fn
  | 12, u => u = .agg (frD id p fn (.slice (some ⟨bd, 0, none⟩) n n))
  | _, _ => True
set_option maxHeartbeats 2000000 in
set_option maxRecDepth 20000 in
theorem frame_any {w : World} {g : Nat} {wr cm ls : Value} {s : Snd} {C L : List Rn} (h : SnOk w g wr cm ls s C L) (p q : Nat) (hpq : p ≤ min q s.b.length) :
    Calls Tryz.prog 39 #[.pointer (some ⟨g, 0, none⟩), rcA (p, q)] w fun e w' => ∃ b, e = .returned (.agg (frD s.id p (decide (s.b.length < q)) (.slice (some ⟨b, 0, none⟩) (min q s.b.length - p) (min q s.b.length - p)))) ∧
      w'.ownsRow w.heap.size 5 1 (.slice (some ⟨b, 0, none⟩) (min q s.b.length - p) (min q s.b.length - p)) (min q s.b.length - p) (vb (Sd.cut s.b p (min q s.b.length))) ∧ Below w.heap.size w w' := by
  have hlen := h.rep.fine.len
  obtain ⟨n0, hn0⟩ : ∃ n0, s.b.length = n0 := ⟨_, rfl⟩
  obtain ⟨t, ht⟩ : ∃ t, min q n0 = t := ⟨_, rfl⟩
  obtain ⟨n, hn⟩ : ∃ n, t - p = n := ⟨_, rfl⟩
  obtain ⟨id, hid⟩ : ∃ id, s.id = id := ⟨_, rfl⟩
  obtain ⟨fn, hfn⟩ : ∃ fn, decide (n0 < q) = fn := ⟨_, rfl⟩
  rw [hn0, ht] at hpq
  rw [hn0] at hlen
  rw [hn0, ht, hn, hid, hfn]
  have hb0 : Below w.heap.size w ((w.alloc (.cells #[.int .u64 (p : Int), .int .u64 (q : Int)] 77)).alloc (.cells fr0 28)) := ((Below.refl _ w).alloc (Nat.le_refl _) _).alloc (by simp) _
  have hok := h.below hb0
  obtain ⟨a, c, s1, hsr, _⟩ := sl_anyK (P := Tryz.prog) w 24 .u64 Tryz.underlying24 (by kernel_rfl) h.wrow (l := p) (j := t) hpq (by omega)
  rw [hn] at s1 hsr
  have hcut : (((vb s.b).drop (p * 1)).take (n * 1)) = vb (Sd.cut s.b p t) := by
    unfold Sd.cut vb
    rw [Nat.mul_one, Nat.mul_one, hn, List.map_take, List.map_drop]
  rw [hcut] at hsr
  have r3 : Row ((w.alloc (.cells #[.int .u64 (p : Int), .int .u64 (q : Int)] 77)).alloc (.cells fr0 28)) w.heap.size 77 #[.int .u64 (p : Int), .int .u64 (q : Int)] :=
    (Row.new w 77 _).below ((Below.refl _ _).alloc (Nat.le_refl _) _) (Row.new w 77 _).lt
  have r4 : Row ((w.alloc (.cells #[.int .u64 (p : Int), .int .u64 (q : Int)] 77)).alloc (.cells fr0 28)) (w.heap.size + 1) 28 fr0 := Row.new1 w _ 28 fr0
  have SZ := size_any hok
  rw [hn0] at SZ
  have HB0 := veil hb0
  have HOK := veil hok
  have HR3 := veil r3
  have HR4 := veil r4
  have HFN := veil hfn.symm
  have HSR := veil (show ∀ W, RowO W 5 1 wr s.b.length (vb s.b) → RowO W 5 1 (.slice a n c) n (vb (Sd.cut s.b p t)) from hsr)
  have HX := veil (show p ≤ t ∧ n0 ≤ 1048576 ∧ t ≤ n0 ∧ t - p = n ∧ s.b.length = n0 ∧ s.id = id from ⟨hpq, by omega, by omega, hn, hn0, hid⟩)
  have m1 : min (q : Int) (n0 : Int) = (t : Int) := by omega
  unfold rcA
  simp only
  unfold fr0 at HB0 HOK HR3 HR4 hok SZ
  have c3 := hok.row.cell 3
  unfold snC at c3
  have SZ := veil (show ∀ W : World, W.heap = ((w.alloc (.cells #[.int .u64 (p : Int), .int .u64 (q : Int)] 77)).alloc (.cells #[.int .u8 0, .int .u64 0, .int .u64 0, .int .u64 0, .int .u64 0, .bool false, .slice none 0 0, .slice none 0 0] 28)).heap → Calls Tryz.prog 34 #[.pointer (some ⟨g, 0, none⟩)] W (fun e w' => e = .returned (.int .u64 (n0 : Int)) ∧ w' = W) from fun W hW => by
    have := size_any (HOK.out.same (w' := W) (fun k _ => by rw [hW]))
    rw [HX.out.2.2.2.2.1] at this
    exact this)
  clear h hlen hn0 ht hid hfn hb0 hok hsr hcut r3 r4 hpq hn
  go_enter Tryz.func39, Tryz.ntmps39
  go_wp2_with fail
  generalize (w.alloc (.cells #[.int .u64 (p : Int), .int .u64 (q : Int)] 77)).alloc (.cells #[.int .u8 0, .int .u64 0, .int .u64 0, .int .u64 0, .int .u64 0, .bool false, .slice none 0 0, .slice none 0 0] 28) = w0 at *
  have d0 := HR3.out.cell 0
  have d1 := HR3.out.cell 1
  go_quiet (first | (go_at_call 34; exact Calls.quiet_of_same (SZ.out _ rfl)))
  obtain ⟨wq, hwq⟩ : ∃ wq, wq = w0.drewN nq := ⟨_, rfl⟩
  rw [← hwq]
  have hbq : Below w.heap.size w wq := by rw [hwq]; exact below_drewN HB0.out nq
  have hokq : SnOk wq g wr cm ls s C L := by rw [hwq]; exact HOK.out.below (below_drewN (Below.refl _ w0) nq)
  have r3 : Row wq w.heap.size 77 #[.int .u64 (p : Int), .int .u64 (q : Int)] := by rw [hwq]; exact HR3.out
  have r4 : Row wq (w.heap.size + 1) 28 #[.int .u8 0, .int .u64 0, .int .u64 0, .int .u64 0, .int .u64 0, .bool false, .slice none 0 0, .slice none 0 0] := by rw [hwq]; exact HR4.out
  clear hwq c3 d0 d1 SZ HB0 HOK HR3 HR4 s1 m1
  -- the bytes are copied out
  obtain ⟨i0, z1, z2, z3, z4⟩ := byte_info
  obtain ⟨bd, hbd⟩ : ∃ bd, bd = wq.heap.size := ⟨_, rfl⟩
  obtain ⟨wm, hmk, own2, grow2⟩ := run_makeSlice_full (P := Tryz.prog) (w := wq) w.heap.size 24 5 i0 _ 1 Tryz.underlying24 z1 z2 z3 .i64 .i64 n (by have := HX.out; omega) (by rw [z4]; have := HX.out; omega) (by unfold maxLen; have := HX.out; omega) hbq.size
  rw [← hbd] at hmk own2
  have hbm : Below wq.heap.size wq wm := ⟨grow2.os, grow2.tape, grow2.output, grow2.size, fun k hk => grow2.block k hk (by simp)⟩
  obtain ⟨pre, post, o1, o2, o3, o4, o5, o6⟩ := blk_of (RowO.of_own own2)
  have hpre : pre = [] := List.eq_nil_of_length_eq_zero o1
  rw [hpre] at o6
  have o7 : post.length = 0 := by
    rcases own2.2 with ⟨e1, _⟩ | ⟨g', cap', cur, e1, _, hh, _, _, hs, _⟩
    · cases e1
    · injection e1 with e1 e2 e3
      injection e1 with e1
      injection e1 with e1
      subst e1 e3
      rw [o6] at hh
      injection hh with hh
      injection hh with hh
      rw [← hh] at hs
      simp only [List.size_toArray, List.length_append, List.length_nil, o2] at hs
      omega
  have hrw := HSR.out wm (hokq.below hbm).wrow
  have hvl : (vb (Sd.cut s.b p t)).length = n * 1 := by rw [vb_length, cut_length HX.out.1 (by have := HX.out; omega), HX.out.2.2.2.1, Nat.mul_one]
  obtain ⟨wd, r5, g5, k5⟩ := copy_at (P := Tryz.prog) wm 24 24 3 Tryz.underlying24 (z := 1) (by kernel_rfl) [] [] ((madeCells (Value.int .u8 0).cells (n * 1)).toList ++ post) bd 0 n 0 n n rfl rfl (by rw [o6]; rfl) a n c n (vb (Sd.cut s.b p t)) hvl (fun e => e.symm) (RowO.src hrw) (by exact Nat.min_self n) (by rw [List.length_append, o2]; omega) (vb_one _)
  rw [show cutO 0 n 0 1 = 0 from by unfold cutO; split <;> rfl] at r5
  have hnb : bd < wm.heap.size := by have := (own2.lt bd rfl).2; exact this
  have hnw : w.heap.size + 1 < wq.heap.size := r4.lt
  have r3m := r3.below hbm r3.lt
  have r4m := r4.below hbm r4.lt
  have r3d : Row wd w.heap.size 77 #[.int .u64 (p : Int), .int .u64 (q : Int)] := (k5.block _ r3m.lt (by omega)).trans r3m
  have r4d : Row wd (w.heap.size + 1) 28 #[.int .u8 0, .int .u64 0, .int .u64 0, .int .u64 0, .int .u64 0, .bool false, .slice none 0 0, .slice none 0 0] := (k5.block _ r4m.lt (by omega)).trans r4m
  have hokd : SnOk wd g wr cm ls s C L := (hokq.below hbm).same (fun k e => k5.block k ((hokq.below hbm).lt k e) (fun q => by have := hokq.lt k e; omega))
  have hbd' : Below w.heap.size w wd := (hbq.trans (hbm.mono hbq.size)).trans (k5.below (fun k e => by have e : k = bd := e; have := hbq.size; omega) (Nat.le_trans hbq.size hbm.size))
  have hown : wd.ownsRow w.heap.size 5 1 (.slice (some ⟨bd, 0, none⟩) n n) n (vb (Sd.cut s.b p t)) := by
    refine ⟨hvl, .inr ⟨bd, n, _, rfl, by have := hbq.size; omega, g5, Nat.le_refl _, o4, ?_, ?_⟩⟩
    · simp only [List.size_toArray, List.length_append, List.length_drop, List.length_nil, o2, hvl, o7]; omega
    · show (([] : List Value) ++ [] ++ (vb (Sd.cut s.b p t) ++ _)).take (n * 1) = _
      rw [List.nil_append, List.nil_append, ← hvl]
      exact List.take_left
  have HOWN := veil hown
  have HBD := veil hbd'
  have R4 := veil r4d
  have C1 := hokd.row.cell 1
  unfold snC at C1
  rw [HX.out.2.2.2.2.2] at C1
  have C1 := veil (show wd.drew.cell? ⟨g, 1, none⟩ = some (.int .u64 (id : Int)) from C1)
  have D0 := veil (show wd.drew.cell? ⟨w.heap.size, 0, none⟩ = some (.int .u64 (p : Int)) from r3d.cell 0)
  have D1 := veil (show wd.drew.cell? ⟨w.heap.size, 1, none⟩ = some (.int .u64 (q : Int)) from r3d.cell 1)
  have THR := veil (show wd.drew.there (w.heap.size + 1) 0 8 from fun j hj => by
    rw [Nat.zero_add]
    refine ⟨?_, R4.out.frozen j⟩
    match j, hj with
    | 0, _ => exact congrArg Option.isSome (R4.out.cell 0)
    | 1, _ => exact congrArg Option.isSome (R4.out.cell 1)
    | 2, _ => exact congrArg Option.isSome (R4.out.cell 2)
    | 3, _ => exact congrArg Option.isSome (R4.out.cell 3)
    | 4, _ => exact congrArg Option.isSome (R4.out.cell 4)
    | 5, _ => exact congrArg Option.isSome (R4.out.cell 5)
    | 6, _ => exact congrArg Option.isSome (R4.out.cell 6)
    | 7, _ => exact congrArg Option.isSome (R4.out.cell 7))
  have HS4 := size_any (hokd.below (Below.refl _ wd).drew)
  rw [HX.out.2.2.2.2.1] at HS4
  have HS4 := veil HS4
  clear hbq hokq r3 r4 hbm hrw hvl o1 o2 o3 o4 o5 o6 o7 g5 k5 own2 grow2 hpre r3m r4m r3d r4d hokd hbd' hown hnb hnw z1 z2 z3 z4 hbd
  go_wp2_with (first
    | (with_reducible (show wpList _ _ _ (⟨_, Op.makeSlice _ _ _, _, _, _, _⟩ :: _) _ _); simp only [hmk])
    | (at_builtin; refine wpList_copy_runI _ rfl _ _ 24 24 rfl _ _ rfl rfl r5 ?_))
  refine (wpIn_wide (n := 4)).1 ?_
  refine wpIn_region_any (by kernel_rfl) ?_
  refine anyIn_mem (valFm g id p q w.heap.size bd n n0 fn) (fun W => W = wd.drew) (fun W => W = wd.drew.setCells (w.heap.size + 1) 0 (frD id p fn (.slice (some ⟨bd, 0, none⟩) n n)).toList) 13 (fun j => decide (j < 13)) [25, 26, 27, 28, 29, 30, 31, 32, 33, 34, 35, 36, 37, 100000] depFm (by kernel_rfl) rfl (by decide) (by decide) rfl depFm_all rfl ?step ?store ?after ?done
  case step =>
    intro x W i e hi hW hdi hdep
    subst hW
    match i, hi, hdi, hdep with
    | 0, _, hdi, _ =>
      obtain rfl := Option.some.inj hdi
      exact OI_value rfl rfl (about_none (by intro c h; cases h)) (by intro c h; cases h) (.pointer (some ⟨g, 0, none⟩)) _ (by kernel_rfl) ⟨_, rfl, rfl, rfl⟩
    | 1, _, hdi, hdep =>
      obtain rfl := Option.some.inj hdi
      rw [updV_self (show x 0 = _ from hdep 0 (by simp [depFm]))]
      exact OI_value rfl rfl (about_none (by intro c h; cases h)) (by intro c h; cases h) (.pointer (some ⟨g, 0, none⟩)) _ (by kernel_rfl) ⟨_, rfl, rfl, rfl⟩
    | 2, _, hdi, hdep =>
      obtain rfl := Option.some.inj hdi
      rw [updV_self (show x 1 = _ from hdep 1 (by simp [depFm]))]
      exact OI_value rfl rfl (about_none (by intro c h; cases h)) (by intro c h; cases h) (.pointer (some ⟨g, 1, none⟩)) _ (by kernel_rfl) ⟨_, rfl, rfl, rfl⟩
    | 3, _, hdi, hdep =>
      obtain rfl := Option.some.inj hdi
      rw [updV_self (show x 2 = _ from hdep 2 (by simp [depFm]))]
      exact OI_value rfl rfl (about_none (by intro c h; cases h)) (by intro c h; cases h) (.int .u64 (id : Int)) _ (lgRun_cell 22 _ ⟨g, 1, none⟩ _ _ rfl (by kernel_rfl) Tryz.underlying22 rfl _ C1.out) ⟨_, rfl, rfl, rfl⟩
    | 4, _, hdi, _ =>
      obtain rfl := Option.some.inj hdi
      exact OI_value rfl rfl (about_none (by intro c h; cases h)) (by intro c h; cases h) (.pointer (some ⟨w.heap.size, 0, none⟩)) _ (by kernel_rfl) ⟨_, rfl, rfl, rfl⟩
    | 5, _, hdi, hdep =>
      obtain rfl := Option.some.inj hdi
      rw [updV_self (show x 4 = _ from hdep 4 (by simp [depFm]))]
      exact OI_value rfl rfl (about_none (by intro c h; cases h)) (by intro c h; cases h) (.int .u64 (p : Int)) _ (lgRun_cell 22 _ ⟨w.heap.size, 0, none⟩ _ _ rfl (by kernel_rfl) Tryz.underlying22 rfl _ D0.out) ⟨_, rfl, rfl, rfl⟩
    | 6, _, hdi, _ =>
      obtain rfl := Option.some.inj hdi
      exact OI_value rfl rfl (about_none (by intro c h; cases h)) (by intro c h; cases h) (.slice (some ⟨bd, 0, none⟩) n n) _ (by kernel_rfl) ⟨_, rfl, rfl, rfl⟩
    | 7, _, hdi, _ =>
      obtain rfl := Option.some.inj hdi
      exact OI_value rfl rfl (about_none (by intro c h; cases h)) (by intro c h; cases h) (.pointer (some ⟨w.heap.size, 1, none⟩)) _ (by kernel_rfl) ⟨_, rfl, rfl, rfl⟩
    | 8, _, hdi, hdep =>
      obtain rfl := Option.some.inj hdi
      rw [updV_self (show x 7 = _ from hdep 7 (by simp [depFm]))]
      exact OI_value rfl rfl (about_none (by intro c h; cases h)) (by intro c h; cases h) (.int .u64 (q : Int)) _ (lgRun_cell 22 _ ⟨w.heap.size, 1, none⟩ _ _ rfl (by kernel_rfl) Tryz.underlying22 rfl _ D1.out) ⟨_, rfl, rfl, rfl⟩
    | 9, _, hdi, _ =>
      obtain rfl := Option.some.inj hdi
      exact OI_value rfl rfl (about_none (by intro c h; cases h)) (by intro c h; cases h) (.pointer (some ⟨g, 0, none⟩)) _ (by kernel_rfl) ⟨_, rfl, rfl, rfl⟩
    | 10, _, hdi, hdep =>
      obtain rfl := Option.some.inj hdi
      rw [updV_self (show x 9 = _ from hdep 9 (by simp [depFm]))]
      refine OI_call rfl rfl (by intro c h; cases h) 34 #[.pointer (some ⟨g, 0, none⟩)] (fun _ _ => trivial) (by kernel_rfl) (by decide) ?_
      refine (callsIn_wide.2 HS4.out).mono ?_
      rintro e w' ⟨rfl, rfl⟩
      exact ⟨_, rfl, _, rfl, rfl, rfl⟩
    | 11, _, hdi, hdep =>
      obtain rfl := Option.some.inj hdi
      rw [updV_self (show x 8 = _ from hdep 8 (by simp [depFm])), updV_self (show (updV x 8 _) 10 = _ from hdep 10 (by simp [depFm]))]
      exact OI_value rfl rfl (about_none (by intro c h; cases h)) (by intro c h; cases h) (.bool fn) _ (run_gtrN _ _ _ _ q n0 fn rfl (by kernel_rfl) (by kernel_rfl) HFN.out _) ⟨_, rfl, rfl, rfl⟩
    | 12, _, hdi, hdep =>
      obtain rfl := Option.some.inj hdi
      rw [updV_self (show x 3 = _ from hdep 3 (by simp [depFm])), updV_self (show (updV x 3 _) 5 = _ from hdep 5 (by simp [depFm])), updV_self (show (updV (updV x 3 _) 5 _) 6 = _ from hdep 6 (by simp [depFm])), updV_self (show (updV (updV (updV x 3 _) 5 _) 6 _) 11 = _ from hdep 11 (by simp [depFm]))]
      exact OI_value rfl rfl (about_none (by intro c h; cases h)) (by intro c h; cases h) (.agg (frD id p fn (.slice (some ⟨bd, 0, none⟩) n n))) _ (by kernel_rfl) ⟨_, rfl, rfl, rfl⟩
    | _ + 13, hi, _, _ => exact absurd (of_decide_eq_true hi) (by omega)
  case store =>
    intro x W hW hx
    subst hW
    have hx12 : x 12 = _ := hx 12 (by decide)
    rw [updV_self (show x 12 = _ from hx12)]
    refine OI_skip rfl rfl (about_none (by intro c h; cases h)) (by intro c h; cases h) _ (run_storeMid8 28 _ _ (w.heap.size + 1) 0 (frD id p fn (.slice (some ⟨bd, 0, none⟩) n n)) rfl (by kernel_rfl) (by kernel_rfl) _ THR.out (by kernel_rfl) (by kernel_rfl)) ⟨lgPut_none _ _, rfl⟩
  case after =>
    intro x W i e hi hne hdi hdep
    match i, hi, hne, hdi, hdep with
    | 0, hi, _, _, _ => exact absurd hi (by decide)
    | 1, hi, _, _, _ => exact absurd hi (by decide)
    | 2, hi, _, _, _ => exact absurd hi (by decide)
    | 3, hi, _, _, _ => exact absurd hi (by decide)
    | 4, hi, _, _, _ => exact absurd hi (by decide)
    | 5, hi, _, _, _ => exact absurd hi (by decide)
    | 6, hi, _, _, _ => exact absurd hi (by decide)
    | 7, hi, _, _, _ => exact absurd hi (by decide)
    | 8, hi, _, _, _ => exact absurd hi (by decide)
    | 9, hi, _, _, _ => exact absurd hi (by decide)
    | 10, hi, _, _, _ => exact absurd hi (by decide)
    | 11, hi, _, _, _ => exact absurd hi (by decide)
    | 12, hi, _, _, _ => exact absurd hi (by decide)
    | 13, _, hne, _, _ => exact absurd rfl hne
    | _ + 14, _, _, hdi, _ => simp at hdi
  case done =>
    intro x9 W9 hW9 _
    have hW9 : W9 = wd.drew.setCells (w.heap.size + 1) 0 (frD id p fn (.slice (some ⟨bd, 0, none⟩) n n)).toList := hW9
    subst hW9
    simp only [putsV, Act.put, List.setIfInBounds_toArray, List.set_cons_succ, List.set_cons_zero, Nat.reduceAdd]
    generalize x9 0 = y0, x9 1 = y1, x9 2 = y2, x9 3 = y3, x9 4 = y4, x9 5 = y5, x9 6 = y6, x9 7 = y7, x9 8 = y8, x9 9 = y9, x9 10 = y10, x9 11 = y11, x9 12 = y12
    have RF : Row (wd.drew.setCells (w.heap.size + 1) 0 (frD id p fn (.slice (some ⟨bd, 0, none⟩) n n)).toList) (w.heap.size + 1) 28 (frD id p fn (.slice (some ⟨bd, 0, none⟩) n n)) :=
      ((((((((show Row wd.drew (w.heap.size + 1) 28 _ from R4.out).set 0 (.int .u8 7)).set 1 (.int .u64 (id : Int))).set 2 (.int .u64 (p : Int))).set 3 (.int .u64 0)).set 4 (.int .u64 0)).set 5 (.bool fn)).set 6 (.slice (some ⟨bd, 0, none⟩) n n)).set 7 (.slice none 0 0)
    have BF : Below w.heap.size w (wd.drew.setCells (w.heap.size + 1) 0 (frD id p fn (.slice (some ⟨bd, 0, none⟩) n n)).toList) :=
      HBD.out.drew.trans (below_setCells (w := wd) (by omega) _ _ _)
    have OF : (wd.drew.setCells (w.heap.size + 1) 0 (frD id p fn (.slice (some ⟨bd, 0, none⟩) n n)).toList).ownsRow w.heap.size 5 1 (.slice (some ⟨bd, 0, none⟩) n n) n (vb (Sd.cut s.b p t)) :=
      own_setCells (w.heap.size + 1) (fun k hk e => by
        have h1 : Ty wd k 5 := Ty.row (RowO.of_own HOWN.out) hk
        exact h1.ne ⟨_, R4.out⟩ (by decide) e) _ 0 wd.drew HOWN.out
    have RF := veil RF
    have BF := veil BF
    have OF := veil OF
    go_wp2_with fail
    refine bodyPost_ret (results_cell_row rfl _ _ (w.heap.size + 1) 28 (frD id p fn (.slice (some ⟨bd, 0, none⟩) n n)) (0, 0) _ rfl RF.out Tryz.underlying28 rfl (by kernel_rfl)) rfl ⟨bd, rfl, OF.out, BF.out⟩
end Sr
end Go.Proofs.YtehadfidenejdaaGreatDoor
