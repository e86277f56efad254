/-
  Out of SnTake, SnEq.
-/
import Derived.Test.YtehadfidenejdaaGreatDoorGp17
import Derived.Test.YtehadfidenejdaaGreatDoorGp18
import Derived.Laws.BytesArg

/-! Written by mksntake.py: the next frame of a sender. -/
namespace Go.Proofs.YtehadfidenejdaaGreatDoor
open Go Go.RowKit

namespace Sr
open Sd
def RTk (q : World) (ls : Value) (L2 : List Rn) (g : Nat) : Nat → World → Value → Prop
  | 0, W, _ => W = q
  | 1, W, u => Done q W ls u L2
  | _, W, _ => ∃ (u : Value) (W1 : World), Done q W1 ls u L2 ∧ W = W1.setCell ⟨g, 7, none⟩ u
theorem RTk.zero {q : World} {ls : Value} {L2 : List Rn} {g k : Nat} {W : World} {u : Value} (h : RTk q ls L2 g k W u) (hk : k ≤ 0) : W = q := by
  obtain rfl : k = 0 := by omega
  exact h
theorem result_two {P : Program} {fn : Func} {p q : Tmp} {ty : TypeId} (h : fn.results = #[.cell p ty, .tmp q]) (tmps : Array Value) (w : World) (g : Nat) (t : TypeId) (cs : Array Value) (hg : Row w g t cs) (n : Nat) (fs : Array Field) (v : Value)
    (hp : tmps.getD p undef = .pointer (some ⟨g, 0, none⟩)) (hq : tmps.getD q undef = v) (hu : P.underlying ty = some (.struct fs)) (hi : (P.info? ty).map (·.size) = some n) (hc : cs.size = n) :
    (results fn tmps).run P w = .ok (.tuple #[.agg cs, v]) w := by
  rw [results_cell_tmp h, hp, hq]
  simp [asAddr, Result.andThen, run_loadVar_row w g t ty cs (0, 0) _ hg hu rfl (by rw [hc]; exact hi)]
theorem row8 {w : World} {g : Nat} {c0 c1 c2 c3 c4 c5 c6 c7 : Value} {d0 d1 d2 d3 d4 d5 d6 d7 : Value} (h : Row w g 28 #[c0, c1, c2, c3, c4, c5, c6, c7]) : Row (((((((((w.setCell ⟨g, 0, none⟩ d0).setCell ⟨g, 1, none⟩ d1).setCell ⟨g, 2, none⟩ d2).setCell ⟨g, 3, none⟩ d3).setCell ⟨g, 4, none⟩ d4).setCell ⟨g, 5, none⟩ d5).setCell ⟨g, 6, none⟩ d6).setCell ⟨g, 7, none⟩ d7)) g 28 #[d0, d1, d2, d3, d4, d5, d6, d7] := by
  have h0 : Row _ g 28 #[d0, c1, c2, c3, c4, c5, c6, c7] := h.set 0 d0
  have h1 : Row _ g 28 #[d0, d1, c2, c3, c4, c5, c6, c7] := h0.set 1 d1
  have h2 : Row _ g 28 #[d0, d1, d2, c3, c4, c5, c6, c7] := h1.set 2 d2
  have h3 : Row _ g 28 #[d0, d1, d2, d3, c4, c5, c6, c7] := h2.set 3 d3
  have h4 : Row _ g 28 #[d0, d1, d2, d3, d4, c5, c6, c7] := h3.set 4 d4
  have h5 : Row _ g 28 #[d0, d1, d2, d3, d4, d5, c6, c7] := h4.set 5 d5
  have h6 : Row _ g 28 #[d0, d1, d2, d3, d4, d5, d6, c7] := h5.set 6 d6
  exact h6.set 7 d7
theorem keep8 {w : World} {B g : Nat} (hg : B ≤ g) (d0 d1 d2 d3 d4 d5 d6 d7 : Value) : Below B w (((((((((w.setCell ⟨g, 0, none⟩ d0).setCell ⟨g, 1, none⟩ d1).setCell ⟨g, 2, none⟩ d2).setCell ⟨g, 3, none⟩ d3).setCell ⟨g, 4, none⟩ d4).setCell ⟨g, 5, none⟩ d5).setCell ⟨g, 6, none⟩ d6).setCell ⟨g, 7, none⟩ d7)) :=
  ((((((((Below.refl B w).setCell (p := ⟨g, 0, none⟩) hg d0).setCell (p := ⟨g, 1, none⟩) hg d1).setCell (p := ⟨g, 2, none⟩) hg d2).setCell (p := ⟨g, 3, none⟩) hg d3).setCell (p := ⟨g, 4, none⟩) hg d4).setCell (p := ⟨g, 5, none⟩) hg d5).setCell (p := ⟨g, 6, none⟩) hg d6).setCell (p := ⟨g, 7, none⟩) hg d7
def depTk : Nat → List Nat
  | 0 => []
  | 1 => []
  | 2 => [1]
  | 3 => [2]
  | 4 => [3]
  | 5 => []
  | 6 => [4, 5]
  | 7 => [0]
  | 8 => [7]
  | 9 => [6, 8]
  | _ => []
def dclTk : Nat → List Nat
  | 2 => [1]
  | 3 => [1, 2]
  | 4 => [1, 2, 3]
  | 6 => [1, 2, 3, 4, 5]
  | 7 => [0]
  | 8 => [0, 7]
  | 9 => [0, 1, 2, 3, 4, 5, 6, 7, 8]
  | _ => []
def valTk (g : Nat) (ls : Value) (p q2 : Nat) : Nat → Value
  | 0 => .pointer (some ⟨g, 0, none⟩)
  | 1 => .pointer (some ⟨g, 0, none⟩)
  | 2 => .pointer (some ⟨g, 0, none⟩)
  | 3 => .pointer (some ⟨g, 7, none⟩)
  | 4 => ls
  | 5 => .agg #[.int .u64 (p : Int), .int .u64 (q2 : Int)]
  | 7 => .pointer (some ⟨g, 0, none⟩)
  | 8 => .pointer (some ⟨g, 7, none⟩)
  | _ => undef
/-- What Take answers. -/
def TakeP (w w' : World) (g : Nat) (s : Snd) (own : Nat → Prop) (n : Int) (fr : Nat) (e : Ending) : Prop :=
  match span s n fr with
  | none => e = .returned (.tuple #[.agg fr0, .bool false]) ∧ SnS w' g s own ∧ Below w.heap.size w w'
  | some (p, q) => ∃ b own', e = .returned (.tuple #[.agg (frD s.id p (finB s q) (.slice (some ⟨b, 0, none⟩) (q - p) (q - p))), .bool true]) ∧
      w'.ownsRow w.heap.size 5 1 (.slice (some ⟨b, 0, none⟩) (q - p) (q - p)) (q - p) (vb (Sd.cut s.b p q)) ∧ SnS w' g (tell s p q) own' ∧ After own w w' own' ∧ ¬ own' b
set_option maxHeartbeats 2000000 in
set_option maxRecDepth 20000 in
theorem take_no (w : World) (g : Nat) (s : Snd) (own : Nat → Prop) (h : SnS w g s own) (n : Int) (fr : Nat) (hno : s.reset = true ∨ n < 0) :
    Calls Tryz.prog 15 #[.pointer (some ⟨g, 0, none⟩), .int .i64 n, .int .u64 (fr : Int)] w fun e w' => TakeP w w' g s own n fr e := by
  have hsp : span s n fr = none := by unfold span; rw [if_pos hno]
  unfold TakeP
  rw [hsp]
  simp only
  have hb0 : Below w.heap.size w (w.alloc (.cells fr0 28)) := (Below.refl _ w).alloc (Nat.le_refl _) _
  have r6 : Row (w.alloc (.cells fr0 28)) w.heap.size 28 fr0 := Row.new _ _ _
  have HS := veil h
  obtain ⟨wr, cm, ls, C, L, h1, h2, h3⟩ := h
  have T1 := veil (there_yes (h1.below hb0))
  have c8 := (h1.below hb0).row.cell 8
  unfold snC at c8
  unfold fr0 at r6 hb0 T1 c8 ⊢
  have R6 := veil r6
  have HB0 := veil hb0
  clear h1 h2 h3 hsp r6 hb0
  by_cases hr : s.reset = true
  · rw [hr] at c8
    clear hno hr
    go_enter Tryz.func15, Tryz.ntmps15
    go_wp2_with fail
    generalize w.alloc (.cells #[.int .u8 0, .int .u64 0, .int .u64 0, .int .u64 0, .int .u64 0, .bool false, .slice none 0 0, .slice none 0 0] 28) = w0 at *
    refine T1.out.mono ?_
    rintro e1 w1 ⟨rfl, rfl⟩
    have k0 := R6.out.cell 0
    have k1 := R6.out.cell 1
    have k2 := R6.out.cell 2
    have k3 := R6.out.cell 3
    have k4 := R6.out.cell 4
    have k5 := R6.out.cell 5
    have k6 := R6.out.cell 6
    have k7 := R6.out.cell 7
    have f0 := R6.out.frozen 0
    have f1 := R6.out.frozen 1
    have f2 := R6.out.frozen 2
    have f3 := R6.out.frozen 3
    have f4 := R6.out.frozen 4
    have f5 := R6.out.frozen 5
    have f6 := R6.out.frozen 6
    have f7 := R6.out.frozen 7
    go_wp2_with fail
    refine bodyPost_ret (result_two rfl _ _ w.heap.size 28 _ (row8 R6.out) 8 _ _ rfl rfl Tryz.underlying28 (by kernel_rfl) rfl) rfl ⟨rfl, ?_⟩
    have hbz := HB0.out.trans (keep8 (w := w1) (Nat.le_refl w.heap.size) (.int .u8 0) (.int .u64 0) (.int .u64 0) (.int .u64 0) (.int .u64 0) (.bool false) (.slice none 0 0) (.slice none 0 0))
    exact ⟨HS.out.below hbz, hbz⟩
  · rw [show s.reset = false by simpa using hr] at c8
    have n1 : n < 0 := hno.resolve_left hr
    clear hno hr
    go_enter Tryz.func15, Tryz.ntmps15
    go_wp2_with fail
    generalize w.alloc (.cells #[.int .u8 0, .int .u64 0, .int .u64 0, .int .u64 0, .int .u64 0, .bool false, .slice none 0 0, .slice none 0 0] 28) = w0 at *
    refine T1.out.mono ?_
    rintro e1 w1 ⟨rfl, rfl⟩
    have k0 := R6.out.cell 0
    have k1 := R6.out.cell 1
    have k2 := R6.out.cell 2
    have k3 := R6.out.cell 3
    have k4 := R6.out.cell 4
    have k5 := R6.out.cell 5
    have k6 := R6.out.cell 6
    have k7 := R6.out.cell 7
    have f0 := R6.out.frozen 0
    have f1 := R6.out.frozen 1
    have f2 := R6.out.frozen 2
    have f3 := R6.out.frozen 3
    have f4 := R6.out.frozen 4
    have f5 := R6.out.frozen 5
    have f6 := R6.out.frozen 6
    have f7 := R6.out.frozen 7
    go_wp2_with fail
    refine bodyPost_ret (result_two rfl _ _ w.heap.size 28 _ (row8 R6.out) 8 _ _ rfl rfl Tryz.underlying28 (by kernel_rfl) rfl) rfl ⟨rfl, ?_⟩
    have hbz := HB0.out.trans (keep8 (w := w1) (Nat.le_refl w.heap.size) (.int .u8 0) (.int .u64 0) (.int .u64 0) (.int .u64 0) (.int .u64 0) (.bool false) (.slice none 0 0) (.slice none 0 0))
    exact ⟨HS.out.below hbz, hbz⟩
theorem own_lower {w : World} {B B' e z n : Nat} {v : Value} {xs : List Value} (h : w.ownsRow B e z v n xs) (hb : B' ≤ B) : w.ownsRow B' e z v n xs := by
  refine ⟨h.1, ?_⟩
  rcases h.2 with h2 | ⟨g, cap, cur, rfl, h3, rest⟩
  · exact .inl h2
  · exact .inr ⟨g, cap, cur, rfl, Nat.le_trans hb h3, rest⟩
theorem own_keepQ {W W' : World} {B e z n : Nat} {v : Value} {xs : List Value} {st : Nat → Prop} (h : W.ownsRow B e z v n xs) (k : KeepP st W W') (hv : ∀ b, v.ownBlock = some b → ¬ st b) : W'.ownsRow B e z v n xs := by
  have hl := h.lt
  refine ⟨h.1, ?_⟩
  rcases h.2 with h2 | ⟨g, cap, cur, rfl, h3, h4, rest⟩
  · exact .inl h2
  · exact .inr ⟨g, cap, cur, rfl, h3, (k.block g (hl g rfl).2 (hv g rfl)).trans h4, rest⟩
theorem keep8P (w : World) (g : Nat) (d0 d1 d2 d3 d4 d5 d6 d7 : Value) : KeepP (fun k => k = g) w (((((((((w.setCell ⟨g, 0, none⟩ d0).setCell ⟨g, 1, none⟩ d1).setCell ⟨g, 2, none⟩ d2).setCell ⟨g, 3, none⟩ d3).setCell ⟨g, 4, none⟩ d4).setCell ⟨g, 5, none⟩ d5).setCell ⟨g, 6, none⟩ d6).setCell ⟨g, 7, none⟩ d7)) :=
  (((((((KeepP.setCell (st := fun k => k = g) rfl w 0 d0).trans (KeepP.setCell (st := fun k => k = g) rfl _ 1 d1)).trans (KeepP.setCell (st := fun k => k = g) rfl _ 2 d2)).trans (KeepP.setCell (st := fun k => k = g) rfl _ 3 d3)).trans (KeepP.setCell (st := fun k => k = g) rfl _ 4 d4)).trans (KeepP.setCell (st := fun k => k = g) rfl _ 5 d5)).trans (KeepP.setCell (st := fun k => k = g) rfl _ 6 d6)).trans (KeepP.setCell (st := fun k => k = g) rfl _ 7 d7)
/-- A sender that told a run. -/
theorem tell_ok {w W1 : World} {g : Nat} {wr cm ls u : Value} {s : Snd} {C L : List Rn} {p q : Nat} (h : SnOk w g wr cm ls s C L) {n : Int} {fr : Nat} (sp : Spans s n fr p q) {w5 : World} (h5 : w5.heap = (w.setCell ⟨g, 5, none⟩ (.int .u64 ((max (sn s) (plc s p q).2 : Nat) : Int))).heap)
    (hd : Done w5 W1 ls u (cut L (plc s p q))) : SnOk (W1.setCell ⟨g, 7, none⟩ u) g wr cm u (tell s p q) C (cut L (plc s p q)) ∧ (∀ k, OwnS g wr cm u k → OwnS g wr cm ls k ∨ w5.heap.size ≤ k) := by
  obtain ⟨hrep, hsn⟩ := tell_rep h.rep sp
  have hz : w5.heap.size = w.heap.size := by rw [h5]; simp [World.setCell]
  have b5 : ∀ k, k ≠ g → w5.heap[k]? = w.heap[k]? := fun k hk => by rw [h5]; exact Below.heap_setCell _ _ _ k (fun e => hk e)
  have r5 : Row w5 g 72 ((snC wr cm ls s).setIfInBounds 5 (.int .u64 ((max (sn s) (plc s p q).2 : Nat) : Int))) := by
    have := h.row.set 5 (.int .u64 ((max (sn s) (plc s p q).2 : Nat) : Int))
    show w5.heap[g]? = _
    rw [h5]
    exact this
  have r1 := (hd.keep.block g (by rw [hz]; exact h.row.lt) (fun e => h.gl e)).trans r5
  have hug : u.ownBlock ≠ some g := fun e => by
    rcases hd.stay g e with q1 | q1
    · exact h.gl q1
    · have := h.row.lt; omega
  have keep : ∀ (k : Nat), k < w.heap.size → k ≠ g → ls.ownBlock ≠ some k → (W1.setCell ⟨g, 7, none⟩ u).heap[k]? = w.heap[k]? := fun k h1 h2 h3 => by
    rw [Below.heap_setCell _ _ _ k (fun e => h2 e), hd.keep.block k (by rw [hz]; exact h1) (fun e => h3 e), b5 k h2]
  refine ⟨⟨?_, ?_, ?_, ?_, ?_, hrep⟩, ?_⟩
  · have := (show Row W1 g 72 _ from r1).set 7 u
    unfold snC at this ⊢
    rw [hsn]
    exact this
  · exact h.wrow.same (fun k e => keep k (h.wrow.lt k e) (fun q1 => h.gw (by rw [e, q1])) (fun q1 => (h.tw e).ne (h.tl q1) (by decide) rfl))
  · exact h.crow.same (fun k e => keep k (h.crow.lt k e) (fun q1 => h.gc (by rw [e, q1])) (fun q1 => h.cl k e q1))
  · exact RowO.setG hd.row hug 7 u
  · intro k e q1
    rcases hd.stay k q1 with q2 | q2
    · exact h.cl k e q2
    · have := h.crow.lt k e; omega
  · rintro k (e | e | e | e)
    · exact .inl (.inl e)
    · exact .inl (.inr (.inl e))
    · exact .inl (.inr (.inr (.inl e)))
    · exact (hd.stay k e).imp (fun q1 => .inr (.inr (.inr q1))) id
set_option maxHeartbeats 2000000 in
set_option maxRecDepth 20000 in
theorem take_live (w : World) (g : Nat) (s : Snd) (own : Nat → Prop) (h : SnS w g s own) (n fr : Nat) (hn : n ≤ 9223372036854775807) (hfr : fr ≤ 18446744073709551615) (hr : s.reset = false) :
    Calls Tryz.prog 15 #[.pointer (some ⟨g, 0, none⟩), .int .i64 (n : Int), .int .u64 (fr : Int)] w fun e w' => TakeP w w' g s own (n : Int) fr e := by
  have hb0 : Below w.heap.size w (w.alloc (.cells fr0 28)) := (Below.refl _ w).alloc (Nat.le_refl _) _
  have r6 : Row (w.alloc (.cells fr0 28)) w.heap.size 28 fr0 := Row.new _ _ _
  have HS := veil h
  obtain ⟨wr, cm, ls, C, L, h1, h2, h3⟩ := h
  have T1 := veil (there_yes (h1.below hb0))
  have c8 := (h1.below hb0).row.cell 8
  obtain ⟨V, hV⟩ : ∃ V, next s L n fr = V := ⟨_, rfl⟩
  have NX := next_any (h1.below hb0) n fr hn hfr
  have hnx := next_span h1.rep hr (n := n) fr
  rw [hV] at NX hnx
  obtain ⟨v1, v2⟩ := V
  unfold rcA at NX
  simp only at NX
  have NX := veil NX
  have HNX := veil hnx
  have HOK := veil (show SnOk w g wr cm ls s C L ∧ (∀ k, OwnS g wr cm ls k → own k) ∧ (∀ k, own k → k < w.heap.size) from ⟨h1, h2, h3⟩)
  unfold snC at c8
  rw [hr] at c8
  unfold fr0 at r6 hb0 T1 c8 NX
  have R6 := veil r6
  have HB0 := veil hb0
  have n1 : ¬ (n : Int) < 0 := by omega
  have w1' : IntKind.u64.wrap (n : Int) = (n : Int) := by rw [IntKind.wrap_u64]; omega
  have HR := veil hr
  clear h1 h2 h3 r6 hb0 hV hnx hr hn hfr
  go_enter Tryz.func15, Tryz.ntmps15
  go_wp2_with fail
  generalize w.alloc (.cells #[.int .u8 0, .int .u64 0, .int .u64 0, .int .u64 0, .int .u64 0, .bool false, .slice none 0 0, .slice none 0 0] 28) = w0 at *
  refine T1.out.mono ?_
  rintro e1 w1 ⟨rfl, rfl⟩
  go_wp2_with fail
  refine NX.out.mono ?_
  rintro e2 w2 ⟨rfl, hb2⟩
  have hb3 := (Below.refl w2.heap.size w2).alloc (Nat.le_refl _) (.cells #[.int .u64 (v1 : Int), .int .u64 (v2 : Int)] 77)
  have R8 := veil (show Row (w2.alloc (.cells #[.int .u64 (v1 : Int), .int .u64 (v2 : Int)] 77)) w2.heap.size 77 #[.int .u64 (v1 : Int), .int .u64 (v2 : Int)] from Row.new _ _ _)
  have R6' := veil (show Row (w2.alloc (.cells #[.int .u64 (v1 : Int), .int .u64 (v2 : Int)] 77)) w.heap.size 28 #[.int .u8 0, .int .u64 0, .int .u64 0, .int .u64 0, .int .u64 0, .bool false, .slice none 0 0, .slice none 0 0] from (R6.out.below hb2 R6.out.lt).below hb3 (R6.out.below hb2 R6.out.lt).lt)
  have HB3 := veil ((HB0.out.trans (hb2.mono HB0.out.size)).trans (hb3.mono ((HB0.out.trans (hb2.mono HB0.out.size)).size)))
  have HW2 := veil (show w.heap.size < w2.heap.size from Nat.lt_of_lt_of_le R6.out.lt hb2.size)
  clear hb2 hb3 NX T1 R6 HB0 c8
  cases hsp : span s (n : Int) fr with
  | none =>
    have hv := HNX.out.1 hsp
    injection hv with e1 e2
    subst e1 e2
    have HSP := veil hsp
    have R6z : Row (w2.alloc (.cells #[.int .u64 0, .int .u64 0] 77)) w.heap.size 28 #[.int .u8 0, .int .u64 0, .int .u64 0, .int .u64 0, .int .u64 0, .bool false, .slice none 0 0, .slice none 0 0] := R6'.out
    have R6 := veil R6z
    have HBz : Below w.heap.size w (w2.alloc (.cells #[.int .u64 0, .int .u64 0] 77)) := HB3.out
    have HB0 := veil HBz
    clear hsp R8 R6z HBz HB3 R6' HNX
    have k0 := R6.out.cell 0
    have k1 := R6.out.cell 1
    have k2 := R6.out.cell 2
    have k3 := R6.out.cell 3
    have k4 := R6.out.cell 4
    have k5 := R6.out.cell 5
    have k6 := R6.out.cell 6
    have k7 := R6.out.cell 7
    have f0 := R6.out.frozen 0
    have f1 := R6.out.frozen 1
    have f2 := R6.out.frozen 2
    have f3 := R6.out.frozen 3
    have f4 := R6.out.frozen 4
    have f5 := R6.out.frozen 5
    have f6 := R6.out.frozen 6
    have f7 := R6.out.frozen 7
    go_wp2_with fail
    refine bodyPost_ret (result_two rfl _ _ w.heap.size 28 _ (row8 R6.out) 8 _ _ rfl rfl Tryz.underlying28 (by kernel_rfl) rfl) rfl ?_
    have hbz := HB0.out.trans (keep8 (w := w2.alloc (.cells #[.int .u64 0, .int .u64 0] 77)) (Nat.le_refl w.heap.size) (.int .u8 0) (.int .u64 0) (.int .u64 0) (.int .u64 0) (.int .u64 0) (.bool false) (.slice none 0 0) (.slice none 0 0))
    unfold TakeP
    rw [HSP.out]
    exact ⟨rfl, HS.out.below hbz, hbz⟩
  | some pq =>
    obtain ⟨p, q⟩ := pq
    obtain ⟨hv, hlt⟩ := HNX.out.2 p q hsp
    have sp := span_some HOK.out.1.rep.fine hsp
    obtain ⟨q2, hq2⟩ : ∃ q2, (plc s p q).2 = q2 := ⟨_, rfl⟩
    have hv1 : v1 = p := by have := congrArg Prod.fst hv; exact this
    have hv2 : v2 = q2 := by have := congrArg Prod.snd hv; rw [← hq2]; exact this
    subst hv1 hv2
    rw [hq2] at hlt
    have n2 : ¬ (v2 : Int) = 0 := by omega
    have HSP := veil (show span s (n : Int) fr = some (v1, q) ∧ Spans s (n : Int) fr v1 q ∧ (plc s v1 q).2 = v2 ∧ v1 < v2 from ⟨hsp, sp, hq2, hlt⟩)
    clear hsp hv hlt sp hq2 HNX
    obtain ⟨m, hm⟩ : ∃ m, max (sn s) v2 = m := ⟨_, rfl⟩
    have hb23 : Below w.heap.size w (w2.alloc (.cells #[.int .u64 (v1 : Int), .int .u64 (v2 : Int)] 77)) := HB3.out
    have hok3 := HOK.out.1.below hb23
    have c5 := hok3.row.cell 5
    have f5 := hok3.row.frozen 5
    unfold snC at c5
    have d1 := R8.out.cell 1
    have m1 : max (sn s : Int) (v2 : Int) = (m : Int) := by omega
    have HOK3 := veil hok3
    have HM := veil hm
    clear hok3 hb23 hm
    go_wp2_with fail
    go_region
    -- the world behind the first store
    generalize hw5 : ((w2.alloc (.cells #[.int .u64 (v1 : Int), .int .u64 (v2 : Int)] 77)).setCell ⟨g, 5, none⟩ (.int .u64 (m : Int))).drew = w5 at *
    have h5 : w5.heap = ((w2.alloc (.cells #[.int .u64 (v1 : Int), .int .u64 (v2 : Int)] 77)).setCell ⟨g, 5, none⟩ (.int .u64 (m : Int))).heap := by rw [← hw5]; rfl
    have hgs : g < w.heap.size := HOK.out.1.row.lt
    have hw2s := HW2.out
    have r8 : Row w5.drew w2.heap.size 77 #[.int .u64 (v1 : Int), .int .u64 (v2 : Int)] := by
      show w5.heap[w2.heap.size]? = _
      rw [h5, Below.heap_setCell _ _ _ w2.heap.size (fun e => by have e : w2.heap.size = g := e; omega)]
      exact R8.out
    have r6 : Row w5.drew w.heap.size 28 #[.int .u8 0, .int .u64 0, .int .u64 0, .int .u64 0, .int .u64 0, .bool false, .slice none 0 0, .slice none 0 0] := by
      show w5.heap[w.heap.size]? = _
      rw [h5, Below.heap_setCell _ _ _ w.heap.size (fun e => by have e : w.heap.size = g := e; omega)]
      exact R6'.out
    have hz5 : w5.heap.size = w2.heap.size + 1 := by rw [h5]; simp [World.setCell]
    have hrow5 : RowO w5.drew 77 2 ls L.length (vr L) := by
      refine HOK3.out.lrow.same (fun k hk => ?_)
      show w5.heap[k]? = _
      rw [h5]
      exact Below.heap_setCell _ _ _ k (fun e => HOK3.out.gl (by rw [hk]; exact congrArg some e))
    have hg5 : Row w5.drew g 72 ((snC wr cm ls s).setIfInBounds 5 (.int .u64 (m : Int))) := by
      show w5.heap[g]? = _
      rw [h5]
      exact HOK3.out.row.set 5 (.int .u64 (m : Int))
    have hg5' : Row w5.drew g 72 #[.bool true, .int .u64 (s.id : Int), .int .u64 (s.credit : Int), wr, .bool s.last, .int .u64 (m : Int), cm, ls, .bool s.reset] := hg5
    obtain ⟨L2, hL2⟩ : ∃ L2, cut L (plc s v1 q) = L2 := ⟨_, rfl⟩
    have hplc : plc s v1 q = (v1, v2) := Prod.ext rfl HSP.out.2.2.1
    have hcu := cut_any w5.drew (r := (v1, v2)) hrow5 (by have := HOK3.out.rep.topL.2; have := HOK3.out.rep.fine.len; omega) HOK3.out.rep.cL (Nat.le_of_lt HSP.out.2.2.2)
    rw [← hplc, hL2, hplc] at hcu
    unfold rcA at hcu
    simp only at hcu
    have CU := veil hcu
    have C7 := veil (show w5.drew.cell? ⟨g, 7, none⟩ = some ls from hg5'.cell 7)
    have HG5 := veil hg5'
    have R1S := veil (show ∀ (W4 : World) (u : Value), Done w5.drew W4 ls u L2 → W4.cell? ⟨g, 7, none⟩ = some ls ∧ W4.frozen? ⟨g, 7, none⟩ = false from fun W4 u hD => by
      have hr := (hD.keep.block g HG5.out.lt (fun e => HOK3.out.gl e)).trans HG5.out
      exact ⟨Row.cell (show Row W4 g 72 _ from hr) 7, Row.frozen (show Row W4 g 72 _ from hr) 7⟩)
    have R8D := veil r8
    have R6D := veil r6
    have FINT := veil (show ∀ (W1 : World) (u : Value), Done w5.drew W1 ls u L2 → SnOk (W1.setCell ⟨g, 7, none⟩ u) g wr cm u (tell s v1 q) C L2 ∧ (∀ k, OwnS g wr cm u k → OwnS g wr cm ls k ∨ w5.heap.size ≤ k) from fun W1 u hD => by
      have := tell_ok HOK3.out HSP.out.2.1 (w5 := w5.drew) (u := u) (W1 := W1) (by rw [HSP.out.2.2.1, HM.out]; exact h5) (by rw [hL2]; exact hD)
      rw [hL2] at this
      exact this)
    have HZ := veil (show w5.heap.size = w2.heap.size + 1 ∧ g < w.heap.size ∧ w.heap.size < w2.heap.size from ⟨hz5, hgs, hw2s⟩)
    have HK5 := veil (show KeepP (fun k => k = g) w w5 from by
      have h9 : KeepP (fun k => k = g) w (w2.alloc (.cells #[.int .u64 (v1 : Int), .int .u64 (v2 : Int)] 77)) := KeepP.of_below HB3.out
      have h10 := h9.trans (KeepP.setCell (st := fun k => k = g) rfl _ 5 (.int .u64 (m : Int)))
      rw [← hw5]
      exact h10.trans (keep_drew _ _))
    clear hw5 h5 hgs hw2s r8 r6 hz5 hrow5 hg5 hg5' hL2 hplc hcu c5 f5 d1 m1 R8 R6' HB3 HW2
    have R8 := R8D
    go_wp2_with fail
    refine (wpIn_wide (n := 4)).1 ?_
    refine wpIn_region_any (by kernel_rfl) ?_
    refine anyIn_spine (valTk g ls v1 v2) (RTk w5.drew ls L2 g) undef [6, 9] [42, 43, 44, 45, 46, 47, 48, 49, 50, 100000] depTk dclTk (by kernel_rfl) (by decide) rfl (by decide) (by decide) ?ord (by decide) ?h0 ?fix ?cal ?don
    case ord =>
      intro k i j h1 h2
      match k, h1, h2 with
      | 0, h1, h2 =>
        obtain rfl := Option.some.inj h1
        obtain rfl := Option.some.inj h2
        decide
      | 1, _, h2 => simp at h2
      | _ + 2, h1, _ => simp at h1
    case fix =>
      intro x W4 m2 ii d u hR hdi hni hdep hlo hhi
      match ii, hdi, hni, hdep, hhi with
      | 0, hdi, _, _, _ =>
        obtain rfl := Option.some.inj hdi
        exact OI_value rfl rfl (about_none (by intro c h; cases h)) (by intro c h; cases h) (.pointer (some ⟨g, 0, none⟩)) W4 (by kernel_rfl) ⟨rfl, rfl⟩
      | 1, hdi, _, _, _ =>
        obtain rfl := Option.some.inj hdi
        exact OI_value rfl rfl (about_none (by intro c h; cases h)) (by intro c h; cases h) (.pointer (some ⟨g, 0, none⟩)) W4 (by kernel_rfl) ⟨rfl, rfl⟩
      | 2, hdi, _, hdep, _ =>
        obtain rfl := Option.some.inj hdi
        rw [updV_self (show x 1 = _ from hdep 1 (by simp [depTk]) (by decide))]
        exact OI_value rfl rfl (about_none (by intro c h; cases h)) (by intro c h; cases h) (.pointer (some ⟨g, 0, none⟩)) W4 (by kernel_rfl) ⟨rfl, rfl⟩
      | 3, hdi, _, hdep, _ =>
        obtain rfl := Option.some.inj hdi
        rw [updV_self (show x 2 = _ from hdep 2 (by simp [depTk]) (by decide))]
        exact OI_value rfl rfl (about_none (by intro c h; cases h)) (by intro c h; cases h) (.pointer (some ⟨g, 7, none⟩)) W4 (by kernel_rfl) ⟨rfl, rfl⟩
      | 4, hdi, _, hdep, hhi =>
        obtain rfl := Option.some.inj hdi
        rw [updV_self (show x 3 = _ from hdep 3 (by simp [depTk]) (by decide))]
        exact OI_value rfl rfl (about_none (by intro c h; cases h)) (by intro c h; cases h) (ls) W4 (lgRun_cell 70 _ ⟨g, 7, none⟩ _ _ rfl (by kernel_rfl) Tryz.underlying70 rfl _ (by rw [hR.zero (hhi 0 6 rfl (by decide))]; exact C7.out)) ⟨rfl, rfl⟩
      | 5, hdi, _, _, hhi =>
        obtain rfl := Option.some.inj hdi
        exact OI_value rfl rfl (about_none (by intro c h; cases h)) (by intro c h; cases h) (.agg #[.int .u64 (v1 : Int), .int .u64 (v2 : Int)]) W4 (lgRun_row 77 _ rfl w2.heap.size (by kernel_rfl) 77 #[.int .u64 (v1 : Int), .int .u64 (v2 : Int)] 2 _ Tryz.underlying77 (by kernel_rfl) rfl W4 (by rw [hR.zero (hhi 0 6 rfl (by decide))]; exact R8.out)) ⟨rfl, rfl⟩
      | 6, _, hni, _, _ => (exfalso; exact hni (by decide))
      | 7, hdi, _, hdep, _ =>
        obtain rfl := Option.some.inj hdi
        rw [updV_self (show x 0 = _ from hdep 0 (by simp [depTk]) (by decide))]
        exact OI_value rfl rfl (about_none (by intro c h; cases h)) (by intro c h; cases h) (.pointer (some ⟨g, 0, none⟩)) W4 (by kernel_rfl) ⟨rfl, rfl⟩
      | 8, hdi, _, hdep, _ =>
        obtain rfl := Option.some.inj hdi
        rw [updV_self (show x 7 = _ from hdep 7 (by simp [depTk]) (by decide))]
        exact OI_value rfl rfl (about_none (by intro c h; cases h)) (by intro c h; cases h) (.pointer (some ⟨g, 7, none⟩)) W4 (by kernel_rfl) ⟨rfl, rfl⟩
      | 9, _, hni, _, _ => (exfalso; exact hni (by decide))
      | _ + 10, hdi, _, _, _ => simp at hdi
    case cal =>
      intro x W4 k2 ii d u hR hk hdi hdep hu0 hup
      match k2, hk, hR, hu0, hup with
      | 0, hk, hR, hu0, hup =>
        obtain rfl := Option.some.inj hk
        obtain rfl := Option.some.inj hdi
        obtain rfl := hR
        rw [updV_self (show x 4 = _ from hdep 4 (by simp [depTk]) (by decide)), updV_self (show (updV x 4 _) 5 = _ from hdep 5 (by simp [depTk]) (by decide))]
        refine OI_call rfl rfl (by intro c h; cases h) 38 #[ls, .agg #[.int .u64 (v1 : Int), .int .u64 (v2 : Int)]] (fun _ _ => trivial) (by kernel_rfl) (by decide) ?_
        refine (callsIn_wide.2 CU.out).mono ?_
        rintro e w' ⟨u', rfl, hd⟩
        exact ⟨_, rfl, u', rfl, hd⟩
      | 1, hk, hR, hu0, hup =>
        obtain rfl := Option.some.inj hk
        obtain rfl := Option.some.inj hdi
        have h6 : x 6 = u := hup 0 6 rfl rfl
        rw [updV_self (show x 8 = _ from hdep 8 (by simp [depTk]) (by decide)), updV_self (show (updV x 8 _) 6 = u from h6)]
        have z1 := R1S.out W4 u hR
        refine OI_skip rfl rfl (about_none (by intro c h; cases h)) (by intro c h; cases h) _ (lgRun_store 70 _ _ ⟨g, 7, none⟩ u ls (RowO.one (Done.row hR)) rfl (by kernel_rfl) (by kernel_rfl) (by kernel_rfl) _ z1.1 z1.2) ⟨undef, (lgPut_none _ _).trans (put_far _ _ _ (by rw [puts_size]; exact Nat.le_of_ble_eq_true rfl)).symm, u, W4, hR, rfl⟩
      | _ + 2, hk, _, _, _ => simp at hk
    case h0 => exact rfl
    case don =>
      rintro x9 W9 u9 hR9 _ _
      obtain ⟨u, W1, hD9, rfl⟩ : ∃ (u : Value) (W1 : World), Done w5.drew W1 ls u L2 ∧ W9 = W1.setCell ⟨g, 7, none⟩ u := hR9
      simp only [putsV, Act.put, List.setIfInBounds_toArray, List.set_cons_succ, List.set_cons_zero, Nat.reduceAdd]
      generalize x9 0 = z0, x9 1 = z1, x9 2 = z2, x9 3 = z3, x9 4 = z4, x9 5 = z5, x9 6 = z6, x9 7 = z7, x9 8 = z8
      obtain ⟨fk, fo⟩ := FINT.out W1 u hD9
      have hW1s : w5.heap.size ≤ W1.heap.size := hD9.keep.size
      have hplc2 : min v2 s.b.length = q ∧ finB s q = decide (s.b.length < v2) := by
        have h1 := HSP.out.2.2.1
        have h2 := HSP.out.2.1.top
        have h3 : (plc s v1 q).2 = if s.last = true ∧ q = s.b.length then s.b.length + 1 else q := rfl
        rw [h1] at h3
        unfold finB
        by_cases c : s.last = true ∧ q = s.b.length
        · rw [if_pos c] at h3
          exact ⟨by omega, by rw [c.1, c.2]; simp; omega⟩
        · rw [if_neg c] at h3
          refine ⟨by omega, ?_⟩
          have : ¬ s.b.length < v2 := by omega
          simp only [this, decide_false]
          rcases Bool.eq_false_or_eq_true s.last with e | e
          · simp only [e, Bool.true_and, decide_eq_false_iff_not]; exact fun q9 => c ⟨e, q9⟩
          · simp [e]
      have FA := frame_any fk v1 v2 (by show v1 ≤ min v2 s.b.length; rw [hplc2.1]; exact HSP.out.2.1.le)
      have FA : Calls Tryz.prog 39 #[.pointer (some ⟨g, 0, none⟩), rcA (v1, v2)] (W1.setCell ⟨g, 7, none⟩ u) (fun e w' => ∃ b, e = .returned (.agg (frD s.id v1 (decide (s.b.length < v2)) (.slice (some ⟨b, 0, none⟩) (min v2 s.b.length - v1) (min v2 s.b.length - v1)))) ∧
        w'.ownsRow (W1.setCell ⟨g, 7, none⟩ u).heap.size 5 1 (.slice (some ⟨b, 0, none⟩) (min v2 s.b.length - v1) (min v2 s.b.length - v1)) (min v2 s.b.length - v1) (vb (Sd.cut s.b v1 (min v2 s.b.length))) ∧ Below (W1.setCell ⟨g, 7, none⟩ u).heap.size (W1.setCell ⟨g, 7, none⟩ u) w') := FA
      rw [hplc2.1, ← hplc2.2] at FA
      unfold rcA frD at FA
      simp only at FA
      generalize hW9 : W1.setCell ⟨g, 7, none⟩ u = W9 at *
      have hz9 : W9.heap.size = W1.heap.size := by rw [← hW9]; simp [World.setCell]
      have hlsg := HOK3.out
      -- what this call may have written
      have hk9 : KeepP (OwnS g wr cm ls) w W9 := by
        have a1 := KeepP.mono HK5.out (st' := OwnS g wr cm ls) (fun k e => .inl e)
        have a2 := onto a1 (keep_drew (fun _ => False) _) (fun _ _ h => h.elim)
        have a3 := onto a2 hD9.keep (fun k _ e => .inr (.inr (.inr e)))
        rw [← hW9]
        exact onto a3 (KeepP.setCell (st := fun k => k = g) rfl _ 7 u) (fun k _ e => .inl e)
      have hr8 : Row W9 w2.heap.size 77 #[.int .u64 (v1 : Int), .int .u64 (v2 : Int)] := by
        rw [← hW9]
        refine (Below.heap_setCell _ _ _ _ (fun e => by have e : w2.heap.size = g := e; have := HZ.out; omega)).trans ((hD9.keep.block _ (by have := HZ.out; show _ < w5.heap.size; omega) (fun e => by have := HOK.out.1.lrow.lt _ e; have := HZ.out; omega)).trans R8D.out)
      have hr6 : Row W9 w.heap.size 28 #[.int .u8 0, .int .u64 0, .int .u64 0, .int .u64 0, .int .u64 0, .bool false, .slice none 0 0, .slice none 0 0] := by
        rw [← hW9]
        refine (Below.heap_setCell _ _ _ _ (fun e => by have e : w.heap.size = g := e; have := HZ.out; omega)).trans ((hD9.keep.block _ (by have := HZ.out; show _ < w5.heap.size; omega) (fun e => by have := HOK.out.1.lrow.lt _ e; omega)).trans R6D.out)
      have FA := veil FA
      have FK := veil fk
      have FO := veil (show (∀ k, OwnS g wr cm u k → OwnS g wr cm ls k ∨ w5.heap.size ≤ k) ∧ w5.heap.size ≤ W9.heap.size from ⟨fo, by omega⟩)
      have HK9 := veil hk9
      have HR6 := veil hr6
      have e0 := hr8.cell 0
      have e1 := hr8.cell 1
      clear hD9 hW1s hplc2 fk fo hW9 hz9 hlsg hk9 hr8 hr6 R1S FINT CU C7 HG5 R8 R6D R8D HK5
      go_wp2_with fail
      refine FA.out.mono ?_
      rintro e8 w8 ⟨bd, rfl, ho8, hb8⟩
      have R6 := veil (HR6.out.below hb8 HR6.out.lt)
      have HO8 := veil ho8
      have HB8 := veil hb8
      clear ho8 hb8 FA HR6 e0 e1
      have k0 := R6.out.cell 0
      have k1 := R6.out.cell 1
      have k2 := R6.out.cell 2
      have k3 := R6.out.cell 3
      have k4 := R6.out.cell 4
      have k5 := R6.out.cell 5
      have k6 := R6.out.cell 6
      have k7 := R6.out.cell 7
      have f0 := R6.out.frozen 0
      have f1 := R6.out.frozen 1
      have f2 := R6.out.frozen 2
      have f3 := R6.out.frozen 3
      have f4 := R6.out.frozen 4
      have f5 := R6.out.frozen 5
      have f6 := R6.out.frozen 6
      have f7 := R6.out.frozen 7
      go_wp2_with fail
      refine bodyPost_ret (result_two rfl _ _ w.heap.size 28 _ (row8 R6.out) 8 _ _ rfl rfl Tryz.underlying28 (by kernel_rfl) rfl) rfl ?_
      unfold TakeP
      rw [HSP.out.1]
      have kz := keep8P w8 w.heap.size (.int .u8 7) (.int .u64 (s.id : Int)) (.int .u64 (v1 : Int)) (.int .u64 0) (.int .u64 0) (.bool (finB s q)) (.slice (some ⟨bd, 0, none⟩) (q - v1) (q - v1)) (.slice none 0 0)
      have hbd := (HO8.out.lt bd rfl).1
      have hlt := FK.out.lt
      have hno : ∀ k, OwnS g wr cm u k → k ≠ w.heap.size := fun k e q9 => by
        rcases FO.out.1 k e with e | e
        · have := HOK.out.1.lt k e; omega
        · have := HZ.out; omega
      have h9 := HZ.out
      have hFO := FO.out.2
      refine ⟨bd, OwnS g wr cm u, rfl, ?_, ?_, ⟨?_, fun k e => ?_⟩, fun e => by have := hlt bd e; omega⟩
      · exact own_keepQ (own_lower HO8.out (by omega)) kz (fun k hk e => by injection hk with hk; have hk : bd = k := hk; have e : k = w.heap.size := e; omega)
      · exact ⟨wr, cm, u, C, L2, (FK.out.below HB8.out).same (fun k e => kz.block k (Nat.lt_of_lt_of_le (hlt k e) HB8.out.size) (hno k e)), fun k e => e, fun k e => Nat.lt_of_lt_of_le (Nat.lt_of_lt_of_le (hlt k e) HB8.out.size) kz.size⟩
      · exact onto (onto (KeepP.mono HK9.out (fun k e => HOK.out.2.1 k e)) (KeepP.of_below (st := fun _ => False) HB8.out) (fun _ _ h => h.elim)) kz (fun k hk e => by have e : k = w.heap.size := e; omega)
      · rcases FO.out.1 k e with e | e
        · exact .inl (HOK.out.2.1 k e)
        · exact .inr (by omega)
/-- What Take answers. -/
theorem take_any (w : World) (g : Nat) (s : Snd) (own : Nat → Prop) (h : SnS w g s own) (n : Int) (fr : Nat) (hn : n ≤ 9223372036854775807) (hfr : fr ≤ 18446744073709551615) :
    Calls Tryz.prog 15 #[.pointer (some ⟨g, 0, none⟩), .int .i64 n, .int .u64 (fr : Int)] w fun e w' => TakeP w w' g s own n fr e := by
  by_cases hno : s.reset = true ∨ n < 0
  · exact take_no w g s own h n fr hno
  · simp only [not_or, Bool.not_eq_true] at hno
    obtain ⟨k, rfl⟩ : ∃ k : Nat, n = (k : Int) := ⟨n.toNat, by omega⟩
    exact take_live w g s own h k fr (by omega) hfr hno.1
end Sr
end Go.Proofs.YtehadfidenejdaaGreatDoor

/-! bytes.Equal of slices in memory. -/
namespace Go.Proofs.YtehadfidenejdaaGreatDoor
open Go Go.RowKit

namespace Sr
open Sd
/-- Bytes in a slice. -/
def BIn (w : World) (a : Option Addr) (n : Nat) (b : List By) : Prop := b.length = n ∧ (n ≠ 0 → ∃ g o, a = some ⟨g, o, none⟩ ∧ ∀ i, i < n → w.cell? ⟨g, o + i, none⟩ = some (.int .u8 (v8 (gb b i))))
theorem bIn_sl {w : World} {p : SL} (h : p.Ok w) : BIn w p.a p.len p.b := ⟨h.hb, fun hn => ⟨p.g, p.off, h.at_ (by omega), h.cell⟩⟩
theorem bIn_row {w : World} {a : Option Addr} {n c : Nat} {b : List By} (h : RowO w 5 1 (.slice a n c) n (vb b)) : BIn w a n b := by
  have hl : b.length = n := by have := h.1; simpa [vb] using this
  refine ⟨hl, fun hn => ?_⟩
  rcases h.2 with ⟨_, h0⟩ | ⟨g, o, cap, cur, h1, _⟩
  · exact absurd h0 hn
  · injection h1 with e1 _ _
    refine ⟨g, o, e1, fun i hi => ?_⟩
    obtain ⟨g', o', q1, q2⟩ := h.cells i (.int .u8 (v8 (gb b i))) (by
      unfold vb gb
      rw [List.getElem?_map, List.getElem?_eq_getElem (by omega)]
      rfl)
    rw [e1] at q1
    injection q1 with q1
    injection q1 with q1 q3
    subst q1 q3
    exact q2
theorem BIn.conv {w : World} {a : Option Addr} {n c : Nat} {b : List By} (h : BIn w a n b) (W : World) (hW : W.heap = w.heap) :
    (convert 24 9 (.slice a n c)).run Tryz.prog W = .ok (.string (strOfNums (b.map v8))) W := by
  obtain ⟨hl, h⟩ := h
  rcases Nat.eq_zero_or_pos n with e | e
  · subst e
    obtain rfl : b = [] := List.eq_nil_of_length_eq_zero hl
    rw [run_convert_bytes_string W 24 9 5 a 0 c Tryz.underlying24 Tryz.underlying5 Tryz.underlying9]
    cases a <;> simp [Conv.bytesToString, loadCells]
    all_goals rfl
  · obtain ⟨g, o, rfl, hc⟩ := h (by omega)
    refine run_convert_bytes_arg W 24 5 Tryz.underlying24 Tryz.underlying5 g o n c (b.map v8) (by simpa using hl) (fun i hi => ?_) 9 Tryz.underlying9
    rw [show W.cell? ⟨g, o + i, none⟩ = w.cell? ⟨g, o + i, none⟩ by unfold World.cell?; rw [hW], hc i hi]
    unfold gb
    rw [List.getD_eq_getElem?_getD, List.getElem?_map, List.getElem?_eq_getElem (by omega)]
    rfl
theorem str_inj {b c : List By} : strOfNums (b.map v8) = strOfNums (c.map v8) ↔ b = c := by
  constructor
  · intro h
    have h := congrArg (fun x : ByteArray => x.data.toList) h
    simp only [strOfNums_data, List.map_map] at h
    refine List.map_inj_right (f := (fun n : Int => UInt8.ofNat n.toNat) ∘ v8) ?_ |>.1 h
    intro x y hxy
    have hxy : UInt8.ofNat (v8 x).toNat = UInt8.ofNat (v8 y).toNat := hxy
    have := congrArg UInt8.toNat hxy
    simp only [v8, Int.toNat_natCast, UInt8.toNat_ofNat'] at this
    have hx := x.isLt
    have hy := y.isLt
    apply BitVec.eq_of_toNat_eq
    omega
  · rintro rfl; rfl
set_option maxHeartbeats 1000000 in
theorem equal_any {w : World} {a1 a2 : Option Addr} {n m c d : Nat} {b1 b2 : List By} (h1 : BIn w a1 n b1) (h2 : BIn w a2 m b2) :
    Calls Tryz.prog 126 #[.slice a1 n c, .slice a2 m d] w fun e w' => e = .returned (.bool (decide (b1 = b2))) ∧ w' = w := by
  have k1 := fun W hW => h1.conv (c := c) W hW
  have k2 := fun W hW => h2.conv (c := d) W hW
  have hd : ((strOfNums (b1.map v8)).toList == (strOfNums (b2.map v8)).toList) = decide (b1 = b2) := by
    rw [Bool.eq_iff_iff, beq_iff_eq, decide_eq_true_eq, ← str_inj, ByteArray.toList_eq, ByteArray.toList_eq]
    constructor
    · intro h
      exact ByteArray.ext (Array.toList_inj.1 h)
    · intro h
      rw [h]
  clear h1 h2
  generalize strOfNums (b1.map v8) = s1 at *
  generalize strOfNums (b2.map v8) = s2 at *
  generalize decide (b1 = b2) = D at *
  have K1 := k1 w rfl
  have K2 := k2 w rfl
  have HD := veil hd
  clear hd
  go_enter Tryz.func126, Tryz.ntmps126
  go_wp2_with fail
  go_ret
  exact ⟨by rw [← HD.out]; rfl, rfl⟩
theorem fresh_q {w : World} {g : Nat} {wr cm ls : Value} {s : Snd} {C L : List Rn} (h : SnOk w g wr cm ls s C L) : Calls Tryz.prog 9 #[.pointer (some ⟨g, 0, none⟩)] w fun e w' => e = .returned (.int .u64 (s.fresh : Int)) ∧ ∃ q, w' = w.drewN q := by
  have T1 := veil (there_yes h)
  have S1 := veil (fun q => size_any (h.below ((below_drewN (Below.refl _ w) q))))
  have c5 := h.row.cell 5
  have hl := h.rep.fine.len
  have hf := h.rep.fine.fr
  have hm : min (sn s : Int) (s.b.length : Int) = (s.fresh : Int) := by
    unfold sn
    split
    · omega
    · rename_i e; have := (h.rep.fine.ended e).2; omega
  clear h hl hf
  unfold snC at c5
  obtain ⟨n, hn⟩ : ∃ n, s.b.length = n := ⟨_, rfl⟩
  obtain ⟨m, hm2⟩ : ∃ m, sn s = m := ⟨_, rfl⟩
  obtain ⟨f, hf2⟩ : ∃ f, s.fresh = f := ⟨_, rfl⟩
  rw [hn] at S1 hm
  rw [hm2] at hm
  rw [hm2] at c5
  rw [hf2] at hm ⊢
  clear hn hm2 hf2
  go_enter Tryz.func9, Tryz.ntmps9
  go_wp2_with fail
  refine T1.out.mono ?_
  rintro e1 w1 ⟨rfl, rfl⟩
  go_wp2_with fail
  go_quiet (first | (go_at_call 34; exact Calls.quiet_of_same (S1.out _)))
  go_wp2_with fail
  go_ret
  exact ⟨rfl, _, rfl⟩
end Sr
end Go.Proofs.YtehadfidenejdaaGreatDoor
