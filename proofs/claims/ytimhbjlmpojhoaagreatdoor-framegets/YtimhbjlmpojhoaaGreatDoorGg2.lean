/-
  Out of AeVals, AeVals2, FrChain, RgMem, ChaSame, FrMem, FrLis, RgSet, FrTools, FrGetA, FrMapP, FrProg, RgVr, FrGetB, FrGetC, FrSeq.
-/
import Derived.Test.YtimhbjlmpojhoaaGreatDoorGg1
import Derived.Test.YtimhbjlmpojhoaaGreatDoorRows
import Derived.BigQuiet
import Derived.BigRegion
import Derived.Deep.MidRow
import Derived.Maps.Keyed

/-! A region that draws its order, reads and calls: each operation has one value, whatever the order. No program in sight. -/
namespace Go.Proofs.YtimhbjlmpojhoaaGreatDoor
open Go Go.RowKit

/-- The slots of a list, from a number on, filled. -/
def putsV (a : Act) : List Nat → Nat → (Nat → Value) → Act
  | [], _, _ => a
  | d :: ds, k, x => putsV (a.put (some d) (x k)) ds (k + 1) x
theorem put_comm (a : Act) (d e : Nat) (u v : Value) (h : d ≠ e) : (a.put (some d) u).put (some e) v = (a.put (some e) v).put (some d) u := by
  simp only [Act.put]
  rw [Array.setIfInBounds_comm _ _ h]
theorem put_again (a : Act) (d : Nat) (u v : Value) : (a.put (some d) u).put (some d) v = a.put (some d) v := by
  simp only [Act.put]
  rw [Array.setIfInBounds_setIfInBounds]
theorem puts_comm (d : Nat) (v : Value) : ∀ (ds : List Nat) (a : Act) (k : Nat) (x : Nat → Value), d ∉ ds → (putsV a ds k x).put (some d) v = putsV (a.put (some d) v) ds k x
  | [], _, _, _, _ => rfl
  | e :: ds, a, k, x, h => by
    simp only [List.mem_cons, not_or] at h
    rw [putsV, puts_comm d v ds _ _ _ h.2, putsV, put_comm _ _ _ _ _ (Ne.symm h.1)]
theorem puts_congr : ∀ (ds : List Nat) (a : Act) (k : Nat) (x y : Nat → Value), (∀ j, k ≤ j → x j = y j) → putsV a ds k x = putsV a ds k y
  | [], _, _, _, _, _ => rfl
  | e :: ds, a, k, x, y, h => by
    rw [putsV, putsV, h k (Nat.le_refl _), puts_congr ds _ _ x y (fun j hj => h j (by omega))]
theorem puts_put : ∀ (ds : List Nat) (a : Act) (k i d : Nat) (x : Nat → Value) (v : Value), ds.Nodup → ds[i]? = some d → (putsV a ds k x).put (some d) v = putsV a ds k (updV x (k + i) v)
  | [], _, _, _, _, _, _, _, h => by simp at h
  | e :: ds, a, k, 0, d, x, v, hn, h => by
    simp only [List.getElem?_cons_zero, Option.some.injEq] at h
    subst h
    rw [List.nodup_cons] at hn
    rw [putsV, puts_comm _ _ _ _ _ _ hn.1, put_again, putsV]
    have e1 : updV x (k + 0) v k = v := by unfold updV; rw [if_pos (Nat.add_zero k).symm]
    rw [e1]
    exact puts_congr _ _ _ _ _ fun j hj => by unfold updV; rw [if_neg (by omega)]
  | e :: ds, a, k, i + 1, d, x, v, hn, h => by
    rw [List.nodup_cons] at hn
    rw [List.getElem?_cons_succ] at h
    rw [putsV, puts_put ds _ _ i d x v hn.2 h, putsV]
    have e1 : updV x (k + (i + 1)) v k = x k := by unfold updV; rw [if_neg (by omega)]
    rw [e1, show k + 1 + i = k + (i + 1) by omega]

section
variable {F : Fence} {n : Nat} {P : Program} {ops : Array Oper} {Q : Exit → Act → World → Prop} {md : Region.Mode}
end
end Go.Proofs.YtimhbjlmpojhoaaGreatDoor

/-! A region that draws its order, reads and calls, inside a round: its slots may hold anything. No program in sight. -/
namespace Go.Proofs.YtimhbjlmpojhoaaGreatDoor
open Go Go.RowKit

theorem put_self (a : Act) (d : Nat) : a.put (some d) (a.tmps.getD d undef) = a := by
  simp only [Act.put]
  congr 1
  apply Array.ext_getElem?
  intro i
  rw [Array.getElem?_setIfInBounds, Array.getD_eq_getD_getElem?]
  by_cases h : d = i
  · subst h
    rw [if_pos rfl]
    by_cases h2 : d < a.tmps.size
    · rw [if_pos h2, Array.getElem?_eq_getElem h2]
      rfl
    · rw [if_neg h2, Array.getElem?_eq_none (by omega)]
  · rw [if_neg h]
theorem puts_start (a : Act) : ∀ (ds : List Nat) (k : Nat), putsV a ds k (fun j => a.tmps.getD (ds.getD (j - k) 0) undef) = a
  | [], _ => rfl
  | d :: ds, k => by
    rw [putsV]
    simp only [Nat.sub_self, List.getD_cons_zero]
    rw [put_self]
    refine (puts_congr ds a (k + 1) _ _ fun j hj => ?_).trans (puts_start a ds (k + 1))
    rw [show j - k = (j - (k + 1)) + 1 by omega, List.getD_cons_succ]

section
variable {F : Fence} {n : Nat} {P : Program} {ops : Array Oper} {Q : Exit → Act → World → Prop} {md : Region.Mode}
theorem anyIn_vals2 {a0 : Act} {w0 W0 : World} (V : Nat → Value) (ds : List Nat) (dep : Nat → List Nat) (hd : edgesB md ops dep = true) (hlen : ds.length = ops.size) (hnd : ds.Nodup)
    (hW : Below w0.heap.size w0 W0)
    (hstep : ∀ (x : Nat → Value) (W : World) (i d : Nat), Below w0.heap.size w0 W → ds[i]? = some d → (∀ j ∈ dep i, x j = V j) → wpOpIn F n P ops Q i (fun a' W' => a' = (putsV a0 ds 0 x).put (some d) (V i) ∧ Below W.heap.size W W') (putsV a0 ds 0 x) W)
    (hdone : ∀ W, Below w0.heap.size w0 W → Q .normal (putsV a0 ds 0 V) W) : wpAnyIn F n P md ops Q ops.size (Array.replicate ops.size false) a0 W0 := by
  refine anyIn_inv2 (Inv := fun l a W => ∃ x : Nat → Value, a = putsV a0 ds 0 x ∧ JV V w0 l W x) dep ops.size rfl hd ?_ ?_ _ _ _ _ (by simp) (by simp) ⟨_, (puts_start a0 ds 0).symm, JV.start _ _ _ _ hW _⟩
  · rintro l a W i _ ⟨x, rfl, hJ⟩ hi _ hdep
    have hi' : i < ds.length := by omega
    have hdi : ds[i]? = some ds[i] := List.getElem?_eq_getElem hi'
    refine wpOpIn_mono ?_ (hstep x W i ds[i] hJ.bel hdi (fun j hj => hJ.g j (hdep j hj)))
    rintro a' W' ⟨rfl, hb⟩
    refine ⟨updV x i (V i), ?_, hJ.next i W' hb _ rfl⟩
    rw [puts_put ds a0 0 i _ x _ hnd hdi, Nat.zero_add]
  · rintro l a W ⟨x, rfl, hJ⟩ hon
    have e : putsV a0 ds 0 x = putsV a0 ds 0 V := by
      have key : ∀ (ds' : List Nat) (b : Act) (k : Nat), k + ds'.length = ops.size → putsV b ds' k x = putsV b ds' k V := by
        intro ds'
        induction ds' with
        | nil => intro _ _ _; rfl
        | cons d ds' ih =>
          intro b k hk
          simp only [List.length_cons] at hk
          rw [putsV, putsV, hJ.g k (hon k (by omega)), ih _ _ (by omega)]
      exact key ds a0 0 (by omega)
    rw [e]
    exact hdone W hJ.bel
end
end Go.Proofs.YtimhbjlmpojhoaaGreatDoor

/-! A region that draws its order, in which calls hand a row of the call's own from one to the next, and all else only reads. No program in sight. -/
namespace Go.Proofs.YtimhbjlmpojhoaaGreatDoor
open Go Go.RowKit

section
variable {F : Fence} {n : Nat} {P : Program} {ops : Array Oper} {Q : Exit → Act → World → Prop} {md : Region.Mode}
end
end Go.Proofs.YtimhbjlmpojhoaaGreatDoor

/-! Ranges in memory. -/
namespace Go.Proofs.YtimhbjlmpojhoaaGreatDoor
open Go Go.RowKit

def gr (l : List (Nat × Nat)) (j : Nat) : Nat × Nat := l[j]?.getD (0, 0)
/-- A slice of ranges, and what lies in it. -/
structure RL where
  a : Option Addr
  len : Nat
  cap : Nat
  g : Nat
  off : Nat
  l : List (Nat × Nat)
structure RL.Ok (w : World) (s : RL) : Prop where
  hb : s.l.length = s.len
  hcap : s.len ≤ s.cap
  nil : s.a = none → s.len = 0 ∧ s.cap = 0
  at_ : 0 < s.len → s.a = some ⟨s.g, s.off, none⟩
  lt : 0 < s.len → s.g < w.heap.size
  cell : ∀ j : Nat, j < s.len → w.cell? ⟨s.g, s.off + j * 2, none⟩ = some (.int .u64 ((gr s.l j).1 : Int)) ∧ w.cell? ⟨s.g, s.off + j * 2 + 1, none⟩ = some (.int .u64 ((gr s.l j).2 : Int))
  small : ∀ j, (gr s.l j).1 < 18446744073709551616 ∧ (gr s.l j).2 < 18446744073709551616
theorem RL.Ok.same {w w' : World} {s : RL} (h : s.Ok w) (hs : 0 < s.len → w'.heap[s.g]? = w.heap[s.g]?) (hz : w.heap.size ≤ w'.heap.size) : s.Ok w' :=
  ⟨h.hb, h.hcap, h.nil, h.at_, fun p => Nat.lt_of_lt_of_le (h.lt p) hz, fun j hj => ⟨(World.cell?_of_block (a := ⟨s.g, s.off + j * 2, none⟩) (hs (by omega))).trans (h.cell j hj).1, (World.cell?_of_block (a := ⟨s.g, s.off + j * 2 + 1, none⟩) (hs (by omega))).trans (h.cell j hj).2⟩, h.small⟩
theorem RL.Ok.below {w w' : World} {s : RL} (h : s.Ok w) (hb : Below w.heap.size w w') : s.Ok w' := h.same (fun p => hb.block _ (h.lt p)) hb.size


end Go.Proofs.YtimhbjlmpojhoaaGreatDoor

/-! What SameBytes answers of slices with the same bytes. -/
namespace Go.Proofs.YtimhbjlmpojhoaaGreatDoor
open Go Go.RowKit

set_option maxHeartbeats 1000000 in
theorem same_sl (p q : SL) (w : World) (hp : p.Ok w) (hq : q.Ok w) (hb : p.b = q.b) (hl : p.len ≤ 8388608) :
    Calls Tryz.prog 10 #[.slice p.a p.len p.cap, .slice q.a q.len q.cap] w fun e w' => e = .returned (.bool true) ∧ Below w.heap.size w w' := by
  have hpq : p.len = q.len := by rw [← hp.hb, ← hq.hb, hb]
  obtain ⟨pa, pl, pc, pg, po, pb⟩ := p
  obtain ⟨qa, ql, qc, qg, qo, qb⟩ := q
  simp only at hb hpq hl ⊢
  subst hb hpq
  have HP := veil hp
  have HQ := veil hq
  clear hp hq
  have h1 : ((pl : Int) != (pl : Int)) = false := by simp
  go_enter Tryz.func10, Tryz.ntmps10
  go_wp2
  go_loopw [5] (fun i wr => ∃ k : Nat, k ≤ pl ∧ i = .int .i64 k ∧ Below w.heap.size w wr)
    (fun i _ => pl - (intOf i).toNat)
  case atStart => exact ⟨0, Nat.zero_le _, rfl, Below.refl _ _⟩
  case round =>
    obtain ⟨k, hk, rfl, hbel⟩ := hrel
    by_cases hlt : k < pl
    · have e1 : pa = some ⟨pg, po, none⟩ := HP.out.at_ (show 0 < pl by omega)
      have e2 : qa = some ⟨qg, qo, none⟩ := HQ.out.at_ (show 0 < pl by omega)
      subst e1 e2
      have c1 : wr.cell? ⟨pg, po + k, none⟩ = some (.int .u8 (v8 (gb pb k))) := (hbel.cell (p := ⟨pg, po + k, none⟩) (HP.out.lt (show 0 < pl by omega))).trans (HP.out.cell k hlt)
      have c2 : wr.cell? ⟨qg, qo + k, none⟩ = some (.int .u8 (v8 (gb pb k))) := (hbel.cell (p := ⟨qg, qo + k, none⟩) (HQ.out.lt (show 0 < pl by omega))).trans (HQ.out.cell k hlt)
      generalize v8 (gb pb k) = y at *
      have hxy : (y != y) = false := by simp
      go_wp2
      go_region
      all_goals go_wp2
      all_goals
        go_roundw
        case rel => exact ⟨k + 1, by omega, by go_num, hbel.drew⟩
        case measure => simp [intOf]; omega
    · obtain rfl : pl = k := by omega
      go_wp2
      go_ret
      exact ⟨rfl, hbel⟩
end Go.Proofs.YtimhbjlmpojhoaaGreatDoor

/-! Ranges and frames in memory. -/
namespace Go.Proofs.YtimhbjlmpojhoaaGreatDoor
open Go Go.RowKit

/-- A frame, and the slices in it. -/
structure FrM where
  kind : Nat
  stream : Nat
  offset : Nat
  limit : Nat
  code : Nat
  fin : Bool
  data : SL
  ranges : RL
def FrM.cells (f : FrM) : Array Value := #[.int .u8 (f.kind : Int), .int .u64 (f.stream : Int), .int .u64 (f.offset : Int), .int .u64 (f.limit : Int), .int .u64 (f.code : Int), .bool f.fin, .slice f.data.a f.data.len f.data.cap, .slice f.ranges.a f.ranges.len f.ranges.cap]
def FrM.fr (f : FrM) : Fr.Frame := ⟨f.kind, f.stream, f.offset, f.limit, f.code, f.fin, f.data.b, f.ranges.l⟩
structure FrM.Ok (w : World) (f : FrM) : Prop where
  data : f.data.Ok w
  ranges : f.ranges.Ok w
  k8 : f.kind < 256
  st : f.stream < 18446744073709551616
  of : f.offset < 18446744073709551616
  li : f.limit < 18446744073709551616
  co : f.code < 18446744073709551616
theorem FrM.Ok.below {w w' : World} {f : FrM} (h : f.Ok w) (hb : Below w.heap.size w w') : f.Ok w' := ⟨h.data.below hb, h.ranges.below hb, h.k8, h.st, h.of, h.li, h.co⟩
theorem fr_cells {W : World} {g : Nat} {t : TypeId} {f : FrM} (r : Row W g t f.cells) : W.cell? ⟨g, 0, none⟩ = some (.int .u8 (f.kind : Int)) ∧ W.cell? ⟨g, 1, none⟩ = some (.int .u64 (f.stream : Int)) ∧ W.cell? ⟨g, 2, none⟩ = some (.int .u64 (f.offset : Int)) ∧ W.cell? ⟨g, 3, none⟩ = some (.int .u64 (f.limit : Int)) ∧ W.cell? ⟨g, 4, none⟩ = some (.int .u64 (f.code : Int)) ∧ W.cell? ⟨g, 5, none⟩ = some (.bool f.fin) ∧ W.cell? ⟨g, 6, none⟩ = some (.slice f.data.a f.data.len f.data.cap) ∧ W.cell? ⟨g, 7, none⟩ = some (.slice f.ranges.a f.ranges.len f.ranges.cap) :=
  ⟨r.cell 0, r.cell 1, r.cell 2, r.cell 3, r.cell 4, r.cell 5, r.cell 6, r.cell 7⟩

end Go.Proofs.YtimhbjlmpojhoaaGreatDoor

/-! Lists of frames in memory. -/
namespace Go.Proofs.YtimhbjlmpojhoaaGreatDoor
open Go Go.RowKit

section
variable {P : Program} {a : Act} {o : Oper}
theorem run_midF (ty : TypeId) (x : Operand) (g off : Nat) (cs : Array Value) (d : TypeDesc) (ho : o.op = .load ty x) (hx : a.eval x = .pointer (some ⟨g, off, none⟩)) (hu : P.underlying ty = some d) (hd : d.isRow = true) (hi : (P.info? ty).map (·.size) = some cs.size) (W : World) (hc : W.rangeAt g off cs.toList) :
    (execOp a.eval o).run P W = .ok (.value (.agg cs)) W := by
  have h := run_loadAt_mid (P := P) W g off ty cs.toList d hc hu hd (by simpa using hi)
  unfold execOp
  simp only [ho, hx, Sem.run_bind, h, Result.andThen_ok, Sem.run_pure]
theorem run_atF (t e : TypeId) (m : Nat) (x ix : Operand) (g off len cap j : Nat) (ho : o.op = .indexAddr t x ix) (hx : a.eval x = .slice (some ⟨g, off, none⟩) len cap) (hix : a.eval ix = .int .i64 (j : Int))
    (hu : P.underlying t = some (.slice e)) (hi : (P.info? e).map (·.size) = some m) (hj : j < len) (W : World) : (execOp a.eval o).run P W = .ok (.value (.pointer (some ⟨g, off + j * m, none⟩))) W := by
  have hsz : (sizeOf e).run P W = .ok m W := by
    cases hq : P.info? e with
    | none => simp [hq] at hi
    | some i =>
      have : i.size = m := by simpa [hq] using hi
      simp [sizeOf, typeInfo, hq, this]
  unfold execOp
  simp [ho, hx, hix, Instr.indexAt, asIntOf, run_underlying hu, hj, hsz, Addr.add_mid]
end
def f0M : FrM := ⟨0, 0, 0, 0, 0, false, ⟨none, 0, 0, 0, 0, []⟩, ⟨none, 0, 0, 0, 0, []⟩⟩
def gf (l : List FrM) (j : Nat) : FrM := l[j]?.getD f0M
/-- A slice of frames, and what lies in it. -/
structure FS where
  a : Option Addr
  len : Nat
  cap : Nat
  g : Nat
  off : Nat
  l : List FrM
structure FS.Ok (w : World) (s : FS) : Prop where
  hb : s.l.length = s.len
  hcap : s.len ≤ s.cap
  nil : s.a = none → s.len = 0 ∧ s.cap = 0
  at_ : 0 < s.len → s.a = some ⟨s.g, s.off, none⟩
  lt : 0 < s.len → s.g < w.heap.size
  cell : ∀ j : Nat, j < s.len → w.rangeAt s.g (s.off + j * 8) (gf s.l j).cells.toList
  each : ∀ j : Nat, j < s.len → (gf s.l j).Ok w
theorem FS.Ok.below {w w' : World} {s : FS} (h : s.Ok w) (hb : Below w.heap.size w w') : s.Ok w' :=
  ⟨h.hb, h.hcap, h.nil, h.at_, fun p => Nat.lt_of_lt_of_le (h.lt p) hb.size, fun j hj i v hv => (hb.cell (p := ⟨s.g, s.off + j * 8 + i, none⟩) (h.lt (by omega))).trans (h.cell j hj i v hv), fun j hj => (h.each j hj).below hb⟩
/-- The frames themselves. -/
def FS.fr (s : FS) : List Fr.Frame := s.l.map FrM.fr
theorem fr_get {s q : FS} (h : s.fr = q.fr) (j : Nat) (hj : j < s.l.length) : (gf s.l j).fr = (gf q.l j).fr := by
  have hl : s.l.length = q.l.length := by have := congrArg List.length h; simpa [FS.fr] using this
  have := congrArg (·[j]?) h
  simp only [FS.fr, List.getElem?_map, List.getElem?_eq_getElem hj, List.getElem?_eq_getElem (show j < q.l.length by omega), Option.map_some, Option.some.injEq] at this
  unfold gf
  rw [List.getElem?_eq_getElem hj, List.getElem?_eq_getElem (show j < q.l.length by omega)]
  exact this

end Go.Proofs.YtimhbjlmpojhoaaGreatDoor

/-! Ranges that are a set, one by one. -/
namespace Go.Proofs.YtimhbjlmpojhoaaGreatDoor
open Go Go.RowKit

theorem range_row {W : World} {g : Nat} {t : TypeId} {cs : Array Value} (h : Row W g t cs) : W.rangeAt g 0 cs.toList := by
  intro j v hj
  rw [Nat.zero_add, h.cell j]
  simpa using hj
end Go.Proofs.YtimhbjlmpojhoaaGreatDoor

/-! Helpers of layer 7: no program in sight but its types' numbers. -/
namespace Go.Proofs.YtimhbjlmpojhoaaGreatDoor
open Go Go.RowKit

/-- What is done to a row of the call's own: below its base all is as it was, and so is all that is no row of bytes. -/
structure Keep (base : Nat) (w w' : World) : Prop where
  bel : Below base w w'
  oth : ∀ (p : Nat) (cs : Array Value) (t : TypeId) (fr : Nat × Nat), t ≠ 5 → w.heap[p]? = some (.cells cs t fr) → w'.heap[p]? = some (.cells cs t fr)
theorem Keep.refl (base : Nat) (w : World) : Keep base w w := ⟨Below.refl _ _, fun _ _ _ _ _ h => h⟩
theorem Keep.trans {base : Nat} {a b c : World} (h : Keep base a b) (k : Keep base b c) : Keep base a c := ⟨h.bel.trans k.bel, fun p cs t fr ht hp => k.oth p cs t fr ht (h.oth p cs t fr ht hp)⟩
theorem Keep.row {base g : Nat} {t : TypeId} {cs : Array Value} {w w' : World} (h : Keep base w w') (ht : t ≠ 5) (r : Row w g t cs) : Row w' g t cs := h.oth g cs t _ ht r
theorem Keep.size {base : Nat} {w w' : World} (h : Keep base w w') : w.heap.size ≤ w'.heap.size := h.bel.size

theorem run_cellF {P : Program} {a : Act} {o : Oper} (ty : TypeId) (x : Operand) (p : Addr) (v : Value) (d : TypeDesc) (ho : o.op = .load ty x) (hx : a.eval x = .pointer (some p)) (hu : P.underlying ty = some d) (hd : (match d with | .struct _ | .array _ _ => true | _ => false) = false)
    (W : World) (hv : W.cell? p = some v) : (execOp a.eval o).run P W = .ok (.value v) W := by
  have hag : (isAgg ty).run P W = .ok false W := by
    unfold isAgg
    rw [Sem.run_bind, run_underlying hu W]
    cases d <;> simp_all
  unfold execOp
  simp [ho, hx, Instr.loadAt, Instr.sureAddr, loadVar, hag, hv]
/-- A row of the call's own, with bytes. -/
def RowK (base : Nat) (L : List By) (W : World) (v : Value) : Prop := W.ownsRow base 5 1 v L.length (vb L)

theorem may_kind {f : Fr.Frame} (h : Fr.mayF f) : 1 ≤ f.kind ∧ f.kind ≤ 14 := by
  obtain ⟨_, h⟩ := h
  revert h
  split <;> first | (intro h; exact False.elim h) | (intro _; omega)

theorem gf_succ (f : FrM) (l : List FrM) (j : Nat) : gf (f :: l) (j + 1) = gf l j := by simp [gf]
theorem own_shapeF {w : World} {base n : Nat} {v : Value} {xs : List Value} (h : w.ownsRow base 5 1 v n xs) : ∃ a c, v = .slice a n c := by
  rcases h.2 with ⟨rfl, rfl⟩ | ⟨g, c, _, rfl, _⟩
  · exact ⟨none, 0, rfl⟩
  · exact ⟨_, c, rfl⟩

/-- What is left of a slice behind k bytes. -/
def cutF (s : SL) (k : Nat) : SL := match s.a with
  | none => s
  | some _ => if k = s.cap then ⟨some ⟨s.g, s.off, none⟩, s.len - k, s.cap - k, s.g, s.off, s.b.drop k⟩ else ⟨some ⟨s.g, s.off + k, none⟩, s.len - k, s.cap - k, s.g, s.off + k, s.b.drop k⟩
/-- A slice whose place is told. -/
def SL.Told (s : SL) : Prop := ∀ p, s.a = some p → p = ⟨s.g, s.off, none⟩
theorem cutF_ok {w : World} {s : SL} (h : s.Ok w) (ht : s.Told) (k : Nat) (hk : k ≤ s.len) : (cutF s k).Ok w ∧ (cutF s k).Told ∧ (cutF s k).len = s.len - k ∧ (cutF s k).b = s.b.drop k ∧ (cutF s k).g = s.g := by
  unfold cutF
  cases ha : s.a with
  | none =>
    have h0 := (h.nil ha).1
    have hb := h.hb
    have e : s.b = [] := List.eq_nil_of_length_eq_zero (by omega)
    exact ⟨h, ht, by show s.len = s.len - k; omega, by show s.b = s.b.drop k; rw [e]; simp, rfl⟩
  | some p =>
    have hc := h.hcap
    simp only
    split
    · rename_i e
      refine ⟨⟨?_, ?_, fun q => by simp at q, fun _ => rfl, fun q => ?_, fun j hj => ?_⟩, fun q hq => (Option.some.inj hq).symm, rfl, rfl, rfl⟩
      · show (s.b.drop k).length = s.len - k; rw [List.length_drop, h.hb]
      · show s.len - k ≤ s.cap - k; omega
      · have : 0 < s.len - k := q; omega
      · have : j < s.len - k := hj; omega
    · refine ⟨⟨?_, ?_, fun q => by simp at q, fun _ => rfl, fun q => ?_, fun j hj => ?_⟩, fun q hq => (Option.some.inj hq).symm, rfl, rfl, rfl⟩
      · show (s.b.drop k).length = s.len - k; rw [List.length_drop, h.hb]
      · show s.len - k ≤ s.cap - k; omega
      · have : 0 < s.len - k := q
        exact h.lt (by omega)
      · have hj' : j < s.len - k := hj
        have := h.cell (k + j) (by omega)
        show w.cell? ⟨s.g, s.off + k + j, none⟩ = some (.int .u8 (v8 (gb (s.b.drop k) j)))
        rw [Nat.add_assoc, this]
        unfold gb
        rw [List.getElem?_drop]
theorem run_cutF {P : Program} {a : Act} {o : Oper} (t e : TypeId) (x lo : Operand) (s : SL) (n : Nat) (ht : s.Told) (hnil : s.a = none → s.len = 0 ∧ s.cap = 0) (ho : o.op = .slice t x (some lo) none none) (hx : a.eval x = .slice s.a s.len s.cap) (hh : a.eval lo = .int .i64 (n : Int)) (hu : P.underlying t = some (.slice e)) (hi1 : (P.info? e).map (·.size) = some 1) (hn : n ≤ s.len) (W : World) :
    (execOp a.eval o).run P W = .ok (.value (.slice (cutF s n).a (cutF s n).len (cutF s n).cap)) W := by
  have hsz : (sizeOf e).run P W = .ok 1 W := by
    cases hq : P.info? e with
    | none => simp [hq] at hi1
    | some i =>
      have : i.size = 1 := by simpa [hq] using hi1
      simp [sizeOf, typeInfo, hq, this]
  cases ha : s.a with
  | none =>
    obtain ⟨h1, h2⟩ := hnil ha
    have h3 : n = 0 := by omega
    have hd : cutF s n = s := by unfold cutF; rw [ha]
    rw [hd, ha, h1, h2]
    rw [ha, h1, h2] at hx
    subst h3
    unfold execOp
    simp [ho, hx, hh, Instr.sliceAt, Instr.slice, Instr.sliceBounds, Instr.sliceBound, asIntOf, run_underlying hu, hsz]
  | some p =>
    have hp := ht p ha
    rw [ha, hp] at hx
    unfold execOp
    by_cases e' : n = s.cap
    · have hd : cutF s n = ⟨some ⟨s.g, s.off, none⟩, s.len - n, s.cap - n, s.g, s.off, s.b.drop n⟩ := by unfold cutF; rw [ha]; simp only; rw [if_pos e']
      simp [ho, hx, hh, hd, Instr.sliceAt, Instr.slice, Instr.sliceBounds, Instr.sliceBound, asIntOf, run_underlying hu, hsz, hn, e'.symm]
    · have hd : cutF s n = ⟨some ⟨s.g, s.off + n, none⟩, s.len - n, s.cap - n, s.g, s.off + n, s.b.drop n⟩ := by unfold cutF; rw [ha]; simp only; rw [if_neg e']
      simp [ho, hx, hh, hd, Instr.sliceAt, Instr.slice, Instr.sliceBounds, Instr.sliceBound, asIntOf, run_underlying hu, hsz, hn, Addr.add_mid, show ¬ s.cap = n from fun q => e' q.symm]
theorem value_wp {P : Program} {a : Act} {o : Oper} {ops : Array Oper} {rest : List Oper} {w : World} {Q : Exit → Act → World → Prop} (hgd : o.guard = none) (v : Value) (he : (execOp a.eval o).run P w = .ok (.value v) w) (h : wpList P ops Q rest (a.put o.dst v) w) : wpList P ops Q (o :: rest) a w :=
  wpList_plain hgd fun _ hK => by
    unfold Oper.wp
    rw [he]
    exact hK _ _ h
/-- What reading a number brings about. -/
def rdN (b : List By) (e : Nat) : Nat × List By × Nat := if e = 0 then (match Fr.getN b with | none => (0, b, 4) | some (n, k) => (n, b.drop k, 0)) else (0, b, e)
theorem grown_refl (w : World) (r : Option Nat) : w.grownBy w r := ⟨rfl, rfl, rfl, Nat.le_refl _, fun _ _ _ => rfl⟩
theorem grown_set {w w' : World} {g j : Nat} {v : Value} (h : w.grownBy w' (some g)) : w.grownBy (w'.setCell ⟨g, j, none⟩ v) (some g) :=
  ⟨h.os, h.tape, h.output, by simp [World.setCell]; exact h.size, fun k hk hne => (Below.heap_setCell _ _ _ _ (fun e => hne (by rw [e]))).trans (h.block k hk hne)⟩
theorem SL.Ok.apart {w w' : World} {s : SL} {g : Nat} (h : s.Ok w) (hg : w.grownBy w' (some g)) (hne : 0 < s.len → s.g ≠ g) : s.Ok w' := h.same (fun p => hg.block _ (h.lt p) (fun e => hne p (Option.some.inj e))) hg.size

theorem run_cutU {P : Program} {a : Act} {o : Oper} (t e : TypeId) (x lo : Operand) (s : SL) (n : Nat) (ht : s.Told) (hnil : s.a = none → s.len = 0 ∧ s.cap = 0) (ho : o.op = .slice t x (some lo) none none) (hx : a.eval x = .slice s.a s.len s.cap) (hh : a.eval lo = .int .u64 (n : Int)) (hu : P.underlying t = some (.slice e)) (hi1 : (P.info? e).map (·.size) = some 1) (hn : n ≤ s.len) (W : World) :
    (execOp a.eval o).run P W = .ok (.value (.slice (cutF s n).a (cutF s n).len (cutF s n).cap)) W := by
  have hsz : (sizeOf e).run P W = .ok 1 W := by
    cases hq : P.info? e with
    | none => simp [hq] at hi1
    | some i =>
      have : i.size = 1 := by simpa [hq] using hi1
      simp [sizeOf, typeInfo, hq, this]
  cases ha : s.a with
  | none =>
    obtain ⟨h1, h2⟩ := hnil ha
    have h3 : n = 0 := by omega
    have hd : cutF s n = s := by unfold cutF; rw [ha]
    rw [hd, ha, h1, h2]
    rw [ha, h1, h2] at hx
    subst h3
    unfold execOp
    simp [ho, hx, hh, Instr.sliceAt, Instr.slice, Instr.sliceBounds, Instr.sliceBound, asIntOf, run_underlying hu, hsz]
  | some p =>
    have hp := ht p ha
    rw [ha, hp] at hx
    unfold execOp
    by_cases e' : n = s.cap
    · have hd : cutF s n = ⟨some ⟨s.g, s.off, none⟩, s.len - n, s.cap - n, s.g, s.off, s.b.drop n⟩ := by unfold cutF; rw [ha]; simp only; rw [if_pos e']
      simp [ho, hx, hh, hd, Instr.sliceAt, Instr.slice, Instr.sliceBounds, Instr.sliceBound, asIntOf, run_underlying hu, hsz, hn, e'.symm]
    · have hd : cutF s n = ⟨some ⟨s.g, s.off + n, none⟩, s.len - n, s.cap - n, s.g, s.off + n, s.b.drop n⟩ := by unfold cutF; rw [ha]; simp only; rw [if_neg e']
      simp [ho, hx, hh, hd, Instr.sliceAt, Instr.slice, Instr.sliceBounds, Instr.sliceBound, asIntOf, run_underlying hu, hsz, hn, Addr.add_mid, show ¬ s.cap = n from fun q => e' q.symm]
def headF (s : SL) (n : Nat) : SL := ⟨s.a, n, s.cap, s.g, s.off, s.b.take n⟩
theorem headF_ok {w : World} {s : SL} (h : s.Ok w) (n : Nat) (hn : n ≤ s.len) : (headF s n).Ok w :=
  ⟨by show (s.b.take n).length = n; rw [List.length_take, h.hb]; omega, Nat.le_trans hn h.hcap, fun e => ⟨by have := (h.nil e).1; show n = 0; omega, (h.nil e).2⟩, fun p => h.at_ (Nat.lt_of_lt_of_le p hn), fun p => h.lt (Nat.lt_of_lt_of_le p hn), fun j hj => by
    have hj' : j < n := hj
    refine (h.cell j (by omega)).trans ?_
    show _ = some (Value.int .u8 (v8 (gb (s.b.take n) j)))
    unfold gb
    rw [List.getElem?_take, if_pos hj']⟩
theorem run_headU {P : Program} {a : Act} {o : Oper} (t e : TypeId) (x hi : Operand) (s : SL) (n : Nat) (ht : s.Told) (hnil : s.a = none → s.len = 0 ∧ s.cap = 0) (hc : s.len ≤ s.cap) (ho : o.op = .slice t x none (some hi) none) (hx : a.eval x = .slice s.a s.len s.cap) (hh : a.eval hi = .int .u64 (n : Int)) (hu : P.underlying t = some (.slice e)) (hi1 : (P.info? e).map (·.size) = some 1) (hn : n ≤ s.len) (W : World) :
    (execOp a.eval o).run P W = .ok (.value (.slice (headF s n).a (headF s n).len (headF s n).cap)) W := by
  have hsz : (sizeOf e).run P W = .ok 1 W := by
    cases hq : P.info? e with
    | none => simp [hq] at hi1
    | some i =>
      have : i.size = 1 := by simpa [hq] using hi1
      simp [sizeOf, typeInfo, hq, this]
  have hnc : n ≤ s.cap := Nat.le_trans hn hc
  show _ = Result.ok (Next.value (.slice s.a n s.cap)) W
  cases ha : s.a with
  | none =>
    obtain ⟨h1, h2⟩ := hnil ha
    have h3 : n = 0 := by omega
    rw [ha, h1, h2] at hx
    subst h3
    rw [h2]
    unfold execOp
    simp [ho, hx, hh, Instr.sliceAt, Instr.slice, Instr.sliceBounds, Instr.sliceBound, asIntOf, run_underlying hu, hsz]
  | some p =>
    have hp := ht p ha
    rw [ha, hp] at hx
    rw [hp]
    unfold execOp
    by_cases e' : s.cap = 0
    · simp [ho, hx, hh, Instr.sliceAt, Instr.slice, Instr.sliceBounds, Instr.sliceBound, asIntOf, run_underlying hu, hsz, e']
      omega
    · simp [ho, hx, hh, Instr.sliceAt, Instr.slice, Instr.sliceBounds, Instr.sliceBound, asIntOf, run_underlying hu, hsz, hnc, e', Addr.add_mid]

theorem grown_trans {a b c : World} {g : Nat} (h : a.grownBy b (some g)) (k : b.grownBy c (some g)) : a.grownBy c (some g) :=
  ⟨k.os.trans h.os, k.tape.trans h.tape, k.output.trans h.output, Nat.le_trans h.size k.size, fun i hi hn => (k.block i (Nat.lt_of_lt_of_le hi h.size) hn).trans (h.block i hi hn)⟩
end Go.Proofs.YtimhbjlmpojhoaaGreatDoor

/-! frame's reader: number, numberUpTo, has. What may not be leaves by a panic with its error. -/
namespace Go.Proofs.YtimhbjlmpojhoaaGreatDoor
open Go Go.RowKit

/-- The reader's cells: what is left, and the type's bits. -/
def rrC (s : SL) (tb : Nat) : Array Value := #[.slice s.a s.len s.cap, .int .u64 (tb : Int)]
/-- A reader at a place, with what is left to be read; what it reads lies elsewhere. -/
structure Rd (w : World) (g : Nat) (s : SL) (tb : Nat) : Prop where
  row : Row w g 71 (rrC s tb)
  ok : s.Ok w
  told : s.Told
  ne : 0 < s.len → s.g ≠ g
  lens : Lens w
  gne : 1 ≠ g
  len : s.len ≤ 1048576
theorem Rd.below {w w' : World} {g tb : Nat} {s : SL} (h : Rd w g s tb) (hb : Below w.heap.size w w') : Rd w' g s tb := ⟨h.row.below hb h.row.lt, h.ok.below hb, h.told, h.ne, h.lens.step hb, h.gne, h.len⟩
theorem Lens.lt {w : World} (h : Lens w) : 1 < w.heap.size := by
  rcases Nat.lt_or_ge 1 w.heap.size with h0 | h0
  · exact h0
  · have := h.1
    simp [World.cell?, Array.getElem?_eq_none h0] at this
theorem Lens.same {w w' : World} (h : Lens w) (hb : w'.heap[1]? = w.heap[1]?) : Lens w' :=
  ⟨(World.cell?_of_block (a := ⟨1, 0, none⟩) hb).trans h.1, (World.cell?_of_block (a := ⟨1, 1, none⟩) hb).trans h.2.1, (World.cell?_of_block (a := ⟨1, 2, none⟩) hb).trans h.2.2.1, (World.cell?_of_block (a := ⟨1, 3, none⟩) hb).trans h.2.2.2⟩
theorem Lens.grown {w w' : World} {g : Nat} (h : Lens w) (hg : w.grownBy w' (some g)) (hne : 1 ≠ g) : Lens w' := h.same (hg.block _ h.lt (fun e => hne (Option.some.inj e)))
/-- How a call leaves by a panic with an error. -/
def pan (e : Nat) : Ending := .panicked [{ v := .iface 27 (.int .i64 (e : Int)), recovered := false }]

/-- What a reader's call brings about, told by what it reads: a panic with its error, or a value; and what is left. -/
def RdPost {α : Type} (w : World) (g : Nat) (s : SL) (tb : Nat) (m : Fr.R α) (V : α → World → Value → Prop) (x : Ending) (w' : World) : Prop :=
  (∃ e, m s.b = .error e ∧ x = pan e ∧ w.grownBy w' (some g)) ∨ (∃ a r v, ∃ s' : SL, m s.b = .ok (a, r) ∧ x = .returned v ∧ V a w' v ∧ Rd w' g s' tb ∧ s'.b = r ∧ s'.g = s.g ∧ s'.len ≤ s.len ∧ w.grownBy w' (some g))
theorem thenR_ok {α β : Type} {m : Fr.R α} {f : α → Fr.R β} {b b' : List By} {a : α} (h : m b = .ok (a, b')) : Fr.thenR m f b = f a b' := by
  unfold Fr.thenR
  rw [h]
theorem numR_none {b : List By} (h : Fr.getN b = none) : Fr.numR b = .error 4 := by unfold Fr.numR; rw [h]
theorem numR_some {b : List By} {n k : Nat} (h : Fr.getN b = some (n, k)) : Fr.numR b = .ok (n, b.drop k) := by unfold Fr.numR; rw [h]
/-- A number, as it is answered. -/
def numV (n : Nat) (_ : World) (v : Value) : Prop := v = .int .u64 (n : Int) ∧ n ≤ 4611686018427387903

set_option maxRecDepth 20000 in
set_option maxHeartbeats 1000000 in
theorem fr_number (g : Nat) (s : SL) (tb : Nat) (w : World) (h : Rd w g s tb) :
    Calls Tryz.prog 143 #[.pointer (some ⟨g, 0, none⟩)] w fun x w' => match Fr.getN s.b with
      | none => x = pan 4 ∧ w.grownBy w' (some g)
      | some (n, k) => x = .returned (.int .u64 (n : Int)) ∧ ∃ s' : SL, Rd w' g s' tb ∧ s'.b = s.b.drop k ∧ s'.g = s.g ∧ s'.len ≤ s.len ∧ w.grownBy w' (some g) := by
  have c0 : w.cell? ⟨g, 0, none⟩ = some (.slice s.a s.len s.cap) := h.row.cell 0
  have z0 := h.row.frozen 0
  have HG := veil (var_get s w h.ok (Nat.le_trans h.len (by decide)) h.lens)
  have H := veil h
  have HNIL := veil h.ok.nil
  have HT := veil h.told
  clear h
  cases hq : Fr.getN s.b with
  | none =>
    have HGOT := veil (show gotN s.b = (0, 0, 4) by unfold gotN; rw [hq])
    clear hq
    go_enter Tryz.func143, Tryz.ntmps143
    go_wp2_with fail
    refine HG.out.mono ?_
    rintro x1 w1 ⟨rfl, hw1⟩
    obtain rfl := hw1.symm
    unfold gotV
    rw [HGOT.out]
    clear HG HGOT
    go_wp2_with fail
    exact ⟨rfl, rfl, grown_refl _ _⟩
  | some p =>
    obtain ⟨n, k⟩ := p
    have hk1 : k ≤ s.len := by have := (Fr.getN_some hq).2.1; rw [H.out.ok.hb] at this; exact this
    have HGOT := veil (show gotN s.b = (n, k, 0) by unfold gotN; rw [hq])
    clear hq
    go_enter Tryz.func143, Tryz.ntmps143
    go_wp2_with fail
    refine HG.out.mono ?_
    rintro x1 w1 ⟨rfl, hw1⟩
    obtain rfl := hw1.symm
    unfold gotV
    rw [HGOT.out]
    clear HG HGOT
    go_wp2_with (with_reducible (show wpList _ _ _ (⟨some 25, Op.slice _ _ _ _ _, _, _, _, _⟩ :: _) _ _)
                 refine value_wp rfl _ (run_cutF 26 5 _ _ s k HT.out HNIL.out rfl rfl rfl Tryz.underlying26 (by kernel_rfl) hk1 _) ?_)
    go_ret
    obtain ⟨o1, o2, o3, o4, o5⟩ := cutF_ok H.out.ok H.out.told k hk1
    have hg1 : w.grownBy (w.setCell ⟨g, 0, none⟩ (.slice (cutF s k).a (cutF s k).len (cutF s k).cap)) (some g) := grown_set (grown_refl _ _)
    refine ⟨rfl, cutF s k, ⟨H.out.row.set 0 _, o1.apart hg1 (fun p => by rw [o5]; exact H.out.ne (by omega)), o2, fun p => by rw [o5]; exact H.out.ne (by omega), H.out.lens.grown hg1 H.out.gne, H.out.gne, by have := H.out.len; omega⟩, o4, o5, by omega, hg1⟩
theorem rd_num (g : Nat) (s : SL) (tb : Nat) (w : World) (h : Rd w g s tb) :
    Calls Tryz.prog 143 #[.pointer (some ⟨g, 0, none⟩)] w (RdPost w g s tb Fr.numR numV) := by
  refine (fr_number g s tb w h).mono ?_
  intro x w' hp
  cases hq : Fr.getN s.b with
  | none =>
    rw [hq] at hp
    exact .inl ⟨4, numR_none hq, hp.1, hp.2⟩
  | some p =>
    obtain ⟨n, k⟩ := p
    rw [hq] at hp
    obtain ⟨h1, s', h2, h3, h4, h5, h6⟩ := hp
    exact .inr ⟨n, _, _, s', numR_some hq, h1, ⟨rfl, (Fr.getN_some hq).2.2.1⟩, h2, h3, h4, h5, h6⟩

/-- A number up to another one. -/
def uptoR (most : Nat) : Fr.R Nat := Fr.thenR Fr.numR fun n => if most < n then Fr.noR 5 else Fr.okR n
set_option maxRecDepth 20000 in
set_option maxHeartbeats 1000000 in
theorem rd_upto (g : Nat) (s : SL) (tb most : Nat) (w : World) (h : Rd w g s tb) :
    Calls Tryz.prog 152 #[.pointer (some ⟨g, 0, none⟩), .int .u64 (most : Int)] w (RdPost w g s tb (uptoR most) (fun n w' v => numV n w' v ∧ n ≤ most)) := by
  have HN := veil (rd_num g s tb w h)
  clear h
  go_enter Tryz.func152, Tryz.ntmps152
  go_wp2_with fail
  refine HN.out.mono ?_
  rintro x1 w1 (⟨e, he, rfl, hg⟩ | ⟨n, r, v, s1, he, rfl, ⟨rfl, hv⟩, hR, hb, hsg, hsl, hg⟩)
  · exact ⟨rfl, .inl ⟨e, Fr.thenR_err he, rfl, hg⟩⟩
  · have HE := veil (show uptoR most s.b = (if most < n then Fr.noR 5 else Fr.okR n) r from thenR_ok he)
    have HREST := veil (show Rd w1 g s1 tb ∧ s1.b = r ∧ s1.g = s.g ∧ s1.len ≤ s.len ∧ w.grownBy w1 (some g) from ⟨hR, hb, hsg, hsl, hg⟩)
    have HV := veil hv
    clear he hR hb hsg hsl hg hv
    by_cases hn : most < n
    · have f1 : decide ((most : Int) < (n : Int)) = true := by simp; omega
      have f1n : decide (most < n) = true := by simp; omega
      have HE2 := veil (show uptoR most s.b = .error 5 by rw [HE.out, if_pos hn]; rfl)
      clear hn
      go_wp2_with fail
      exact ⟨rfl, .inl ⟨5, HE2.out, rfl, HREST.out.2.2.2.2⟩⟩
    · have f1 : decide ((most : Int) < (n : Int)) = false := by simp; omega
      have f1n : decide (most < n) = false := by simp; omega
      have HE2 := veil (show uptoR most s.b = .ok (n, r) by rw [HE.out, if_neg hn]; rfl)
      have HM := veil (Nat.le_of_not_lt hn)
      clear hn
      go_wp2_with fail
      go_ret
      exact .inr ⟨n, r, _, s1, HE2.out, rfl, ⟨⟨rfl, HV.out⟩, HM.out⟩, HREST.out⟩

set_option maxHeartbeats 1000000 in
theorem rd_has (g : Nat) (s : SL) (tb bit : Nat) (w : World) (h : Rd w g s tb) :
    Calls Tryz.prog 153 #[.pointer (some ⟨g, 0, none⟩), .int .u64 (bit : Int)] w fun e w' => e = .returned (.bool (bits .and .u64 (tb : Int) (bit : Int) != 0)) ∧ w' = w := by
  have c1 : w.cell? ⟨g, 1, none⟩ = some (.int .u64 (tb : Int)) := h.row.cell 1
  clear h
  go_enter Tryz.func153, Tryz.ntmps153
  go_wp2_with fail
  go_ret
  exact ⟨rfl, rfl⟩
end Go.Proofs.YtimhbjlmpojhoaaGreatDoor

/-! A map from numbers to methods of one reader, in memory. No program in sight but its types' numbers. -/
namespace Go.Proofs.YtimhbjlmpojhoaaGreatDoor
open Go Go.RowKit Go.ChangeMaps

/-- A method's value. -/
def fv (g f : Nat) : Value := .func (.func f) #[.pointer (some ⟨g, 0, none⟩)] #[]
def entL (g : Nat) : Nat → List (Nat × Nat) → List MapEntry
  | _, [] => []
  | i, (k, f) :: r => ⟨.int .u64 (k : Int), fv g f, i⟩ :: entL g (i + 1) r
def MapIs (W : World) (b g : Nat) (L : List (Nat × Nat)) : Prop := W.heap[b]? = some (.map (entL g 0 L).toArray L.length)
theorem entL_append (g : Nat) : ∀ (L : List (Nat × Nat)) (i k f : Nat), entL g i (L ++ [(k, f)]) = entL g i L ++ [⟨.int .u64 (k : Int), fv g f, i + L.length⟩]
  | [], i, k, f => by simp [entL]
  | (k', f') :: r, i, k, f => by
    rw [List.cons_append, entL, entL, entL_append g r (i + 1) k f, List.cons_append, List.length_cons]
    congr 4
    omega
def findL (n : Nat) : List (Nat × Nat) → Nat → Option (Nat × Nat)
  | [], _ => none
  | (k, f) :: r, i => if k = n then some (i, f) else findL n r (i + 1)
theorem findNow_ent (g n : Nat) : ∀ (L : List (Nat × Nat)) (i j : Nat), Instr.findNow (.int .u64) (.int .u64 (n : Int)) (entL g i L) j = some ((findL n L j).map fun p => (p.1, fv g p.2))
  | [], _, _ => rfl
  | (k, f) :: r, i, j => by
    rw [entL, Instr.findNow]
    have e : Instr.sameNow (.int .u64) (.int .u64 (n : Int)) (.int .u64 (k : Int)) = some ((n : Int) == (k : Int)) := by simp [Instr.sameNow]
    simp only [e]
    by_cases h : k = n
    · have h2 : ((n : Int) == (k : Int)) = true := by simp; omega
      rw [h2]
      simp only [findL, if_pos h, Option.map_some]
    · have h2 : ((n : Int) == (k : Int)) = false := by simp; omega
      rw [h2]
      simp only [findL, if_neg h]
      exact findNow_ent g n r (i + 1) (j + 1)
theorem findL_none (n : Nat) : ∀ (L : List (Nat × Nat)) (j : Nat), (∀ p ∈ L, p.1 ≠ n) → findL n L j = none
  | [], _, _ => rfl
  | (k, f) :: r, j, h => by
    rw [findL, if_neg (h (k, f) (by simp))]
    exact findL_none n r (j + 1) (fun p hp => h p (by simp [hp]))
section
variable {P : Program} {kT : TypeId} (hk : P.underlying kT = some (.int .u64))
include hk
theorem run_findL {g n : Nat} {L : List (Nat × Nat)} (W : World) : (Instr.findKey kT (.int .u64 (n : Int)) (entL g 0 L)).run P W = .ok ((findL n L 0).map fun p => (p.1, fv g p.2)) W := by
  unfold Instr.findKey
  rw [Sem.run_bind, run_underlying hk W]
  simp only [Result.andThen_ok, findNow_ent, Sem.run_pure]
theorem run_checkL (c : Bool) (n : Nat) (W : World) : (Instr.checkKey c 10000 kT (.int .u64 (n : Int))).run P W = .ok () W := by
  show (Instr.checkKey c (9999 + 1) kT (.int .u64 (n : Int))).run P W = .ok () W
  rw [Instr.checkKey, Sem.run_bind, run_underlying hk W]
  simp
theorem run_insertL {eT t : TypeId} (ht : P.underlying t = some (.map kT eT)) {b g n f : Nat} {L : List (Nat × Nat)} {W : World} (h : MapIs W b g L) (hno : ∀ p ∈ L, p.1 ≠ n) :
    ∃ W', (Instr.mapUpdate t (.map (some b)) (.int .u64 (n : Int)) (fv g f)).run P W = .ok () W' ∧ MapIs W' b g (L ++ [(n, f)]) ∧ W.grownBy W' (some b) := by
  refine ⟨setBlock W b (.map (entL g 0 (L ++ [(n, f)])).toArray (L.length + 1)), ?_, ?_, ⟨rfl, rfl, rfl, by simp [setBlock], fun i _ hi => heap_setBlock_other h _ (fun e => hi (by rw [e]))⟩⟩
  · have e : (entL g 0 (L ++ [(n, f)])).toArray = (entL g 0 L).toArray.push ⟨.int .u64 (n : Int), fv g f, L.length⟩ := by
      rw [entL_append, Nat.zero_add]
      simp
    rw [e]
    simp [Instr.mapUpdate, run_underlying ht, MapKept.run_getObj_map h, run_checkL hk false n W, run_findL hk W, findL_none n L 0 hno, MapKept.run_setObj_map _ h, Result.andThen, setBlock]
  · unfold MapIs
    rw [heap_setBlock_same h]
    simp
theorem run_lookupL {eT t : TypeId} (ht : P.underlying t = some (.map kT eT)) {b g n : Nat} {L : List (Nat × Nat)} {W : World} (h : MapIs W b g L) (hz : (zeroValue eT).run P W = .ok .nilFunc W) :
    (Instr.lookup t (.map (some b)) (.int .u64 (n : Int)) true).run P W = .ok (.tuple #[match findL n L 0 with | none => .nilFunc | some p => fv g p.2, .bool (findL n L 0).isSome]) W := by
  cases hf : findL n L 0 with
  | none => simp [Instr.lookup, run_underlying ht, MapKept.run_getObj_map h, run_checkL hk _ n W, run_findL hk W, hf, hz, Result.andThen]
  | some p => simp [Instr.lookup, run_underlying ht, MapKept.run_getObj_map h, run_checkL hk _ n W, run_findL hk W, hf, Result.andThen]
end
theorem MapIs.keep {W W' : World} {b g : Nat} {L : List (Nat × Nat)} (h : MapIs W b g L) (e : W'.heap[b]? = W.heap[b]?) : MapIs W' b g L := e.trans h
theorem MapIs.lt {W : World} {b g : Nat} {L : List (Nat × Nat)} (h : MapIs W b g L) : b < W.heap.size := (Array.getElem?_eq_some_iff.1 h).1
theorem insert_wp {P : Program} {a : Act} {o : Oper} {ops : Array Oper} {rest : List Oper} {w : World} {Q : Exit → Act → World → Prop} (hgd : o.guard = none) (t kT eT : TypeId) (m k x : Operand) (ho : o.op = .insert t m k x ∨ o.op = .mapUpdate t m k x) (ht : P.underlying t = some (.map kT eT)) (hk : P.underlying kT = some (.int .u64)) (b g n f : Nat) (L : List (Nat × Nat)) (hm : a.eval m = .map (some b)) (hkk : a.eval k = .int .u64 (n : Int)) (hx : a.eval x = fv g f) (h : MapIs w b g L) (hno : ∀ p ∈ L, p.1 ≠ n)
    (hK : ∀ w', MapIs w' b g (L ++ [(n, f)]) → w.grownBy w' (some b) → wpList P ops Q rest (a.put o.dst undef) w') : wpList P ops Q (o :: rest) a w := by
  obtain ⟨W', hr, h1, h2⟩ := run_insertL hk ht (f := f) h hno
  refine wpList_plain hgd fun K' hK' => ?_
  have he : (execOp a.eval o).run P w = .ok .skip W' := by
    unfold execOp
    rcases ho with ho | ho <;> simp only [ho, hm, hkk, hx, Sem.run_bind, hr, Result.andThen_ok, Sem.run_pure]
  unfold Oper.wp
  rw [he]
  exact hK' _ _ (hK W' h1 h2)
end Go.Proofs.YtimhbjlmpojhoaaGreatDoor

/-! How the program reads frames, on lists: padding at once; it comes to the same. No program in sight. -/
namespace Go.Proofs.YtimhbjlmpojhoaaGreatDoor.Fr
open Go

def padF (many : Nat) : Frame := { f0 with kind := 1, limit := many }
/-- The padding that follows. -/
def padR (many : Nat) : List By → Except Nat (Frame × List By)
  | [] => .ok (padF many, [])
  | c :: b => if c = 0 then (if many = 65536 then .error 3 else padR (many + 1) b) else .ok (padF many, c :: b)
theorem padR_told : ∀ (b : List By) (many : Nat) (f : Frame) (b' : List By), padR many b = .ok (f, b') → f.kind = 1 ∧ b'.length ≤ b.length ∧ ¬ (b'.head? = some 0)
  | [], many, f, b', h => by
    rw [padR] at h
    injection h with h
    injection h with h1 h2
    subst h1 h2
    exact ⟨rfl, Nat.le_refl _, by simp⟩
  | c :: b, many, f, b', h => by
    rw [padR] at h
    split at h
    · split at h
      · cases h
      · obtain ⟨h1, h2, h3⟩ := padR_told b _ _ _ h
        exact ⟨h1, by rw [List.length_cons]; omega, h3⟩
    · rename_i hc
      injection h with h
      injection h with h1 h2
      subst h1 h2
      exact ⟨rfl, Nat.le_refl _, by simpa using hc⟩
theorem pads_loop : ∀ (b : List By) (many : Nat) (acc : List Frame) (fuel : Nat), b.length ≤ fuel → getLoop fuel b (padF many :: acc) = match padR many b with
    | .error e => .error e
    | .ok (f, b') => getLoop fuel b' (f :: acc)
  | [], many, acc, fuel, _ => by
    rw [padR]
  | c :: b, many, acc, 0, h => by simp at h
  | c :: b, many, acc, fuel + 1, h => by
    rw [padR]
    by_cases hc : c = 0
    · rw [if_pos hc, getLoop, if_pos ⟨hc, rfl⟩]
      by_cases hm : many = 65536
      · rw [if_pos hm, if_pos (by show many = 65536; exact hm)]
      · rw [if_neg hm, if_neg (by show ¬ many = 65536; exact hm)]
        have hl : b.length ≤ fuel := by simpa using h
        have ih := pads_loop b (many + 1) acc fuel hl
        show getLoop fuel b (padF (many + 1) :: acc) = _
        rw [ih]
        cases hp : padR (many + 1) b with
        | error e => rfl
        | ok x =>
          obtain ⟨f, b'⟩ := x
          have := padR_told b _ _ _ hp
          exact getLoop_fuel _ _ _ _ (by omega) (by omega)
    · rw [if_neg hc]
/-- Is a number a type's? -/
def isType (n : Nat) : Bool := match n with
  | 0 | 1 | 2 | 4 | 5 | 6 | 8 | 9 | 10 | 11 | 12 | 13 | 14 | 15 | 16 | 17 | 18 | 19 | 20 | 21 | 28 | 29 | 30 => true
  | _ => false
theorem isType_lt {n : Nat} (h : isType n = true) : n < 31 := by
  by_cases hn : n < 31
  · exact hn
  · exfalso
    unfold isType at h
    split at h <;> first | omega | cases h
theorem body_not {n : Nat} (h : isType n = false) (b : List By) : bodyR n b = .error 5 := by
  unfold bodyR
  split <;> first | (exact absurd h (by decide)) | rfl
def bodyP (n : Nat) : R Frame := fun b => if n = 0 then padR 1 b else bodyR n b
def frameP : R Frame := fun b => match getN b with
  | none => .error 4
  | some (n, k) => if isType n = true ∧ k ≤ 1 then bodyP n (b.drop k) else .error 5
theorem frameP_other {b : List By} {n k : Nat} (h : getN b = some (n, k)) (hn : n ≠ 0) : frameP b = frameR b := by
  unfold frameP frameR
  rw [h]
  simp only
  have h1 := (getN_some h).1
  by_cases ht : isType n = true
  · have hs : szN n = 1 := by unfold szN; rw [if_pos (by have := isType_lt ht; omega)]
    by_cases hk : k ≤ 1
    · rw [if_pos ⟨ht, hk⟩, if_pos (by omega)]
      unfold bodyP
      rw [if_neg hn]
    · rw [if_neg (fun q => hk q.2), if_neg (by omega)]
  · rw [if_neg (fun q => ht q.1)]
    split
    · exact (body_not (by simpa using ht) _).symm
    · rfl
def progLoop : Nat → List By → List Frame → Except Nat (List Frame)
  | _, [], acc => .ok acc
  | 0, _ :: _, _ => .error 0
  | fuel + 1, c :: b, acc =>
    if acc.length = 1024 then .error 3
    else match frameP (c :: b) with
      | .error e => .error e
      | .ok (f, b') => progLoop fuel b' (f :: acc)
def Knd (m : R Frame) : Prop := ∀ b f b', m b = .ok (f, b') → f.kind ≠ 1
theorem knd_ok {f : Frame} (h : f.kind ≠ 1) : Knd (okR f) := by
  intro b g b' hg
  rw [(okR_inv hg).1]
  exact h
theorem knd_no (e : Nat) : Knd (noR e) := by
  intro b g b' hg
  exact (noR_inv hg).elim
theorem knd_then {α : Type} {m : R α} {f : α → R Frame} (h : ∀ a, Knd (f a)) : Knd (thenR m f) := by
  intro b g b' hg
  obtain ⟨a, b1, _, h2⟩ := thenR_inv hg
  exact h a _ _ _ h2
theorem knd_ite {c : Prop} [Decidable c] {m n : R Frame} (hm : Knd m) (hn : Knd n) : Knd (if c then m else n) := by
  split
  · exact hm
  · exact hn
theorem knd_stream (k : Nat) : Knd (streamR k) := knd_then fun _ => knd_then fun _ => knd_then fun _ => knd_ok (by simp)
theorem knd_ack : Knd ackR := knd_then fun _ => knd_then fun _ => knd_then fun _ => knd_ite (knd_no _) (knd_then fun _ => knd_ok (by simp))
theorem body_kind {n : Nat} (hn : n ≠ 0) : Knd (bodyR n) := by
  unfold bodyR
  split
  · exact absurd rfl hn
  · exact knd_ok (by decide)
  · exact knd_ack
  · exact knd_then fun _ => knd_then fun _ => knd_then fun _ => knd_ok (by simp)
  · exact knd_then fun _ => knd_then fun _ => knd_ok (by simp)
  · exact knd_then fun _ => knd_then fun _ => knd_ok (by simp)
  · exact knd_stream _
  · exact knd_stream _
  · exact knd_stream _
  · exact knd_stream _
  · exact knd_stream _
  · exact knd_stream _
  · exact knd_stream _
  · exact knd_stream _
  · exact knd_then fun _ => knd_ok (by simp)
  · exact knd_then fun _ => knd_then fun _ => knd_ok (by simp)
  · exact knd_then fun _ => knd_ite (knd_no _) (knd_ok (by simp))
  · exact knd_then fun _ => knd_ite (knd_no _) (knd_ok (by simp))
  · exact knd_then fun _ => knd_ok (by simp)
  · exact knd_then fun _ => knd_then fun _ => knd_ok (by simp)
  · exact knd_then fun _ => knd_then fun _ => knd_ite (knd_then fun _ => knd_ok (by simp)) (knd_no _)
  · exact knd_then fun _ => knd_then fun _ => knd_ok (by simp)
  · exact knd_ok (by decide)
  · exact knd_no _
theorem frameP_less {b : List By} {f : Frame} {b' : List By} (h : frameP b = .ok (f, b')) : b'.length < b.length := by
  cases hq : getN b with
  | none => unfold frameP at h; rw [hq] at h; cases h
  | some p =>
    obtain ⟨n, k⟩ := p
    obtain ⟨h1, h2, _, _⟩ := getN_some hq
    by_cases hn : n = 0
    · subst hn
      unfold frameP at h
      rw [hq] at h
      simp only at h
      split at h
      · have h3 : padR 1 (b.drop k) = .ok (f, b') := by unfold bodyP at h; rwa [if_pos rfl] at h
        have := (padR_told _ _ _ _ h3).2.1
        rw [List.length_drop] at this
        omega
      · cases h
    · rw [frameP_other hq hn] at h
      exact frameR_less h
theorem prog_loop : ∀ (fuel : Nat) (b : List By) (acc : List Frame), b.length ≤ fuel → ¬ (b.head? = some 0 ∧ padded acc = true) → progLoop fuel b acc = getLoop fuel b acc
  | _, [], _, _, _ => by rw [progLoop, getLoop]
  | 0, _ :: _, _, h, _ => by simp at h
  | fuel + 1, c :: b, acc, h, hno => by
    have hno' : ¬ (c = 0 ∧ padded acc = true) := fun q => hno ⟨by simp [q.1], q.2⟩
    rw [progLoop, getLoop, if_neg hno']
    by_cases hl : acc.length = 1024
    · rw [if_pos hl, if_pos hl]
    · rw [if_neg hl, if_neg hl]
      have hb : b.length ≤ fuel := by simpa using h
      cases hq : getN (c :: b) with
      | none =>
        have e1 : frameP (c :: b) = .error 4 := by unfold frameP; rw [hq]
        have e2 : frameR (c :: b) = .error 4 := by unfold frameR; rw [hq]
        rw [e1, e2]
      | some p =>
        obtain ⟨n, k⟩ := p
        by_cases hn : n = 0
        · subst hn
          have h1 := (getN_some hq).1
          by_cases hk : k ≤ 1
          · have hk1 : k = 1 := by omega
            subst hk1
            have e1 : frameP (c :: b) = padR 1 b := by unfold frameP; rw [hq]; simp only; rw [if_pos ⟨rfl, by omega⟩]; rfl
            have e2 : frameR (c :: b) = .ok (padF 1, b) := by unfold frameR; rw [hq]; rfl
            rw [e1, e2]
            simp only
            rw [pads_loop b 1 acc fuel hb]
            cases hp : padR 1 b with
            | error e => rfl
            | ok x =>
              obtain ⟨f, b'⟩ := x
              obtain ⟨p1, p2, p3⟩ := padR_told _ _ _ _ hp
              exact prog_loop fuel b' (f :: acc) (by omega) (fun q => p3 q.1)
          · have e1 : frameP (c :: b) = .error 5 := by unfold frameP; rw [hq]; simp only; rw [if_neg (fun q => hk q.2)]
            have e2 : frameR (c :: b) = .error 5 := by unfold frameR; rw [hq]; simp only; rw [if_neg (by unfold szN; simp; omega)]
            rw [e1, e2]
        · rw [frameP_other hq hn]
          cases hf : frameR (c :: b) with
          | error e => rfl
          | ok x =>
            obtain ⟨f, b'⟩ := x
            have hless := frameR_less hf
            have hk : f.kind ≠ 1 := by
              unfold frameR at hf
              rw [hq] at hf
              simp only at hf
              split at hf
              · exact body_kind hn _ _ _ hf
              · cases hf
            simp only
            refine prog_loop fuel b' (f :: acc) ?_ (fun q => hk (by have := q.2; simpa [padded] using this))
            rw [List.length_cons] at hless
            omega
theorem prog_all (b : List By) (hb : ¬ 1048576 < b.length) : getAll b = match progLoop b.length b [] with
    | .error e => .error e
    | .ok l => .ok l.reverse := by
  unfold getAll
  rw [if_neg hb, prog_loop _ _ _ (Nat.le_refl _) (fun q => by cases q.2)]
  cases getLoop b.length b [] <;> rfl
end Go.Proofs.YtimhbjlmpojhoaaGreatDoor.Fr

/-! Ranges in a row of the call's own. -/
namespace Go.Proofs.YtimhbjlmpojhoaaGreatDoor
open Go Go.RowKit

def vr (l : List (Nat × Nat)) : List Value := l.flatMap fun r => [Value.int .u64 (r.1 : Int), .int .u64 (r.2 : Int)]
def rC2 (r : Nat × Nat) : Array Value := #[.int .u64 (r.1 : Int), .int .u64 (r.2 : Int)]
theorem vr_length (l : List (Nat × Nat)) : (vr l).length = 2 * l.length := by
  induction l with
  | nil => rfl
  | cons r l ih =>
    rw [vr, List.flatMap_cons, List.length_append, List.length_cons]
    have : (l.flatMap fun r => [Value.int .u64 (r.1 : Int), .int .u64 (r.2 : Int)]).length = 2 * l.length := ih
    rw [this]
    simp only [List.length_cons, List.length_nil]
    omega
theorem vr_cons (r : Nat × Nat) (l : List (Nat × Nat)) : vr (r :: l) = .int .u64 (r.1 : Int) :: .int .u64 (r.2 : Int) :: vr l := rfl
theorem vr_append (a b : List (Nat × Nat)) : vr (a ++ b) = vr a ++ vr b := by unfold vr; rw [List.flatMap_append]
theorem vr_at : ∀ (l : List (Nat × Nat)) (j : Nat), j < l.length → (vr l)[j * 2]? = some (.int .u64 ((gr l j).1 : Int)) ∧ (vr l)[j * 2 + 1]? = some (.int .u64 ((gr l j).2 : Int))
  | [], _, h => absurd h (Nat.not_lt_zero _)
  | r :: l, 0, _ => ⟨rfl, rfl⟩
  | r :: l, j + 1, h => by
    have h2 := vr_at l j (by simpa using h)
    have e : gr (r :: l) (j + 1) = gr l j := by simp [gr]
    rw [e, vr_cons, show (j + 1) * 2 = j * 2 + 1 + 1 by omega, show j * 2 + 1 + 1 + 1 = (j * 2 + 1) + 1 + 1 by omega, List.getElem?_cons_succ, List.getElem?_cons_succ, List.getElem?_cons_succ, List.getElem?_cons_succ]
    exact h2
theorem vr_set : ∀ (l : List (Nat × Nat)) (j : Nat) (r : Nat × Nat), j < l.length → vr (l.set j r) = ((vr l).set (j * 2) (.int .u64 (r.1 : Int))).set (j * 2 + 1) (.int .u64 (r.2 : Int))
  | [], _, _, h => absurd h (Nat.not_lt_zero _)
  | q :: l, 0, r, _ => rfl
  | q :: l, j + 1, r, h => by
    rw [List.set_cons_succ, vr_cons, vr_set l j r (by simpa using h), vr_cons, show (j + 1) * 2 = j * 2 + 1 + 1 by omega, show j * 2 + 1 + 1 + 1 = (j * 2 + 1) + 1 + 1 by omega, List.set_cons_succ, List.set_cons_succ, List.set_cons_succ, List.set_cons_succ]
/-- One cell of a row of the call's own is written. -/
theorem own_cellS {w : World} {base n g cap k z : Nat} {e : TypeId} {xs : List Value} (h : w.ownsRow base e z (.slice (some ⟨g, 0, none⟩) n cap) n xs) (u : Value) : (w.setCell ⟨g, k, none⟩ u).ownsRow base e z (.slice (some ⟨g, 0, none⟩) n cap) n (xs.set k u) := by
  obtain ⟨h1, h2⟩ := h
  refine ⟨by rw [List.length_set]; exact h1, ?_⟩
  rcases h2 with ⟨h3, _⟩ | ⟨g', c', cur, h3, h4, h5, h6, h7, h8, h9⟩
  · cases h3
  · injection h3 with e1 e2 e3
    injection e1 with e1
    injection e1 with e1
    subst e1 e3
    refine .inr ⟨g, cap, cur.setIfInBounds k u, rfl, h4, (show Row w g e cur from h5).set k u, h6, h7, by rw [Array.size_setIfInBounds]; exact h8, ?_⟩
    rw [Array.toList_setIfInBounds, List.take_set, h9]
theorem own_pair {w : World} {base n g cap j : Nat} {l : List (Nat × Nat)} (h : w.ownsRow base 114 2 (.slice (some ⟨g, 0, none⟩) n cap) n (vr l)) (r : Nat × Nat) (hj : j < n) (hl : l.length = n) : (w.setCells g (j * 2) (rC2 r).toList).ownsRow base 114 2 (.slice (some ⟨g, 0, none⟩) n cap) n (vr (l.set j r)) := by
  rw [vr_set l j r (by omega)]
  exact own_cellS (own_cellS h _) _
theorem own_range {w : World} {base n g cap : Nat} {l : List (Nat × Nat)} (h : w.ownsRow base 114 2 (.slice (some ⟨g, 0, none⟩) n cap) n (vr l)) (hl : l.length = n) (j : Nat) (hj : j < n) : w.rangeAt g (0 + j * 2) (rC2 (gr l j)).toList := by
  have hc := h.cells (g := g) rfl
  obtain ⟨a1, a2⟩ := vr_at l j (by omega)
  intro q v hv
  match q, hv with
  | 0, hv =>
    rw [← Option.some.inj hv]
    have := hc _ _ a1
    rw [add_at, Nat.zero_add] at this
    rw [Nat.zero_add, Nat.add_zero]
    exact this
  | 1, hv =>
    rw [← Option.some.inj hv]
    have := hc _ _ a2
    rw [add_at, Nat.zero_add] at this
    rw [Nat.zero_add]
    exact this
  | _ + 2, hv => simp [rC2] at hv
theorem own_there {w : World} {base n g cap : Nat} {l : List (Nat × Nat)} (h : w.ownsRow base 114 2 (.slice (some ⟨g, 0, none⟩) n cap) n (vr l)) (hl : l.length = n) (j : Nat) (hj : j < n) : w.there g (0 + j * 2) 2 := by
  have hr := own_range h hl j hj
  rcases h.2 with ⟨h3, _⟩ | ⟨g', c', cur, h3, h4, h5, h6, h7, h8, h9⟩
  · cases h3
  · injection h3 with e1 e2 e3
    injection e1 with e1
    injection e1 with e1
    subst e1 e3
    intro q hq
    refine ⟨?_, (show Row w g 114 cur from h5).frozen _⟩
    match q, hq with
    | 0, _ => rw [hr 0 _ rfl]; rfl
    | 1, _ => rw [hr 1 _ rfl]; rfl
    | _ + 2, hq => omega
theorem vr_one (l : List (Nat × Nat)) : ∀ u ∈ vr l, u.oneCell' = true := by
  intro u hu
  obtain ⟨r, _, h⟩ := List.mem_flatMap.1 hu
  simp only [List.mem_cons, List.not_mem_nil, or_false] at h
  rcases h with rfl | rfl <;> rfl
theorem Tryz.infoRangeV : (Tryz.prog.info? 114).map (fun i => (i.zero, i.size, i.bytes)) = some (some (.agg (rC2 (0, 0))), 2, 16) := by kernel_rfl
theorem range_info : ∃ i0, Tryz.prog.info? 114 = some i0 ∧ i0.zero = some (.agg (rC2 (0, 0))) ∧ i0.size = 2 ∧ i0.bytes = 16 := by
  have h := Tryz.infoRangeV
  cases hq : Tryz.prog.info? 114 with
  | none => rw [hq] at h; cases h
  | some i =>
    rw [hq] at h
    simp only [Option.map_some, Option.some.injEq, Prod.mk.injEq] at h
    exact ⟨i, rfl, h.1, h.2.1, h.2.2⟩
theorem own_below2 {w w' : World} {B n z : Nat} {e : TypeId} {v : Value} {xs : List Value} (h : w.ownsRow B e z v n xs) (hb : Below w.heap.size w w') : w'.ownsRow B e z v n xs :=
  h.kept (row := none) ⟨hb.os, hb.tape, hb.output, hb.size, fun k hk _ => hb.block k hk⟩ (Classical.em _)
theorem own_low2 {w : World} {B B' n z : Nat} {e : TypeId} {v : Value} {xs : List Value} (h : w.ownsRow B e z v n xs) (hB : B' ≤ B) : w.ownsRow B' e z v n xs := by
  obtain ⟨h1, h2⟩ := h
  refine ⟨h1, ?_⟩
  rcases h2 with h2 | ⟨g, c, cur, h3, h4, h5⟩
  · exact .inl h2
  · exact .inr ⟨g, c, cur, h3, Nat.le_trans hB h4, h5⟩
theorem rl_own {w : World} {base n g cap : Nat} {l : List (Nat × Nat)} (h : w.ownsRow base 114 2 (.slice (some ⟨g, 0, none⟩) n cap) n (vr l)) (hl : l.length = n) (hs : ∀ j, (gr l j).1 < 18446744073709551616 ∧ (gr l j).2 < 18446744073709551616) : RL.Ok w ⟨some ⟨g, 0, none⟩, n, cap, g, 0, l⟩ := by
  refine ⟨hl, ?_, (fun e => by cases e), fun _ => rfl, fun _ => (h.lt g rfl).2, fun j hj => ?_, hs⟩
  · rcases h.2 with ⟨h3, _⟩ | ⟨g', c', cur, h3, h4, h5, h6, _⟩
    · cases h3
    · injection h3 with e1 e2 e3
      subst e3
      exact h6
  · have := own_range h hl j hj
    exact ⟨this 0 _ rfl, this 1 _ rfl⟩
end Go.Proofs.YtimhbjlmpojhoaaGreatDoor

/-! frame's reader: data, sized, and frames without bytes. -/
namespace Go.Proofs.YtimhbjlmpojhoaaGreatDoor
open Go Go.RowKit

/-- A frame whose slices are the call's own. -/
structure FrNew (base : Nat) (w : World) (F : FrM) : Prop where
  data : RowK base F.data.b w (.slice F.data.a F.data.len F.data.cap)
  dok : F.data.Ok w
  ranges : w.ownsRow base 114 2 (.slice F.ranges.a F.ranges.len F.ranges.cap) F.ranges.len (vr F.ranges.l)
  rok : F.ranges.Ok w
  k8 : F.kind < 256
  st : F.stream ≤ 4611686018427387903
  of : F.offset ≤ 4611686018427387903
  li : F.limit ≤ 4611686018427387903
  co : F.code ≤ 4611686018427387903
def noD : SL := ⟨none, 0, 0, 0, 0, []⟩
def noRg : RL := ⟨none, 0, 0, 0, 0, []⟩
theorem noD_ok (w : World) : noD.Ok w := ⟨rfl, Nat.le_refl _, fun _ => ⟨rfl, rfl⟩, fun p => absurd p (Nat.lt_irrefl _), fun p => absurd p (Nat.lt_irrefl _), fun _ h => absurd h (Nat.not_lt_zero _)⟩
theorem noRg_ok (w : World) : noRg.Ok w := ⟨rfl, Nat.le_refl _, fun _ => ⟨rfl, rfl⟩, fun p => absurd p (Nat.lt_irrefl _), fun p => absurd p (Nat.lt_irrefl _), fun _ h => absurd h (Nat.not_lt_zero _), fun _ => ⟨by show (0 : Nat) < _; decide, by show (0 : Nat) < _; decide⟩⟩
theorem new_plain (base : Nat) (w : World) (k st of li co : Nat) (fi : Bool) (h0 : k < 256) (h1 : st ≤ 4611686018427387903) (h2 : of ≤ 4611686018427387903) (h3 : li ≤ 4611686018427387903) (h4 : co ≤ 4611686018427387903) : FrNew base w ⟨k, st, of, li, co, fi, noD, noRg⟩ :=
  ⟨World.ownsRow_nil _ _ _ _, noD_ok w, World.ownsRow_nil _ _ _ _, noRg_ok w, h0, h1, h2, h3, h4⟩
/-- A frame, as it is answered. -/
def frV (base : Nat) (f : Fr.Frame) (w : World) (v : Value) : Prop := ∃ F : FrM, v = .agg F.cells ∧ FrNew base w F ∧ F.fr = f

/-- What is written into a block of the call's own leaves the reader. -/
theorem Rd.put {w : World} {g tb h : Nat} {s : SL} (H : Rd w g s tb) (hne : h ≠ g) (hs : 0 < s.len → s.g ≠ h) (hl : 1 ≠ h) (cs : Array Value) : Rd (w.setRow h cs) g s tb :=
  ⟨H.row.putOther (Ne.symm hne) cs, H.ok.same (fun p => setRow_other w h s.g cs (hs p)) (by simp), H.told, H.ne, H.lens.same (setRow_other w h _ cs hl), H.gne, H.len⟩
theorem grown_alloc {w : World} (o : Obj) (g : Option Nat) : w.grownBy (w.alloc o) g := World.grownBy_alloc w o g
theorem grown_below {w w' : World} {g : Option Nat} (hb : Below w.heap.size w w') : w.grownBy w' g := ⟨hb.os, hb.tape, hb.output, hb.size, fun k hk _ => hb.block k hk⟩
theorem grown_put {w w' : World} {g h : Nat} (hg : w.grownBy w' (some g)) (hh : w.heap.size ≤ h) (cs : Array Value) : w.grownBy (w'.setRow h cs) (some g) :=
  ⟨hg.os, hg.tape, hg.output, by rw [size_setRow]; exact hg.size, fun k hk hn => (setRow_other w' h k cs (by omega)).trans (hg.block k hk hn)⟩
theorem Row.grown {w w' : World} {g h : Nat} {t : TypeId} {cs : Array Value} (r : Row w h t cs) (hg : w.grownBy w' (some g)) (hne : h ≠ g) : Row w' h t cs := (hg.block h r.lt (fun e => hne (Option.some.inj e))).trans r
def zF : Array Value := #[.int .u8 0, .int .u64 0, .int .u64 0, .int .u64 0, .int .u64 0, .bool false, .slice none 0 0, .slice none 0 0]
theorem ch_err {α β : Type} {x : Except Nat (α × List By)} {m : Fr.R β} {f : β → Fr.R α} {r s : List By} {e : Nat} (hE : x = Fr.thenR m f r) (hB : s = r) (he : m s = .error e) : x = .error e := by
  subst hB
  rw [hE]
  exact Fr.thenR_err he
theorem ch_ok {α β : Type} {x : Except Nat (α × List By)} {m : Fr.R β} {f : β → Fr.R α} {r s r2 : List By} {a : β} (hE : x = Fr.thenR m f r) (hB : s = r) (he : m s = .ok (a, r2)) : x = f a r2 := by
  subst hB
  rw [hE]
  exact thenR_ok he

set_option maxRecDepth 20000 in
set_option maxHeartbeats 1000000 in
theorem rd_ping (g : Nat) (s : SL) (tb : Nat) (w : World) (h : Rd w g s tb) :
    Calls Tryz.prog 130 #[.pointer (some ⟨g, 0, none⟩)] w (RdPost w g s tb (Fr.bodyP 1) (frV w.heap.size)) := by
  have hgw := h.row.lt
  have hLl := h.lens.lt
  have H := veil h
  clear h
  go_enter Tryz.func130, Tryz.ntmps130
  go_wp2_with fail
  refine bodyPost_ret (results_cell_row rfl _ _ w.heap.size _ _ (0, 0) _ rfl (Row.new w 37 _) Tryz.underlying37 rfl (by kernel_rfl)) rfl ?_
  refine .inr ⟨_, _, _, s, rfl, rfl, ⟨⟨2, 0, 0, 0, 0, false, noD, noRg⟩, rfl, new_plain _ _ _ _ _ _ _ _ (by decide) (Nat.zero_le _) (Nat.zero_le _) (Nat.zero_le _) (Nat.zero_le _), rfl⟩, H.out.below ((Below.refl _ w).alloc (Nat.le_refl _) _), rfl, rfl, Nat.le_refl _, grown_alloc _ _⟩

set_option maxRecDepth 20000 in
set_option maxHeartbeats 1000000 in
theorem rd_done (g : Nat) (s : SL) (tb : Nat) (w : World) (h : Rd w g s tb) :
    Calls Tryz.prog 141 #[.pointer (some ⟨g, 0, none⟩)] w (RdPost w g s tb (Fr.bodyP 30) (frV w.heap.size)) := by
  have hgw := h.row.lt
  have hLl := h.lens.lt
  have H := veil h
  clear h
  go_enter Tryz.func141, Tryz.ntmps141
  go_wp2_with fail
  refine bodyPost_ret (results_cell_row rfl _ _ w.heap.size _ _ (0, 0) _ rfl (Row.new w 37 _) Tryz.underlying37 rfl (by kernel_rfl)) rfl ?_
  refine .inr ⟨_, _, _, s, rfl, rfl, ⟨⟨14, 0, 0, 0, 0, false, noD, noRg⟩, rfl, new_plain _ _ _ _ _ _ _ _ (by decide) (Nat.zero_le _) (Nat.zero_le _) (Nat.zero_le _) (Nat.zero_le _), rfl⟩, H.out.below ((Below.refl _ w).alloc (Nat.le_refl _) _), rfl, rfl, Nat.le_refl _, grown_alloc _ _⟩

set_option maxRecDepth 20000 in
set_option maxHeartbeats 1000000 in
theorem rd_reset (g : Nat) (s : SL) (tb : Nat) (w : World) (h : Rd w g s tb) :
    Calls Tryz.prog 132 #[.pointer (some ⟨g, 0, none⟩)] w (RdPost w g s tb (Fr.bodyP 4) (frV w.heap.size)) := by
  have hgw := h.row.lt
  have hLl := h.lens.lt
  have H := veil h
  have b0 := veil ((Below.refl _ w).alloc (Nat.le_refl _) (.cells zF 37))
  have R0 := veil (Row.new w 37 zF)
  have E0 := veil (show Fr.bodyP 4 s.b = Fr.thenR Fr.numR (fun st => Fr.thenR Fr.numR fun co => Fr.thenR Fr.numR fun lim => Fr.okR { Fr.f0 with kind := 4, stream := st, code := co, limit := lim }) s.b from rfl)
  clear h
  go_enter Tryz.func132, Tryz.ntmps132
  go_wp2_with fail
  refine (rd_num g s tb (w.alloc (.cells zF 37)) (H.out.below b0.out)).mono ?_
  rintro x1 w1 (⟨e, he, rfl, hg⟩ | ⟨n1, r1, v1, s1, he1, rfl, ⟨rfl, hv1⟩, hR1, hb1, hsg1, hsl1, hg1⟩)
  · exact ⟨rfl, .inl ⟨e, ch_err E0.out rfl he, rfl, grown_trans (grown_alloc (.cells zF 37) (some g)) hg⟩⟩
  have E1 := veil (ch_ok E0.out rfl he1)
  have G1 := veil (grown_trans (grown_alloc (.cells zF 37) (some g)) hg1)
  have Q1 := veil (Row.grown R0.out hg1 (show w.heap.size ≠ g by omega))
  have B1 := veil hb1
  have D1 := veil hR1
  have M1 := veil (show s1.g = s.g ∧ s1.len ≤ s.len from ⟨hsg1, hsl1⟩)
  have V1 := veil hv1
  clear he1 hg1 hb1 hR1 hsg1 hsl1 hv1
  go_wp2_with fail
  refine (rd_num g s1 tb w1 D1.out).mono ?_
  rintro x2 w2 (⟨e, he, rfl, hg⟩ | ⟨n2, r2, v2, s2, he2, rfl, ⟨rfl, hv2⟩, hR2, hb2, hsg2, hsl2, hg2⟩)
  · exact ⟨rfl, .inl ⟨e, ch_err E1.out B1.out he, rfl, grown_trans G1.out hg⟩⟩
  have E2 := veil (ch_ok E1.out B1.out he2)
  have G2 := veil (grown_trans G1.out hg2)
  have Q2 := veil (Row.grown Q1.out hg2 (show w.heap.size ≠ g by omega))
  have B2 := veil hb2
  have D2 := veil hR2
  have M2 := veil (show s2.g = s.g ∧ s2.len ≤ s.len from ⟨hsg2.trans M1.out.1, Nat.le_trans hsl2 M1.out.2⟩)
  have V2 := veil hv2
  clear he2 hg2 hb2 hR2 hsg2 hsl2 hv2
  go_wp2_with fail
  refine (rd_num g s2 tb w2 D2.out).mono ?_
  rintro x3 w3 (⟨e, he, rfl, hg⟩ | ⟨n3, r3, v3, s3, he3, rfl, ⟨rfl, hv3⟩, hR3, hb3, hsg3, hsl3, hg3⟩)
  · exact ⟨rfl, .inl ⟨e, ch_err E2.out B2.out he, rfl, grown_trans G2.out hg⟩⟩
  have E3 := veil (ch_ok E2.out B2.out he3)
  have G3 := veil (grown_trans G2.out hg3)
  have Q3 := veil (Row.grown Q2.out hg3 (show w.heap.size ≠ g by omega))
  have B3 := veil hb3
  have D3 := veil hR3
  have M3 := veil (show s3.g = s.g ∧ s3.len ≤ s.len from ⟨hsg3.trans M2.out.1, Nat.le_trans hsl3 M2.out.2⟩)
  have V3 := veil hv3
  clear he3 hg3 hb3 hR3 hsg3 hsl3 hv3
  go_wp2_with (with_reducible (show wpList _ _ _ (⟨_, Op.store 37 _ _, _, _, _, _⟩ :: _) _ _)
               refine store_row rfl 37 _ _ rfl w.heap.size #[.int .u8 4, .int .u64 (n1 : Int), .int .u64 (0 : Int), .int .u64 (n3 : Int), .int .u64 (n2 : Int), .bool false, .slice none 0 0, .slice none 0 0] rfl rfl _ _ Q3.out 8 (by kernel_rfl) rfl rfl (by kernel_rfl) ?_)
  refine bodyPost_ret (results_cell_row rfl _ _ w.heap.size _ #[.int .u8 4, .int .u64 (n1 : Int), .int .u64 (0 : Int), .int .u64 (n3 : Int), .int .u64 (n2 : Int), .bool false, .slice none 0 0, .slice none 0 0] (0, 0) _ rfl (Q3.out.put _) Tryz.underlying37 rfl (by kernel_rfl)) rfl ?_
  refine .inr ⟨_, _, _, s3, E3.out, rfl, ⟨⟨4, n1, 0, n3, n2, false, noD, noRg⟩, rfl, new_plain _ _ _ _ _ _ _ _ (by decide) V1.out (Nat.zero_le _) V3.out V2.out, rfl⟩, D3.out.put (by omega) (fun p => by have := H.out.ok.lt (Nat.lt_of_lt_of_le p M3.out.2); rw [M3.out.1]; omega) (by omega) _, B3.out, M3.out.1, M3.out.2, grown_put G3.out (Nat.le_refl _) _⟩

set_option maxRecDepth 20000 in
set_option maxHeartbeats 1000000 in
theorem rd_stop (g : Nat) (s : SL) (tb : Nat) (w : World) (h : Rd w g s tb) :
    Calls Tryz.prog 133 #[.pointer (some ⟨g, 0, none⟩)] w (RdPost w g s tb (Fr.bodyP 5) (frV w.heap.size)) := by
  have hgw := h.row.lt
  have hLl := h.lens.lt
  have H := veil h
  have b0 := veil ((Below.refl _ w).alloc (Nat.le_refl _) (.cells zF 37))
  have R0 := veil (Row.new w 37 zF)
  have E0 := veil (show Fr.bodyP 5 s.b = Fr.thenR Fr.numR (fun st => Fr.thenR Fr.numR fun co => Fr.okR { Fr.f0 with kind := 5, stream := st, code := co }) s.b from rfl)
  clear h
  go_enter Tryz.func133, Tryz.ntmps133
  go_wp2_with fail
  refine (rd_num g s tb (w.alloc (.cells zF 37)) (H.out.below b0.out)).mono ?_
  rintro x1 w1 (⟨e, he, rfl, hg⟩ | ⟨n1, r1, v1, s1, he1, rfl, ⟨rfl, hv1⟩, hR1, hb1, hsg1, hsl1, hg1⟩)
  · exact ⟨rfl, .inl ⟨e, ch_err E0.out rfl he, rfl, grown_trans (grown_alloc (.cells zF 37) (some g)) hg⟩⟩
  have E1 := veil (ch_ok E0.out rfl he1)
  have G1 := veil (grown_trans (grown_alloc (.cells zF 37) (some g)) hg1)
  have Q1 := veil (Row.grown R0.out hg1 (show w.heap.size ≠ g by omega))
  have B1 := veil hb1
  have D1 := veil hR1
  have M1 := veil (show s1.g = s.g ∧ s1.len ≤ s.len from ⟨hsg1, hsl1⟩)
  have V1 := veil hv1
  clear he1 hg1 hb1 hR1 hsg1 hsl1 hv1
  go_wp2_with fail
  refine (rd_num g s1 tb w1 D1.out).mono ?_
  rintro x2 w2 (⟨e, he, rfl, hg⟩ | ⟨n2, r2, v2, s2, he2, rfl, ⟨rfl, hv2⟩, hR2, hb2, hsg2, hsl2, hg2⟩)
  · exact ⟨rfl, .inl ⟨e, ch_err E1.out B1.out he, rfl, grown_trans G1.out hg⟩⟩
  have E2 := veil (ch_ok E1.out B1.out he2)
  have G2 := veil (grown_trans G1.out hg2)
  have Q2 := veil (Row.grown Q1.out hg2 (show w.heap.size ≠ g by omega))
  have B2 := veil hb2
  have D2 := veil hR2
  have M2 := veil (show s2.g = s.g ∧ s2.len ≤ s.len from ⟨hsg2.trans M1.out.1, Nat.le_trans hsl2 M1.out.2⟩)
  have V2 := veil hv2
  clear he2 hg2 hb2 hR2 hsg2 hsl2 hv2
  go_wp2_with (with_reducible (show wpList _ _ _ (⟨_, Op.store 37 _ _, _, _, _, _⟩ :: _) _ _)
               refine store_row rfl 37 _ _ rfl w.heap.size #[.int .u8 5, .int .u64 (n1 : Int), .int .u64 (0 : Int), .int .u64 (0 : Int), .int .u64 (n2 : Int), .bool false, .slice none 0 0, .slice none 0 0] rfl rfl _ _ Q2.out 8 (by kernel_rfl) rfl rfl (by kernel_rfl) ?_)
  refine bodyPost_ret (results_cell_row rfl _ _ w.heap.size _ #[.int .u8 5, .int .u64 (n1 : Int), .int .u64 (0 : Int), .int .u64 (0 : Int), .int .u64 (n2 : Int), .bool false, .slice none 0 0, .slice none 0 0] (0, 0) _ rfl (Q2.out.put _) Tryz.underlying37 rfl (by kernel_rfl)) rfl ?_
  refine .inr ⟨_, _, _, s2, E2.out, rfl, ⟨⟨5, n1, 0, 0, n2, false, noD, noRg⟩, rfl, new_plain _ _ _ _ _ _ _ _ (by decide) V1.out (Nat.zero_le _) (Nat.zero_le _) V2.out, rfl⟩, D2.out.put (by omega) (fun p => by have := H.out.ok.lt (Nat.lt_of_lt_of_le p M2.out.2); rw [M2.out.1]; omega) (by omega) _, B2.out, M2.out.1, M2.out.2, grown_put G2.out (Nat.le_refl _) _⟩

set_option maxRecDepth 20000 in
set_option maxHeartbeats 1000000 in
theorem rd_maxData (g : Nat) (s : SL) (tb : Nat) (w : World) (h : Rd w g s tb) :
    Calls Tryz.prog 135 #[.pointer (some ⟨g, 0, none⟩)] w (RdPost w g s tb (Fr.bodyP 16) (frV w.heap.size)) := by
  have hgw := h.row.lt
  have hLl := h.lens.lt
  have H := veil h
  have b0 := veil ((Below.refl _ w).alloc (Nat.le_refl _) (.cells zF 37))
  have R0 := veil (Row.new w 37 zF)
  have E0 := veil (show Fr.bodyP 16 s.b = Fr.thenR Fr.numR (fun lim => Fr.okR { Fr.f0 with kind := 8, limit := lim }) s.b from rfl)
  clear h
  go_enter Tryz.func135, Tryz.ntmps135
  go_wp2_with fail
  refine (rd_num g s tb (w.alloc (.cells zF 37)) (H.out.below b0.out)).mono ?_
  rintro x1 w1 (⟨e, he, rfl, hg⟩ | ⟨n1, r1, v1, s1, he1, rfl, ⟨rfl, hv1⟩, hR1, hb1, hsg1, hsl1, hg1⟩)
  · exact ⟨rfl, .inl ⟨e, ch_err E0.out rfl he, rfl, grown_trans (grown_alloc (.cells zF 37) (some g)) hg⟩⟩
  have E1 := veil (ch_ok E0.out rfl he1)
  have G1 := veil (grown_trans (grown_alloc (.cells zF 37) (some g)) hg1)
  have Q1 := veil (Row.grown R0.out hg1 (show w.heap.size ≠ g by omega))
  have B1 := veil hb1
  have D1 := veil hR1
  have M1 := veil (show s1.g = s.g ∧ s1.len ≤ s.len from ⟨hsg1, hsl1⟩)
  have V1 := veil hv1
  clear he1 hg1 hb1 hR1 hsg1 hsl1 hv1
  go_wp2_with (with_reducible (show wpList _ _ _ (⟨_, Op.store 37 _ _, _, _, _, _⟩ :: _) _ _)
               refine store_row rfl 37 _ _ rfl w.heap.size #[.int .u8 8, .int .u64 (0 : Int), .int .u64 (0 : Int), .int .u64 (n1 : Int), .int .u64 (0 : Int), .bool false, .slice none 0 0, .slice none 0 0] rfl rfl _ _ Q1.out 8 (by kernel_rfl) rfl rfl (by kernel_rfl) ?_)
  refine bodyPost_ret (results_cell_row rfl _ _ w.heap.size _ #[.int .u8 8, .int .u64 (0 : Int), .int .u64 (0 : Int), .int .u64 (n1 : Int), .int .u64 (0 : Int), .bool false, .slice none 0 0, .slice none 0 0] (0, 0) _ rfl (Q1.out.put _) Tryz.underlying37 rfl (by kernel_rfl)) rfl ?_
  refine .inr ⟨_, _, _, s1, E1.out, rfl, ⟨⟨8, 0, 0, n1, 0, false, noD, noRg⟩, rfl, new_plain _ _ _ _ _ _ _ _ (by decide) (Nat.zero_le _) (Nat.zero_le _) V1.out (Nat.zero_le _), rfl⟩, D1.out.put (by omega) (fun p => by have := H.out.ok.lt (Nat.lt_of_lt_of_le p M1.out.2); rw [M1.out.1]; omega) (by omega) _, B1.out, M1.out.1, M1.out.2, grown_put G1.out (Nat.le_refl _) _⟩

set_option maxRecDepth 20000 in
set_option maxHeartbeats 1000000 in
theorem rd_maxStreamData (g : Nat) (s : SL) (tb : Nat) (w : World) (h : Rd w g s tb) :
    Calls Tryz.prog 136 #[.pointer (some ⟨g, 0, none⟩)] w (RdPost w g s tb (Fr.bodyP 17) (frV w.heap.size)) := by
  have hgw := h.row.lt
  have hLl := h.lens.lt
  have H := veil h
  have b0 := veil ((Below.refl _ w).alloc (Nat.le_refl _) (.cells zF 37))
  have R0 := veil (Row.new w 37 zF)
  have E0 := veil (show Fr.bodyP 17 s.b = Fr.thenR Fr.numR (fun st => Fr.thenR Fr.numR fun lim => Fr.okR { Fr.f0 with kind := 9, stream := st, limit := lim }) s.b from rfl)
  clear h
  go_enter Tryz.func136, Tryz.ntmps136
  go_wp2_with fail
  refine (rd_num g s tb (w.alloc (.cells zF 37)) (H.out.below b0.out)).mono ?_
  rintro x1 w1 (⟨e, he, rfl, hg⟩ | ⟨n1, r1, v1, s1, he1, rfl, ⟨rfl, hv1⟩, hR1, hb1, hsg1, hsl1, hg1⟩)
  · exact ⟨rfl, .inl ⟨e, ch_err E0.out rfl he, rfl, grown_trans (grown_alloc (.cells zF 37) (some g)) hg⟩⟩
  have E1 := veil (ch_ok E0.out rfl he1)
  have G1 := veil (grown_trans (grown_alloc (.cells zF 37) (some g)) hg1)
  have Q1 := veil (Row.grown R0.out hg1 (show w.heap.size ≠ g by omega))
  have B1 := veil hb1
  have D1 := veil hR1
  have M1 := veil (show s1.g = s.g ∧ s1.len ≤ s.len from ⟨hsg1, hsl1⟩)
  have V1 := veil hv1
  clear he1 hg1 hb1 hR1 hsg1 hsl1 hv1
  go_wp2_with fail
  refine (rd_num g s1 tb w1 D1.out).mono ?_
  rintro x2 w2 (⟨e, he, rfl, hg⟩ | ⟨n2, r2, v2, s2, he2, rfl, ⟨rfl, hv2⟩, hR2, hb2, hsg2, hsl2, hg2⟩)
  · exact ⟨rfl, .inl ⟨e, ch_err E1.out B1.out he, rfl, grown_trans G1.out hg⟩⟩
  have E2 := veil (ch_ok E1.out B1.out he2)
  have G2 := veil (grown_trans G1.out hg2)
  have Q2 := veil (Row.grown Q1.out hg2 (show w.heap.size ≠ g by omega))
  have B2 := veil hb2
  have D2 := veil hR2
  have M2 := veil (show s2.g = s.g ∧ s2.len ≤ s.len from ⟨hsg2.trans M1.out.1, Nat.le_trans hsl2 M1.out.2⟩)
  have V2 := veil hv2
  clear he2 hg2 hb2 hR2 hsg2 hsl2 hv2
  go_wp2_with (with_reducible (show wpList _ _ _ (⟨_, Op.store 37 _ _, _, _, _, _⟩ :: _) _ _)
               refine store_row rfl 37 _ _ rfl w.heap.size #[.int .u8 9, .int .u64 (n1 : Int), .int .u64 (0 : Int), .int .u64 (n2 : Int), .int .u64 (0 : Int), .bool false, .slice none 0 0, .slice none 0 0] rfl rfl _ _ Q2.out 8 (by kernel_rfl) rfl rfl (by kernel_rfl) ?_)
  refine bodyPost_ret (results_cell_row rfl _ _ w.heap.size _ #[.int .u8 9, .int .u64 (n1 : Int), .int .u64 (0 : Int), .int .u64 (n2 : Int), .int .u64 (0 : Int), .bool false, .slice none 0 0, .slice none 0 0] (0, 0) _ rfl (Q2.out.put _) Tryz.underlying37 rfl (by kernel_rfl)) rfl ?_
  refine .inr ⟨_, _, _, s2, E2.out, rfl, ⟨⟨9, n1, 0, n2, 0, false, noD, noRg⟩, rfl, new_plain _ _ _ _ _ _ _ _ (by decide) V1.out (Nat.zero_le _) V2.out (Nat.zero_le _), rfl⟩, D2.out.put (by omega) (fun p => by have := H.out.ok.lt (Nat.lt_of_lt_of_le p M2.out.2); rw [M2.out.1]; omega) (by omega) _, B2.out, M2.out.1, M2.out.2, grown_put G2.out (Nat.le_refl _) _⟩

set_option maxRecDepth 20000 in
set_option maxHeartbeats 1000000 in
theorem rd_dataBlocked (g : Nat) (s : SL) (tb : Nat) (w : World) (h : Rd w g s tb) :
    Calls Tryz.prog 138 #[.pointer (some ⟨g, 0, none⟩)] w (RdPost w g s tb (Fr.bodyP 20) (frV w.heap.size)) := by
  have hgw := h.row.lt
  have hLl := h.lens.lt
  have H := veil h
  have b0 := veil ((Below.refl _ w).alloc (Nat.le_refl _) (.cells zF 37))
  have R0 := veil (Row.new w 37 zF)
  have E0 := veil (show Fr.bodyP 20 s.b = Fr.thenR Fr.numR (fun lim => Fr.okR { Fr.f0 with kind := 11, limit := lim }) s.b from rfl)
  clear h
  go_enter Tryz.func138, Tryz.ntmps138
  go_wp2_with fail
  refine (rd_num g s tb (w.alloc (.cells zF 37)) (H.out.below b0.out)).mono ?_
  rintro x1 w1 (⟨e, he, rfl, hg⟩ | ⟨n1, r1, v1, s1, he1, rfl, ⟨rfl, hv1⟩, hR1, hb1, hsg1, hsl1, hg1⟩)
  · exact ⟨rfl, .inl ⟨e, ch_err E0.out rfl he, rfl, grown_trans (grown_alloc (.cells zF 37) (some g)) hg⟩⟩
  have E1 := veil (ch_ok E0.out rfl he1)
  have G1 := veil (grown_trans (grown_alloc (.cells zF 37) (some g)) hg1)
  have Q1 := veil (Row.grown R0.out hg1 (show w.heap.size ≠ g by omega))
  have B1 := veil hb1
  have D1 := veil hR1
  have M1 := veil (show s1.g = s.g ∧ s1.len ≤ s.len from ⟨hsg1, hsl1⟩)
  have V1 := veil hv1
  clear he1 hg1 hb1 hR1 hsg1 hsl1 hv1
  go_wp2_with (with_reducible (show wpList _ _ _ (⟨_, Op.store 37 _ _, _, _, _, _⟩ :: _) _ _)
               refine store_row rfl 37 _ _ rfl w.heap.size #[.int .u8 11, .int .u64 (0 : Int), .int .u64 (0 : Int), .int .u64 (n1 : Int), .int .u64 (0 : Int), .bool false, .slice none 0 0, .slice none 0 0] rfl rfl _ _ Q1.out 8 (by kernel_rfl) rfl rfl (by kernel_rfl) ?_)
  refine bodyPost_ret (results_cell_row rfl _ _ w.heap.size _ #[.int .u8 11, .int .u64 (0 : Int), .int .u64 (0 : Int), .int .u64 (n1 : Int), .int .u64 (0 : Int), .bool false, .slice none 0 0, .slice none 0 0] (0, 0) _ rfl (Q1.out.put _) Tryz.underlying37 rfl (by kernel_rfl)) rfl ?_
  refine .inr ⟨_, _, _, s1, E1.out, rfl, ⟨⟨11, 0, 0, n1, 0, false, noD, noRg⟩, rfl, new_plain _ _ _ _ _ _ _ _ (by decide) (Nat.zero_le _) (Nat.zero_le _) V1.out (Nat.zero_le _), rfl⟩, D1.out.put (by omega) (fun p => by have := H.out.ok.lt (Nat.lt_of_lt_of_le p M1.out.2); rw [M1.out.1]; omega) (by omega) _, B1.out, M1.out.1, M1.out.2, grown_put G1.out (Nat.le_refl _) _⟩

set_option maxRecDepth 20000 in
set_option maxHeartbeats 1000000 in
theorem rd_streamBlocked (g : Nat) (s : SL) (tb : Nat) (w : World) (h : Rd w g s tb) :
    Calls Tryz.prog 139 #[.pointer (some ⟨g, 0, none⟩)] w (RdPost w g s tb (Fr.bodyP 21) (frV w.heap.size)) := by
  have hgw := h.row.lt
  have hLl := h.lens.lt
  have H := veil h
  have b0 := veil ((Below.refl _ w).alloc (Nat.le_refl _) (.cells zF 37))
  have R0 := veil (Row.new w 37 zF)
  have E0 := veil (show Fr.bodyP 21 s.b = Fr.thenR Fr.numR (fun st => Fr.thenR Fr.numR fun lim => Fr.okR { Fr.f0 with kind := 12, stream := st, limit := lim }) s.b from rfl)
  clear h
  go_enter Tryz.func139, Tryz.ntmps139
  go_wp2_with fail
  refine (rd_num g s tb (w.alloc (.cells zF 37)) (H.out.below b0.out)).mono ?_
  rintro x1 w1 (⟨e, he, rfl, hg⟩ | ⟨n1, r1, v1, s1, he1, rfl, ⟨rfl, hv1⟩, hR1, hb1, hsg1, hsl1, hg1⟩)
  · exact ⟨rfl, .inl ⟨e, ch_err E0.out rfl he, rfl, grown_trans (grown_alloc (.cells zF 37) (some g)) hg⟩⟩
  have E1 := veil (ch_ok E0.out rfl he1)
  have G1 := veil (grown_trans (grown_alloc (.cells zF 37) (some g)) hg1)
  have Q1 := veil (Row.grown R0.out hg1 (show w.heap.size ≠ g by omega))
  have B1 := veil hb1
  have D1 := veil hR1
  have M1 := veil (show s1.g = s.g ∧ s1.len ≤ s.len from ⟨hsg1, hsl1⟩)
  have V1 := veil hv1
  clear he1 hg1 hb1 hR1 hsg1 hsl1 hv1
  go_wp2_with fail
  refine (rd_num g s1 tb w1 D1.out).mono ?_
  rintro x2 w2 (⟨e, he, rfl, hg⟩ | ⟨n2, r2, v2, s2, he2, rfl, ⟨rfl, hv2⟩, hR2, hb2, hsg2, hsl2, hg2⟩)
  · exact ⟨rfl, .inl ⟨e, ch_err E1.out B1.out he, rfl, grown_trans G1.out hg⟩⟩
  have E2 := veil (ch_ok E1.out B1.out he2)
  have G2 := veil (grown_trans G1.out hg2)
  have Q2 := veil (Row.grown Q1.out hg2 (show w.heap.size ≠ g by omega))
  have B2 := veil hb2
  have D2 := veil hR2
  have M2 := veil (show s2.g = s.g ∧ s2.len ≤ s.len from ⟨hsg2.trans M1.out.1, Nat.le_trans hsl2 M1.out.2⟩)
  have V2 := veil hv2
  clear he2 hg2 hb2 hR2 hsg2 hsl2 hv2
  go_wp2_with (with_reducible (show wpList _ _ _ (⟨_, Op.store 37 _ _, _, _, _, _⟩ :: _) _ _)
               refine store_row rfl 37 _ _ rfl w.heap.size #[.int .u8 12, .int .u64 (n1 : Int), .int .u64 (0 : Int), .int .u64 (n2 : Int), .int .u64 (0 : Int), .bool false, .slice none 0 0, .slice none 0 0] rfl rfl _ _ Q2.out 8 (by kernel_rfl) rfl rfl (by kernel_rfl) ?_)
  refine bodyPost_ret (results_cell_row rfl _ _ w.heap.size _ #[.int .u8 12, .int .u64 (n1 : Int), .int .u64 (0 : Int), .int .u64 (n2 : Int), .int .u64 (0 : Int), .bool false, .slice none 0 0, .slice none 0 0] (0, 0) _ rfl (Q2.out.put _) Tryz.underlying37 rfl (by kernel_rfl)) rfl ?_
  refine .inr ⟨_, _, _, s2, E2.out, rfl, ⟨⟨12, n1, 0, n2, 0, false, noD, noRg⟩, rfl, new_plain _ _ _ _ _ _ _ _ (by decide) V1.out (Nat.zero_le _) V2.out (Nat.zero_le _), rfl⟩, D2.out.put (by omega) (fun p => by have := H.out.ok.lt (Nat.lt_of_lt_of_le p M2.out.2); rw [M2.out.1]; omega) (by omega) _, B2.out, M2.out.1, M2.out.2, grown_put G2.out (Nat.le_refl _) _⟩
end Go.Proofs.YtimhbjlmpojhoaaGreatDoor

/-! frame's reader: data and sized. -/
namespace Go.Proofs.YtimhbjlmpojhoaaGreatDoor
open Go Go.RowKit

/-- So many bytes that stand at an offset. -/
def dataAtR (off n : Nat) : Fr.R (List By) := fun b => if 4611686018427387903 < off + n then .error 5 else Fr.dataR n b

set_option maxRecDepth 20000 in
set_option maxHeartbeats 2000000 in
theorem rd_dataAt (g : Nat) (s : SL) (tb off n : Nat) (w : World) (h : Rd w g s tb) (ho : off ≤ 4611686018427387903) (hn : n ≤ 4611686018427387903) :
    Calls Tryz.prog 154 #[.pointer (some ⟨g, 0, none⟩), .int .u64 (off : Int), .int .u64 (n : Int)] w (RdPost w g s tb (dataAtR off n) (fun d w' v => RowK w.heap.size d w' v)) := by
  obtain ⟨i0, hi, hz0, hz1, hz2⟩ := info_parts Tryz.infoByteV
  have c0 : w.cell? ⟨g, 0, none⟩ = some (.slice s.a s.len s.cap) := h.row.cell 0
  have hwl : IntKind.u64.wrap (s.len : Int) = (s.len : Int) := by have := h.len; rw [IntKind.wrap_u64]; omega
  have hwo : IntKind.u64.wrap ((off : Int) + (n : Int)) = (off : Int) + (n : Int) := by rw [IntKind.wrap_u64]; omega
  have hgw := h.row.lt
  have hsl := h.len
  have H := veil h
  clear h
  by_cases h1 : 4611686018427387903 < off + n
  · have f1 : decide ((4611686018427387903 : Int) < (off : Int) + (n : Int)) = true := by simp; omega
    have E := veil (show dataAtR off n s.b = .error 5 by unfold dataAtR; rw [if_pos h1])
    clear h1
    go_enter Tryz.func154, Tryz.ntmps154
    go_wp2_with fail
    exact ⟨rfl, .inl ⟨5, E.out, rfl, grown_refl _ _⟩⟩
  have f1 : decide ((4611686018427387903 : Int) < (off : Int) + (n : Int)) = false := by simp; omega
  by_cases h2 : s.len < n
  · have f2 : decide ((s.len : Int) < (n : Int)) = true := by simp; omega
    have f2n : decide (s.len < n) = true := by simp; omega
    have E := veil (show dataAtR off n s.b = .error 4 by unfold dataAtR Fr.dataR; rw [if_neg h1, if_pos (by rw [H.out.ok.hb]; exact h2)])
    clear h1 h2
    go_enter Tryz.func154, Tryz.ntmps154
    go_wp2_with fail
    exact ⟨rfl, .inl ⟨4, E.out, rfl, grown_refl _ _⟩⟩
  have f2 : decide ((s.len : Int) < (n : Int)) = false := by simp; omega
  have f2n : decide (s.len < n) = false := by simp; omega
  have E := veil (show dataAtR off n s.b = .ok (s.b.take n, s.b.drop n) by unfold dataAtR Fr.dataR; rw [if_neg h1, if_neg (by rw [H.out.ok.hb]; exact h2)])
  have hn' : n ≤ s.len := Nat.le_of_not_lt h2
  have HHD := veil (headF_ok H.out.ok n hn')
  have HT := veil H.out.told
  have HNIL := veil H.out.ok.nil
  have HCAP := veil H.out.ok.hcap
  clear h1 h2
  go_enter Tryz.func154, Tryz.ntmps154
  go_wp2_with (first
    | (with_reducible (show wpList _ _ _ (⟨some 27, Op.slice _ _ _ _ _, _, _, _, _⟩ :: _) _ _)
       refine value_wp rfl _ (run_headU 26 5 _ _ s n HT.out HNIL.out HCAP.out rfl rfl rfl Tryz.underlying26 (by kernel_rfl) hn' _) ?_)
    | (with_reducible (show wpList _ _ _ (⟨some 28, Op.call _, _, _, _, _⟩ :: _) _ _)
       refine append_sl rfl _ _ 26 rfl w.heap.size i0 Tryz.underlying26 hi hz0 hz1 hz2 (.slice none 0 0) 0 [] rfl (World.ownsRow_nil _ _ _ _) (headF s n) HHD.out rfl (show 0 + n ≤ 8388608 by omega) (Nat.le_refl _) ?_
       intro v3 w3 hown3 hgrow3
       have hro3 : Row w3 g 71 (rrC s tb) := (hgrow3.block g H.out.row.lt (by simp [Value.ownBlock])).trans H.out.row
       have t0 : w3.cell? ⟨g, 0, none⟩ = some (.slice s.a s.len s.cap) := hro3.cell 0
       have z0 := hro3.frozen 0
       have HO3 := veil (show RowK w.heap.size (s.b.take n) w3 v3 by
         unfold RowK
         rw [List.length_take, H.out.ok.hb, Nat.min_eq_left hn']
         have h3 := hown3
         rw [show 0 + (headF s n).len = n from Nat.zero_add n] at h3
         exact h3)
       have HG3 := veil (show w.grownBy w3 (some g) from ⟨hgrow3.os, hgrow3.tape, hgrow3.output, hgrow3.size, fun k hk hk2 => hgrow3.block k hk (by simp [Value.ownBlock])⟩)
       have HRO3 := veil hro3
       have HCUT := veil (cutF_ok (H.out.ok.apart HG3.out H.out.ne) H.out.told n hn')
       clear hown3 hgrow3 hro3)
    | (with_reducible (show wpList _ _ _ (⟨some 35, Op.slice _ _ _ _ _, _, _, _, _⟩ :: _) _ _)
       refine value_wp rfl _ (run_cutU 26 5 _ _ s n HT.out HNIL.out rfl rfl rfl Tryz.underlying26 (by kernel_rfl) hn' _) ?_))
  go_ret
  obtain ⟨o1, o2, o3, o4, o5⟩ := HCUT.out
  have hg4 : w.grownBy (w3.setCell ⟨g, 0, none⟩ (.slice (cutF s n).a (cutF s n).len (cutF s n).cap)) (some g) := grown_set HG3.out
  refine .inr ⟨_, _, v3, cutF s n, E.out, rfl, ?_, ⟨HRO3.out.set 0 _, ?_, o2, fun p => by rw [o5]; exact H.out.ne (by omega), H.out.lens.grown hg4 H.out.gne, H.out.gne, by omega⟩, o4, o5, by omega, hg4⟩
  · refine World.ownsRow.kept HO3.out (grown_set (grown_refl _ _)) ?_
    right
    intro e
    have := (HO3.out.lt g e).1
    omega
  · exact o1.apart (grown_set (grown_refl _ _)) (fun p => by rw [o5]; exact H.out.ne (by omega))

theorem own_grown {w w' : World} {base g n : Nat} {e : TypeId} {z : Nat} {v : Value} {xs : List Value} (h : w.ownsRow base e z v n xs) (hg : w.grownBy w' (some g)) (hb : g < base) : w'.ownsRow base e z v n xs :=
  h.kept hg (.inr fun q => by have := (h.lt g q).1; omega)

set_option maxRecDepth 20000 in
set_option maxHeartbeats 1000000 in
theorem rd_sized (g : Nat) (s : SL) (tb off : Nat) (w : World) (h : Rd w g s tb) (ho : off ≤ 4611686018427387903) :
    Calls Tryz.prog 151 #[.pointer (some ⟨g, 0, none⟩), .int .u64 (off : Int)] w (RdPost w g s tb (Fr.placedR off) (fun d w' v => RowK w.heap.size d w' v)) := by
  have E0 := veil (show Fr.placedR off s.b = Fr.thenR Fr.numR (fun n => if 4611686018427387903 < off + n then Fr.noR 5 else Fr.dataR n) s.b from rfl)
  have H := veil h
  clear h
  go_enter Tryz.func151, Tryz.ntmps151
  go_wp2_with fail
  refine (rd_num g s tb w H.out).mono ?_
  rintro x1 w1 (⟨e, he, rfl, hg⟩ | ⟨n1, r1, v1, s1, he1, rfl, ⟨rfl, hv1⟩, hR1, hb1, hsg1, hsl1, hg1⟩)
  · exact ⟨rfl, .inl ⟨e, ch_err E0.out rfl he, rfl, hg⟩⟩
  have E1 := veil (show Fr.placedR off s.b = dataAtR off n1 s1.b by
    rw [ch_ok E0.out rfl he1, hb1]
    unfold dataAtR
    split <;> rfl)
  have G1 := veil hg1
  have D1 := veil hR1
  have M1 := veil (show s1.g = s.g ∧ s1.len ≤ s.len from ⟨hsg1, hsl1⟩)
  have V1 := veil hv1
  clear he1 hg1 hb1 hR1 hsg1 hsl1 hv1
  go_wp2_with fail
  refine (rd_dataAt g s1 tb off n1 w1 D1.out ho V1.out).mono ?_
  rintro x2 w2 (⟨e, he, rfl, hg⟩ | ⟨d2, r2, v2, s2, he2, rfl, hV2, hR2, hb2, hsg2, hsl2, hg2⟩)
  · exact ⟨rfl, .inl ⟨e, E1.out.trans he, rfl, grown_trans G1.out hg⟩⟩
  have RES := veil (show ∃ s' : SL, Fr.placedR off s.b = .ok (d2, r2) ∧ RowK w.heap.size d2 w2 v2 ∧ Rd w2 g s' tb ∧ s'.b = r2 ∧ s'.g = s.g ∧ s'.len ≤ s.len ∧ w.grownBy w2 (some g) from ⟨s2, E1.out.trans he2, own_low hV2 G1.out.size, hR2, hb2, hsg2.trans M1.out.1, Nat.le_trans hsl2 M1.out.2, grown_trans G1.out hg2⟩)
  clear he2 hV2 hR2 hb2 hsg2 hsl2 hg2
  go_wp2_with fail
  go_ret
  obtain ⟨s', a1, a2, a3, a4, a5, a6, a7⟩ := RES.out
  exact .inr ⟨d2, r2, v2, s', a1, rfl, a2, a3, a4, a5, a6, a7⟩
end Go.Proofs.YtimhbjlmpojhoaaGreatDoor

/-! A region that draws its order, in which calls come one behind the other and each has one value, and all else has one value, whatever the order. No program in sight. -/
namespace Go.Proofs.YtimhbjlmpojhoaaGreatDoor
open Go Go.RowKit

theorem put_none (a : Act) (v : Value) : a.put none v = a := rfl

section
variable {F : Fence} {n : Nat} {P : Program} {ops : Array Oper} {Q : Exit → Act → World → Prop} {md : Region.Mode}
end
end Go.Proofs.YtimhbjlmpojhoaaGreatDoor
