/-
  The program's Get: what holds between its steps.
-/
import Derived.Test.YtjccjlhnjihfjaaDoorGhHePut
namespace Go.Proofs.YtjccjlhnjihfjaaDoor
open Go Go.RowKit

section
variable {P : Program}
theorem result_str2 {fn : Func} {p q r : Tmp} {ty : TypeId} (h : fn.results = #[.cell p ty, .tmp q, .tmp r]) (tmps : Array Value) (w : World) (g : Nat) (t : TypeId) (cs : Array Value) (hg : Row w g t cs) (n : Nat) (fs : Array Field) (v u : Value)
    (hp : tmps.getD p undef = .pointer (some ⟨g, 0, none⟩)) (hq : tmps.getD q undef = v) (hr : tmps.getD r undef = u) (hu : P.underlying ty = some (.struct fs)) (hi : (P.info? ty).map (·.size) = some n) (hc : cs.size = n) :
    (results fn tmps).run P w = .ok (.tuple #[.agg cs, v, u]) w := by
  have e : (results fn tmps).run P w = ((asAddr (tmps.getD p undef)).run P w).andThen fun a w₁ => ((loadVar ty a).run P w₁).andThen fun x w₂ => .ok (.tuple #[x, tmps.getD q undef, tmps.getD r undef]) w₂ := by
    simp only [results, h]
    simp [Sem.run_bind, Result.andThen]
  rw [e, hp, hq, hr]
  simp [asAddr, Result.andThen, run_loadVar_row w g t ty cs (0, 0) _ hg hu rfl (by rw [hc]; exact hi)]
end

/-! ### The limits that were read -/
def sAt (s : He.S) : Nat → He.S
  | 0 => s
  | j + 1 => (He.rL (sAt s j)).2
def vAt (s : He.S) (j : Nat) : Nat := (He.rL (sAt s j)).1
def lUp (s : He.S) : Nat → He.Q4
  | 0 => He.z4
  | 1 => (vAt s 0, 0, 0, 0)
  | 2 => (vAt s 0, vAt s 1, 0, 0)
  | 3 => (vAt s 0, vAt s 1, vAt s 2, 0)
  | _ => (vAt s 0, vAt s 1, vAt s 2, vAt s 3)
theorem heC_lim {x : He.H} (hx : x.nn.length = 32) (s : He.S) (j : Nat) (hj : j < 4) : (heC { x with l := lUp s j }).setIfInBounds (33 + j) (.int .u64 (vAt s j : Int)) = heC { x with l := lUp s (j + 1) } := by
  have key : ∀ (l : He.Q4) (v : Value), (heC { x with l := l }).setIfInBounds (33 + j) v = (Value.int .u8 (v8 x.k) :: (vb x.nn ++ ((qv l).set j v ++ vb x.pf))).toArray := by
    intro l v
    simp only [heC, heL, List.setIfInBounds_toArray]
    rw [show 33 + j = (32 + j) + 1 by omega, List.set_cons_succ, List.set_append_right _ _ (by rw [vb_length]; omega), vb_length, hx, Nat.add_sub_cancel_left, List.set_append_left _ _ (by simp; omega)]
  rw [key]
  match j, hj with
  | 0, _ => rfl
  | 1, _ => rfl
  | 2, _ => rfl
  | 3, _ => rfl

/-! ### Between the steps -/
structure GI (w : World) (s : SL) (x : He.H) (q : SL) (f : Bool) (W : World) : Prop where
  fine : x.Fine
  r1 : Row W w.heap.size 27 Tryd.zeroCells27
  r2 : Row W (w.heap.size + 1) 27 (heC x)
  r3 : Row W (w.heap.size + 1 + 1) 70 (hrC q f)
  ok : q.Ok W
  told : q.Told
  qg : q.g = s.g
  ql : q.len ≤ s.len
  bel : Below w.heap.size w W
  lt : 0 < s.len → s.g < w.heap.size
theorem GI.ne {w : World} {s : SL} {x : He.H} {q : SL} {f : Bool} {W : World} (h : GI w s x q f W) : 0 < q.len → q.g ≠ w.heap.size + 1 + 1 := fun p e => by
  have h1 := h.ql
  have h2 := h.lt (by omega)
  rw [h.qg] at e
  omega
/-- A call that changes the reader alone. -/
theorem GI.step {w : World} {s : SL} {x : He.H} {q : SL} {f : Bool} {W W' : World} (h : GI w s x q f W) {q' : SL} {f' : Bool} (hg : W.grownBy W' (some (w.heap.size + 1 + 1))) (hr : Row W' (w.heap.size + 1 + 1) 70 (hrC q' f')) (hok : q'.Ok W') (ht : q'.Told) (hqg : q'.g = q.g) (hql : q'.len ≤ q.len) : GI w s x q' f' W' where
  fine := h.fine
  r1 := (hg.block _ h.r1.lt (fun e => by have := Option.some.inj e; omega)).trans h.r1
  r2 := (hg.block _ h.r2.lt (fun e => by have := Option.some.inj e; omega)).trans h.r2
  r3 := hr
  ok := hok
  told := ht
  qg := hqg.trans h.qg
  ql := Nat.le_trans hql h.ql
  bel := ⟨hg.os.trans h.bel.os, hg.tape.trans h.bel.tape, hg.output.trans h.bel.output, Nat.le_trans h.bel.size hg.size, fun k hk => (hg.block k (Nat.lt_of_lt_of_le hk h.bel.size) (fun e => by have := Option.some.inj e; omega)).trans (h.bel.block k hk)⟩
  lt := h.lt
theorem SL.Ok.setOther {w : World} {q : SL} (h : q.Ok w) (g o : Nat) (v : Value) (hne : 0 < q.len → q.g ≠ g) : q.Ok (w.setCell ⟨g, o, none⟩ v) :=
  h.same (fun p => Below.heap_setCell _ _ _ _ (hne p)) (by simp [World.setCell])
theorem SL.Ok.setsOther {q : SL} (g : Nat) (hne : 0 < q.len → q.g ≠ g) : ∀ (vs : List Value) (o : Nat) {w : World}, q.Ok w → q.Ok (w.setCells g o vs)
  | [], _, _, h => h
  | v :: r, o, w, h => by
    rw [World.setCells]
    exact SL.Ok.setsOther g hne r (o + 1) (h.setOther g o v hne)
theorem GI.apart {w : World} {s : SL} {x : He.H} {q : SL} {f : Bool} {W : World} (h : GI w s x q f W) : 0 < q.len → q.g ≠ w.heap.size + 1 := fun p e => by
  have h1 := h.ql
  have h2 := h.lt (by omega)
  rw [h.qg] at e
  omega
theorem GI.nonce {w : World} {s : SL} {x : He.H} {q : SL} {f : Bool} {W : World} (h : GI w s x q f W) (n : List By) (hn : n.length = 32) : GI w s { x with nn := n } q f (W.setCells (w.heap.size + 1) 1 (vb n)) where
  fine := ⟨hn, h.fine.p32⟩
  r1 := setCells_other h.r1 _ _ _ (by omega)
  r2 := by
    have := h.r2.setCells (vb n) 1 (by rw [heC_size h.fine, vb_length, hn]; omega)
    rwa [heL_nn h.fine.n32 hn] at this
  r3 := setCells_other h.r3 _ _ _ (by omega)
  ok := SL.Ok.setsOther _ h.apart _ _ h.ok
  told := h.told
  qg := h.qg
  ql := h.ql
  bel := setCells_below _ (by omega) _ _ _ h.bel
  lt := h.lt
theorem GI.proof {w : World} {s : SL} {x : He.H} {q : SL} {f : Bool} {W : World} (h : GI w s x q f W) (n : List By) (hn : n.length = 32) : GI w s { x with pf := n } q f (W.setCells (w.heap.size + 1) 37 (vb n)) where
  fine := ⟨h.fine.n32, hn⟩
  r1 := setCells_other h.r1 _ _ _ (by omega)
  r2 := by
    have := h.r2.setCells (vb n) 37 (by rw [heC_size h.fine, vb_length, hn]; omega)
    rwa [heL_pf h.fine.n32 h.fine.p32 hn] at this
  r3 := setCells_other h.r3 _ _ _ (by omega)
  ok := SL.Ok.setsOther _ h.apart _ _ h.ok
  told := h.told
  qg := h.qg
  ql := h.ql
  bel := setCells_below _ (by omega) _ _ _ h.bel
  lt := h.lt
theorem GI.limit {w : World} {s : SL} {x : He.H} {q : SL} {f : Bool} {W : World} (z : He.S) (j : Nat) (hj : j < 4) (h : GI w s { x with l := lUp z j } q f W) : GI w s { x with l := lUp z (j + 1) } q f (W.setCell ⟨w.heap.size + 1, 33 + j, none⟩ (.int .u64 (vAt z j : Int))) where
  fine := ⟨h.fine.n32, h.fine.p32⟩
  r1 := h.r1.other (a := ⟨_, _, none⟩) (by show w.heap.size ≠ w.heap.size + 1; omega) _
  r2 := by
    have := h.r2.set (33 + j) (.int .u64 (vAt z j : Int))
    rwa [heC_lim h.fine.n32 z j hj] at this
  r3 := h.r3.other (a := ⟨_, _, none⟩) (by show w.heap.size + 1 + 1 ≠ w.heap.size + 1; omega) _
  ok := h.ok.setOther _ _ _ h.apart
  told := h.told
  qg := h.qg
  ql := h.ql
  bel := h.bel.setCell (p := ⟨_, _, none⟩) (by show w.heap.size ≤ w.heap.size + 1; omega) _
  lt := h.lt

theorem rN_length (s : He.S) : (He.rN s).1.length = 32 := by
  unfold He.rN He.stp He.fieldP
  split
  · rfl
  · rename_i a r e
    split at e
    · cases e
    · simp only [Option.some.injEq, Prod.mk.injEq] at e
      obtain ⟨rfl, rfl⟩ := e
      show (s.1.take 32).length = 32
      rw [List.length_take]
      omega
theorem gi_field {w : World} {s : SL} {x : He.H} {q : SL} {f : Bool} {W : World} (h : GI w s x q f W) (hl : s.len ≤ 140737488355328) :
    Calls Tryd.prog 65 #[.pointer (some ⟨w.heap.size + 1 + 1, 0, none⟩)] W fun e w' => ∃ q' : SL, e = .returned (.agg (bs (He.rN (q.b, f)).1)) ∧ GI w s x q' (He.rN (q.b, f)).2.2 w' ∧ q'.b = (He.rN (q.b, f)).2.1 :=
  (rd_field _ q f W h.r3 h.ok h.told h.ne (Nat.le_trans h.ql hl)).mono fun _ _ ⟨q', h1, h2, h3, h4, h5, h6, h7, h8⟩ => ⟨q', h1, h.step h8 h7 h2 h3 h5 h6, h4⟩
theorem gi_limit {w : World} {s : SL} {x : He.H} {q : SL} {f : Bool} {W : World} (h : GI w s x q f W) (hl : s.len ≤ 140737488355328) (hL : Lens w) :
    Calls Tryd.prog 66 #[.pointer (some ⟨w.heap.size + 1 + 1, 0, none⟩)] W fun e w' => ∃ q' : SL, e = .returned (.int .u64 ((He.rL (q.b, f)).1 : Int)) ∧ GI w s x q' (He.rL (q.b, f)).2.2 w' ∧ q'.b = (He.rL (q.b, f)).2.1 :=
  (rd_limit _ q f W h.r3 h.ok h.told h.ne (Nat.le_trans h.ql hl) (hL.step h.bel)).mono fun _ _ ⟨q', h1, h2, h3, h4, h5, h6, h7, h8⟩ => ⟨q', h1, h.step h8 h7 h2 h3 h5 h6, h4⟩
end Go.Proofs.YtjccjlhnjihfjaaDoor
