/-
  What holds between the steps of LedgerPlays: the two ledgers, the book, and that they lie apart.
-/
import Derived.Test.YtohoieleakieeaaGreatDoorGlLrAll
import Derived.Test.YtohoieleakieeaaGreatDoorGl20
import Derived.Test.YtohoieleakieeaaGreatDoorGlBwNR
import Derived.Test.YtohoieleakieeaaGreatDoorGl11
import Derived.Test.YtohoieleakieeaaGreatDoorGlLgActM
namespace Go.Proofs.YtohoieleakieeaaGreatDoor
open Go Go.RowKit

namespace Bw
theorem Kd.narrow {S B j HT T z nn : Nat} {X : List Value → Prop} {own : Nat → Prop} {W : World} (h : Kd S B j HT T z nn X own W) : Kd S B j HT T z nn X (fun b => own b ∧ b < W.heap.size) W := by
  obtain ⟨m, V, E, nu, N, F, h1, hd, h3, h4, h5, h6⟩ := h
  refine ⟨m, V, E, nu, N, F, h1, hd, h3, h4, h5, fun b e => ⟨h6 b e, ?_⟩⟩
  rcases e with e | ⟨i, hi, e⟩
  · exact (hd.ent.lt b e).2
  · exact ((hd.rows i hi).lt b e).2
theorem BwNR.narrow {S B nn : Nat} {own : Nat → Prop} {W : World} (h : BwNR S B nn own W) : BwNR S B nn (fun b => own b ∧ b < W.heap.size) W :=
  ⟨h.cnt, h.kNumber.narrow, h.kRange.narrow, h.em, h.fz, h.SB, h.bB, h.oB, h.bB⟩
end Bw

/-- A block's type. -/
def Ty (W : World) (b : Nat) (T : TypeId) : Prop := ∃ cur, W.heap[b]? = some (.cells cur T (0, 0))
theorem Ty.ne {W : World} {b b' : Nat} {T T' : TypeId} (h : Ty W b T) (h' : Ty W b' T') (n : T ≠ T') : b ≠ b' := by
  intro e
  subst e
  obtain ⟨c, h⟩ := h
  obtain ⟨c', h'⟩ := h'
  have := h.symm.trans h'
  injection this with this
  injection this with _ this
  exact n this
theorem Ty.own {w : World} {B n z : Nat} {e : TypeId} {v : Value} {xs : List Value} (h : w.ownsRow B e z v n xs) {k : Nat} (hk : v.ownBlock = some k) : Ty w k e := own_type2 h hk
theorem Ty.rowO {w : World} {n z : Nat} {e : TypeId} {v : Value} {xs : List Value} (h : RowO w e z v n xs) {k : Nat} (hk : v.ownBlock = some k) : Ty w k e := by
  rcases h.2 with ⟨rfl, _⟩ | ⟨g, o, c, cur, rfl, h5, _⟩
  · cases hk
  · injection hk with hk
    subst hk
    exact ⟨cur, h5⟩
theorem own_cut15 {w : World} {base g n z : Nat} {e : TypeId} {xs ys : List Value} (h : w.ownsRow base e z (.slice (some ⟨g, 0, none⟩) (n + 1) (n + 1)) (n + 1) (xs ++ ys)) (hx : xs.length = n * z) : w.ownsRow base e z (.slice (some ⟨g, 0, none⟩) n (n + 1)) n xs := by
  obtain ⟨_, h2⟩ := h
  rcases h2 with ⟨e, _⟩ | ⟨g', cap, cur, e, hg, hh, _, hm, hs, ht⟩
  · cases e
  · simp only [Value.slice.injEq, Option.some.injEq, Addr.mk.injEq] at e
    obtain ⟨⟨rfl, _⟩, _, rfl⟩ := e
    refine ⟨hx, .inr ⟨g, n + 1, cur, rfl, hg, hh, by omega, hm, hs, ?_⟩⟩
    have h3 := congrArg (List.take (n * z)) ht
    rw [List.take_take, Nat.min_eq_left (Nat.mul_le_mul_right z (Nat.le_succ n)), List.take_append_of_le_length (by omega), List.take_of_length_le (l := xs) (by omega)] at h3
    exact h3
theorem own_keep15 {W W' : World} {base e z n : Nat} {v : Value} {xs : List Value} {st : Nat → Prop} (h : W.ownsRow base e z v n xs) (k : KeepP st W W') (hv : ∀ b, v.ownBlock = some b → ¬ st b) : W'.ownsRow base e z v n xs := Bq.own_keepP h k hv
theorem own_below15 {W W' : World} {base e z n : Nat} {v : Value} {xs : List Value} (h : W.ownsRow base e z v n xs) (hb : Below W.heap.size W W') : W'.ownsRow base e z v n xs := own_keep15 (st := fun _ => False) h (KeepP.of_below hb) (fun _ _ q => q)

structure PlI (w : World) (g h B c nn : Nat) (s t : Lg.Led) (v u : Value) (own : Nat → Prop) (W : World) : Prop where
  lok : LOk c W g v s
  rd : RdOk W h u t
  bk : Bw.BwNR w.heap.size B nn own W
  bel : Below w.heap.size w W
  gw : w.heap.size ≤ g
  hw : w.heap.size ≤ h
  vw : ∀ k, v.ownBlock = some k → w.heap.size ≤ k
  uw : ∀ k, u.ownBlock = some k → w.heap.size ≤ k
  ow : ∀ k, own k → w.heap.size ≤ k ∧ k < W.heap.size
  og : ¬ own g
  oh : ¬ own h
  ov : ∀ k, v.ownBlock = some k → ¬ own k
  ou : ∀ k, u.ownBlock = some k → ¬ own k
section
variable {w W W' : World} {g h B c c' nn : Nat} {s s' t t' : Lg.Led} {v v' u u' : Value} {own : Nat → Prop}
theorem PlI.tg (x : PlI w g h B c nn s t v u own W) : Ty W g 70 := ⟨_, x.lok.ld.row⟩
theorem PlI.th (x : PlI w g h B c nn s t v u own W) : Ty W h 74 := ⟨_, x.rd.row⟩
theorem PlI.tv (x : PlI w g h B c nn s t v u own W) {k : Nat} (hk : v.ownBlock = some k) : Ty W k 78 := Ty.rowO x.lok.ld.way hk
theorem PlI.tu (x : PlI w g h B c nn s t v u own W) {k : Nat} (hk : u.ownBlock = some k) : Ty W k 80 := Ty.rowO x.rd.way hk
/-- A block of another type is none of the program's ledger. -/
theorem PlI.notL (x : PlI w g h B c nn s t v u own W) {k : Nat} {T : TypeId} (hk : Ty W k T) (h1 : T ≠ 70) (h2 : T ≠ 78) : ¬ (k = g ∨ v.ownBlock = some k) := by
  rintro (q | q)
  · exact hk.ne x.tg h1 q
  · exact hk.ne (x.tv q) h2 rfl
theorem PlI.notR (x : PlI w g h B c nn s t v u own W) {k : Nat} {T : TypeId} (hk : Ty W k T) (h1 : T ≠ 74) (h2 : T ≠ 80) : ¬ (k = h ∨ u.ownBlock = some k) := by
  rintro (q | q)
  · exact hk.ne x.th h1 q
  · exact hk.ne (x.tu q) h2 rfl
theorem PlI.below (x : PlI w g h B c nn s t v u own W) (hb : Below W.heap.size W W') : PlI w g h B c nn s t v u own W' :=
  ⟨x.lok.below hb, x.rd.below hb, x.bk.below hb, x.bel.trans (hb.mono x.bel.size), x.gw, x.hw, x.vw, x.uw, fun k hk => ⟨(x.ow k hk).1, Nat.lt_of_lt_of_le (x.ow k hk).2 hb.size⟩, x.og, x.oh, x.ov, x.ou⟩
theorem PlI.led (x : PlI w g h B c nn s t v u own W) (hL : LOk c' W' g v' s') (hk : KeepL g v W W') (hs : Stay v v' W) : PlI w g h B c' nn s' t v' u own W' := by
  have sz := x.bel.size
  refine ⟨hL, x.rd.same (hk.block h x.rd.lt (x.notL x.th (by decide) (by decide))) (fun k e => hk.block k (x.rd.way.lt k e) (x.notL (x.tu e) (by decide) (by decide))), x.bk.keep hk (fun b e q => q.elim (fun q => x.og (q ▸ e)) (fun q => x.ov b q e)), x.bel.trans (hk.below (fun q hq => hq.elim (fun e => by rw [e]; exact x.gw) (fun e => x.vw q e)) sz), x.gw, x.hw, fun k e => ?_, x.uw, fun k e => ⟨(x.ow k e).1, Nat.lt_of_lt_of_le (x.ow k e).2 hk.size⟩, x.og, x.oh, fun k e q => ?_, x.ou⟩
  · rcases hs k e with e | e
    · exact x.vw k e
    · exact Nat.le_trans sz e
  · rcases hs k e with e | e
    · exact x.ov k e q
    · have := (x.ow k q).2; omega
theorem PlI.ref (x : PlI w g h B c nn s t v u own W) (hR : RdOk W' h u' t') (hk : KeepL h u W W') (hs : Stay u u' W) : PlI w g h B c nn s t' v u' own W' := by
  have sz := x.bel.size
  refine ⟨⟨x.lok.ld.same (hk.block g x.lok.ld.lt (x.notR x.tg (by decide) (by decide))) (fun k e => hk.block k (x.lok.ld.way.lt k e) (x.notR (x.tv e) (by decide) (by decide))), x.lok.fit, x.lok.sane⟩, hR, x.bk.keep hk (fun b e q => q.elim (fun q => x.oh (q ▸ e)) (fun q => x.ou b q e)), x.bel.trans (hk.below (fun q hq => hq.elim (fun e => by rw [e]; exact x.hw) (fun e => x.uw q e)) sz), x.gw, x.hw, x.vw, fun k e => ?_, fun k e => ⟨(x.ow k e).1, Nat.lt_of_lt_of_le (x.ow k e).2 hk.size⟩, x.og, x.oh, x.ov, fun k e q => ?_⟩
  · rcases hs k e with e | e
    · exact x.uw k e
    · exact Nat.le_trans sz e
  · rcases hs k e with e | e
    · exact x.ou k e q
    · have := (x.ow k q).2; omega
/-- A list was told. -/
theorem PlI.told {l : Value} {n z S : Nat} {T : TypeId} {xs : List Value} (x : PlI w g h B c nn s t v u own W) (hb : Bw.BwNR w.heap.size B (nn + 1) (Bw.ownL own l W.heap.size) W') (hk : KeepP own W W') (hl : W.ownsRow S T z l n xs) (hS : w.heap.size ≤ S) (h1 : T ≠ 70) (h2 : T ≠ 78) (h3 : T ≠ 74) (h4 : T ≠ 80) :
    ∃ own', PlI w g h B c (nn + 1) s t v u own' W' ∧ ∀ k, k < W.heap.size → own' k → own k ∨ l.ownBlock = some k := by
  have sz := x.bel.size
  have no : ∀ k, k < W.heap.size → ¬ own k → (∀ q, l.ownBlock = some q → q ≠ k) → ¬ (Bw.ownL own l W.heap.size k ∧ k < W'.heap.size) := by
    rintro k k1 k2 k3 ⟨e, _⟩
    rcases e with e | e | e
    · exact k2 e
    · exact k3 k e rfl
    · omega
  refine ⟨_, ⟨⟨x.lok.ld.same (hk.block g x.lok.ld.lt x.og) (fun k e => hk.block k (x.lok.ld.way.lt k e) (x.ov k e)), x.lok.fit, x.lok.sane⟩, x.rd.same (hk.block h x.rd.lt x.oh) (fun k e => hk.block k (x.rd.way.lt k e) (x.ou k e)), hb.narrow, x.bel.trans (hk.below (fun q hq => (x.ow q hq).1) sz), x.gw, x.hw, x.vw, x.uw, fun k e => ⟨?_, e.2⟩, no g x.lok.ld.lt x.og (fun q e => (Ty.own hl e).ne x.tg h1), no h x.rd.lt x.oh (fun q e => (Ty.own hl e).ne x.th h3), fun k e => no k (x.lok.ld.way.lt k e) (x.ov k e) (fun q e2 => (Ty.own hl e2).ne (x.tv e) h2), fun k e => no k (x.rd.way.lt k e) (x.ou k e) (fun q e2 => (Ty.own hl e2).ne (x.tu e) h4)⟩, fun k k1 e => ?_⟩
  · rcases e.1 with q | q | q
    · exact (x.ow k q).1
    · exact Nat.le_trans hS (hl.lt k q).1
    · omega
  · rcases e.1 with q | q | q
    · exact .inl q
    · exact .inr q
    · omega
theorem PlI.more (x : PlI w g h B c nn s t v u own W) (hc : c ≤ c') : PlI w g h B c' nn s t v u own W :=
  ⟨⟨x.lok.ld, x.lok.fit.more hc, x.lok.sane⟩, x.rd, x.bk, x.bel, x.gw, x.hw, x.vw, x.uw, x.ow, x.og, x.oh, x.ov, x.ou⟩
theorem PlI.start {w0 w1 : World} (hg : w.heap.size ≤ g) (hL : LOk 0 w0 g (.slice none 0 0) Lg.new) (hb0 : Below w.heap.size w w0) (hh : w0.heap.size ≤ h) (hR : RdOk w1 h (.slice none 0 0) Lg.new) (hb1 : Below w0.heap.size w0 w1) (ty : TypeId) :
    PlI w g h w1.heap.size 0 0 Lg.new Lg.new (.slice none 0 0) (.slice none 0 0) (fun b => b = w1.heap.size) (w1.alloc (.cells #[.int .i64 0, .slice none 0 0, .slice none 0 0, .slice none 0 0, .slice none 0 0, .slice none 0 0, .slice none 0 0, .slice none 0 0, .slice none 0 0, .slice none 0 0, .slice none 0 0, .slice none 0 0, .slice none 0 0] ty)) := by
  have hb2 := (Below.refl w1.heap.size w1).alloc (Nat.le_refl _) (.cells #[.int .i64 0, .slice none 0 0, .slice none 0 0, .slice none 0 0, .slice none 0 0, .slice none 0 0, .slice none 0 0, .slice none 0 0, .slice none 0 0, .slice none 0 0, .slice none 0 0, .slice none 0 0, .slice none 0 0] ty)
  have z1 := hb0.size
  have z2 := hb1.size
  have lg := hL.ld.lt
  have lh := hR.lt
  exact ⟨(hL.below hb1).below hb2, hR.below hb2, Bw.BwNR.new w.heap.size w1 ty (by omega), (hb0.trans (hb1.mono z1)).trans (hb2.mono (by omega)), hg, by omega, (fun k e => by cases e), (fun k e => by cases e), (fun k e => by rw [e]; simp; omega), (fun e => by omega), (fun e => by omega), (fun k e => by cases e), (fun k e => by cases e)⟩
end
/-- Between the two calls of Sent. -/
def RSe (w : World) (g h B c nn : Nat) (s s' : Lg.Led) (own : Nat → Prop) (bx : Nat) (cs : Array Value) : Nat → World → Prop
  | 0, W => (∃ v u, PlI w g h B c nn s s v u own W) ∧ Row W bx 26 cs
  | 1, W => (∃ v u, PlI w g h B (c + 1) nn s' s v u own W) ∧ Row W bx 26 cs
  | _, W => (∃ v u, PlI w g h B (c + 1) nn s' s' v u own W) ∧ Row W bx 26 cs
theorem RSe.row {w : World} {g h B c nn : Nat} {s s' : Lg.Led} {own : Nat → Prop} {bx : Nat} {cs : Array Value} : ∀ {m : Nat} {W : World}, RSe w g h B c nn s s' own bx cs m W → Row W bx 26 cs
  | 0, _, x => x.2
  | 1, _, x => x.2
  | _ + 2, _, x => x.2
theorem run_neq15 {P : Program} {a : Act} {o : Oper} (t t' : TypeId) (x y : Operand) (e : Int) (ho : o.op = .binOp .neq t x y t') (hx : a.eval x = .int .i64 e) (hy : a.eval y = .int .i64 e) (W : World) : (execOp a.eval o).run P W = .ok (.value (.bool false)) W := by
  unfold execOp
  simp only [ho, hx, hy]
  go_simp
end Go.Proofs.YtohoieleakieeaaGreatDoor
