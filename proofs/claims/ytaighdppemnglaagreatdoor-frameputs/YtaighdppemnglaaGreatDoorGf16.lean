/-
  Out of BkTools, BkRgA, BkFrV, FrTwinF.
-/
import Derived.Test.YtaighdppemnglaaGreatDoorGf7
import Derived.Test.YtaighdppemnglaaGreatDoorGf15
import Derived.Deep.MidRow
import Derived.RangeFuncBox
import Derived.Deep.RegionHeld3
import Derived.Maps.AppendAt
import Derived.ArgAppend
import Derived.BigQuiet
import Derived.Deep.AppendLies
import Derived.Deep.RegionLaw
import Derived.BigRegion
import Derived.Test.YtaighdppemnglaaGreatDoorGf14
import Derived.Test.YtaighdppemnglaaGreatDoorGf5

/-! Single operations that the Book's own functions want. No program in sight. -/
namespace Go.Proofs.YtaighdppemnglaaGreatDoor.Bq
open Go Go.RowKit

theorem run_cellB {P : Program} {a : Act} {o : Oper} (ty : TypeId) (x : Operand) (p : Addr) (v : Value) (d : TypeDesc) (ho : o.op = .load ty x) (hx : a.eval x = .pointer (some p)) (hu : P.underlying ty = some d) (hd : (match d with | .struct _ | .array _ _ => true | _ => false) = false)
    (W : World) (hv : W.cell? p = some v) : (execOp a.eval o).run P W = .ok (.value v) W := by
  have hag : (isAgg ty).run P W = .ok false W := by
    unfold isAgg
    rw [Sem.run_bind, run_underlying hu W]
    cases d <;> simp_all
  unfold execOp
  simp [ho, hx, Instr.loadAt, Instr.sureAddr, loadVar, hag, hv]
theorem run_lenB {P : Program} {a : Act} {o : Oper} (x : Operand) (t e : TypeId) (ad : Option Addr) (len cap : Nat) (ho : o.op = .call { callee := .builtin .len, args := #[x], argTypes := #[t] }) (hx : a.eval x = .slice ad len cap) (W : World) (ht : P.underlying t = some (.slice e)) : (execOp a.eval o).run P W = .ok (.value (.int .i64 (len : Int))) W := by
  unfold execOp
  simp only [ho, resolve, invoke, builtin, List.map_toArray, List.map_cons, List.map_nil, hx]
  go_simp
theorem run_storeMid8 {P : Program} {a : Act} {o : Oper} (ty : TypeId) (x y : Operand) (b off : Nat) (cells : Array Value) (ho : o.op = .store ty x y) (hx : a.eval x = .pointer (some ⟨b, off, none⟩)) (hy : a.eval y = .agg cells) (w : World) (ht : w.there b off cells.size) (hi : (P.info? ty).map (·.size) = some cells.size) (h1 : cells.all (·.oneCell') = true) : (execOp a.eval o).run P w = .ok .skip (w.setCells b off cells.toList) := by
  unfold execOp
  simp only [ho, hx, hy, run_storeAt_mid w b off ty cells ht hi h1, Sem.run_bind, Sem.run_pure, Result.andThen_ok]
theorem run_lssI8 {P : Program} {a : Act} {o : Oper} (t t' : TypeId) (x y : Operand) (m r : Nat) (b : Bool) (hb : b = decide (m < r)) (ho : o.op = .binOp .lss t x y t') (hx : a.eval x = .int .i64 (m : Int)) (hy : a.eval y = .int .i64 (r : Int)) (W : World) :
    (execOp a.eval o).run P W = .ok (.value (.bool b)) W := by
  subst hb
  unfold execOp
  simp only [ho, hx, hy]
  go_simp
end Go.Proofs.YtaighdppemnglaaGreatDoor.Bq

/-! A Book of lists of ranges: what it holds. Written by mkbook8.py out of AeBook.lean. -/
namespace Go.Proofs.YtaighdppemnglaaGreatDoor.Bq
open Go Go.RowKit

/-- The mark of the list with this place, as it is written. -/
def mk (n : Nat) : Nat × Nat := (1000 + n, 0)
/-- A list of this kind lies there. -/
def OwnB (m : Nat) (E : Nat → Value) (b : Nat) : Prop := ∃ i, i < m ∧ (E i).ownBlock = some b

/-- No list lies where another one lies, nor where the book does. -/
structure Sep (S B h m : Nat) (E : Nat → Value) : Prop where
  SB : S ≤ B
  Sh : S ≤ h
  Bh : B ≠ h
  eB : ∀ i, i < m → (E i).ownBlock ≠ some B
  eh : ∀ i, i < m → (E i).ownBlock ≠ some h
  ee : ∀ i j, i < m → j < m → i ≠ j → (E i).ownBlock = none ∨ (E i).ownBlock ≠ (E j).ownBlock

/-- The book holds m lists in block h; each owns its elements; old memory is as it was. -/
structure St (S B h m cap : Nat) (nu : Nat → Nat) (E : Nat → Value) (N : Nat → Nat) (Lg : Nat → Value) (X : Nat → List (Nat × Nat)) (w0 W : World) : Prop where
  sS : S ≤ W.heap.size
  bB : B < W.heap.size
  bh : h < W.heap.size
  book : W.cell? ⟨B, 6, none⟩ = some (.slice (some ⟨h, 0, none⟩) m cap)
  l : ∀ i, i < m → W.cell? ⟨h, i * 3, none⟩ = some (E i)
  g : ∀ i, i < m → W.cell? ⟨h, i * 3 + 1, none⟩ = some (Lg i)
  n : ∀ i, i < m → W.cell? ⟨h, i * 3 + 2, none⟩ = some (.int .i64 (nu i : Int))
  fz : ∀ j, W.frozen? ⟨h, j, none⟩ = false
  rows : ∀ i, i < m → W.ownsRow S 114 2 (E i) (N i) (vr (X i))
  below : Below S w0 W

theorem own_keepP {W W' : World} {base e z n : Nat} {v : Value} {xs : List Value} {st : Nat → Prop} (h : W.ownsRow base e z v n xs) (k : KeepP st W W') (hv : ∀ b, v.ownBlock = some b → ¬ st b) : W'.ownsRow base e z v n xs := by
  refine ⟨h.1, ?_⟩
  rcases h.2 with h2 | ⟨g, c, cur, rfl, hb, hg, h3⟩
  · exact .inl h2
  · have hlt : g < W.heap.size := by
      by_cases hc : g < W.heap.size
      · exact hc
      · rw [Array.getElem?_eq_none (by omega)] at hg
        cases hg
    exact .inr ⟨g, c, cur, rfl, hb, (k.block g hlt (hv g rfl)).trans hg, h3⟩
theorem below_keepP {S : Nat} {w0 W W' : World} {st : Nat → Prop} (h : Below S w0 W) (k : KeepP st W W') (hS : S ≤ W.heap.size) (hst : ∀ b, st b → S ≤ b) : Below S w0 W' :=
  ⟨k.os.trans h.os, k.tape.trans h.tape, k.output.trans h.output, Nat.le_trans h.size k.size, fun b hb => (k.block b (by omega) (fun e => by have := hst b e; omega)).trans (h.block b hb)⟩
theorem St.grown {S B h m cap : Nat} {nu : Nat → Nat} {E : Nat → Value} {N : Nat → Nat} {Lg : Nat → Value} {X : Nat → List (Nat × Nat)} {w0 W W' : World} {row : Option Nat} (st : St S B h m cap nu E N Lg X w0 W) (hg : W.grownBy W' row)
    (hS : ∀ k, row = some k → S ≤ k) (hB : row ≠ some B) (hh : row ≠ some h) (he : ∀ i, i < m → (E i).ownBlock = none ∨ (E i).ownBlock ≠ row) : St S B h m cap nu E N Lg X w0 W' where
  sS := Nat.le_trans st.sS hg.size
  bB := Nat.lt_of_lt_of_le st.bB hg.size
  bh := Nat.lt_of_lt_of_le st.bh hg.size
  book := hg.cell st.book (fun e => hB e.symm)
  l := fun i hi => hg.cell (st.l i hi) (fun e => hh e.symm)
  g := fun i hi => hg.cell (st.g i hi) (fun e => hh e.symm)
  n := fun i hi => hg.cell (st.n i hi) (fun e => hh e.symm)
  fz := fun j => (World.frozen?_of_block (w := W) (a := ⟨h, j, none⟩) (hg.block h st.bh (fun e => hh e.symm))).trans (st.fz j)
  rows := fun i hi => (st.rows i hi).kept hg (he i hi)
  below := st.below.grown hg st.sS hS

theorem St.alloc {S B h m cap : Nat} {nu : Nat → Nat} {E : Nat → Value} {N : Nat → Nat} {Lg : Nat → Value} {X : Nat → List (Nat × Nat)} {w0 W : World} (st : St S B h m cap nu E N Lg X w0 W) (o : Obj) : St S B h m cap nu E N Lg X w0 (W.alloc o) :=
  st.grown (World.grownBy_alloc W o none) (fun _ e => by cases e) (by simp) (by simp) (fun i _ => by
    by_cases h : (E i).ownBlock = none
    · exact .inl h
    · exact .inr h)

theorem St.drew {S B h m cap : Nat} {nu : Nat → Nat} {E : Nat → Value} {N : Nat → Nat} {Lg : Nat → Value} {X : Nat → List (Nat × Nat)} {w0 W : World} (st : St S B h m cap nu E N Lg X w0 W) : St S B h m cap nu E N Lg X w0 W.drew :=
  ⟨st.sS, st.bB, st.bh, st.book, st.l, st.g, st.n, st.fz, st.rows, st.below.drew⟩

theorem St.belowW {S B h m cap : Nat} {nu : Nat → Nat} {E : Nat → Value} {N : Nat → Nat} {Lg : Nat → Value} {X : Nat → List (Nat × Nat)} {w0 W W' : World} (st : St S B h m cap nu E N Lg X w0 W) (hb : Below W.heap.size W W') : St S B h m cap nu E N Lg X w0 W' :=
  st.grown (row := none) ⟨hb.os, hb.tape, hb.output, hb.size, fun k hk _ => hb.block k hk⟩ (fun _ e => by cases e) (by simp) (by simp) (fun i _ => by
    by_cases h : (E i).ownBlock = none
    · exact .inl h
    · exact .inr h)
theorem rowsLen {W : World} {S n : Nat} {v : Value} {l : List (Nat × Nat)} (h : W.ownsRow S 114 2 v n (vr l)) : l.length = n := by have := h.1; rw [vr_length] at this; omega
/-- One element of one list is written. -/
theorem St.store {S B h m cap : Nat} {nu : Nat → Nat} {E : Nat → Value} {N : Nat → Nat} {Lg : Nat → Value} {X : Nat → List (Nat × Nat)} {w0 W : World} (st : St S B h m cap nu E N Lg X w0 W) (sep : Sep S B h m E) {i g c : Nat} (hi : i < m) (he : E i = .slice (some ⟨g, 0, none⟩) (N i) c) (k : Nat) (hk : k < N i) (u : Nat × Nat) :
    St S B h m cap nu E N Lg (fun j => if j = i then (X i).set k u else X j) w0 (W.setCells g (k * 2) (rC2 u).toList) := by
  have hob : (E i).ownBlock = some g := by rw [he]; rfl
  have hSg : S ≤ g := ((st.rows i hi).lt g hob).1
  have hgr : W.grownBy (W.setCells g (k * 2) (rC2 u).toList) (some g) := by
    have e : W.setCells g (k * 2) (rC2 u).toList = (W.setCell ⟨g, k * 2, none⟩ (.int .u64 (u.1 : Int))).setCell ⟨g, k * 2 + 1, none⟩ (.int .u64 (u.2 : Int)) := rfl
    rw [e]
    exact ⟨rfl, rfl, rfl, by simp, fun b _ hb => (Below.heap_setCell _ _ _ b (fun e => hb (by rw [e]))).trans (Below.heap_setCell _ _ _ b (fun e => hb (by rw [e])))⟩
  have hgB : some g ≠ some B := fun e => sep.eB i hi (hob.trans e)
  have hgh : some g ≠ some h := fun e => sep.eh i hi (hob.trans e)
  refine ⟨Nat.le_trans st.sS hgr.size, Nat.lt_of_lt_of_le st.bB hgr.size, Nat.lt_of_lt_of_le st.bh hgr.size, hgr.cell st.book (fun e => hgB e.symm), fun j hj => hgr.cell (st.l j hj) (fun e => hgh e.symm), fun j hj => hgr.cell (st.g j hj) (fun e => hgh e.symm), fun j hj => hgr.cell (st.n j hj) (fun e => hgh e.symm), fun j => (World.frozen?_of_block (w := W) (a := ⟨h, j, none⟩) (hgr.block h st.bh (fun e => hgh e.symm))).trans (st.fz j), fun j hj => ?_, st.below.grown hgr st.sS (fun b e => by injection e with e; omega)⟩
  by_cases hji : j = i
  · subst hji
    rw [if_pos rfl]
    have hr := st.rows j hj
    rw [he] at hr ⊢
    exact own_pair hr u hk (rowsLen hr)
  · rw [if_neg hji]
    refine (st.rows j hj).kept hgr ?_
    rcases sep.ee j i hj hi hji with h | h
    · exact .inl h
    · exact .inr (by rw [← hob]; exact h)

/-- What a value that owns a row looks like. -/
theorem bookOwn_shape {W : World} {S : Nat} {v : Value} {n : Nat} {xs : List Value} (h : W.ownsRow S 114 2 v n xs) : (v = .slice none 0 0 ∧ n = 0) ∨ ∃ g c, v = .slice (some ⟨g, 0, none⟩) n c ∧ n ≤ c := by
  rcases h.2 with ⟨h1, h2⟩ | ⟨g, c, _, h1, _, _, h2, _⟩
  · exact .inl ⟨h1, h2⟩
  · exact .inr ⟨g, c, h1, h2⟩

theorem set_step (xs : List (Nat × Nat)) (k n : Nat) (u : Nat × Nat) (hl : xs.length = n) (hk : k < n) (h : xs.take k = List.replicate k u) : (xs.set k u).take (k + 1) = List.replicate (k + 1) u := by
  have hk2 : k < (xs.set k u).length := by rw [List.length_set]; omega
  rw [List.take_succ_eq_append_getElem hk2, List.getElem_set_self, List.take_set_of_le (Nat.le_refl _), h, List.replicate_succ']

/-- What is appended: into the old row, which stays as long as it was, or into a new one. -/
theorem run_append_two {P : Program} (w : World) (base : Nat) (t ty e : TypeId) (i : TypeInfo) (z : Value) (size bytes : Nat) (ht : P.underlying t = some (.slice e)) (hi : P.info? e = some i) (hz : i.zero = some z)
    (hsize : i.size = size) (hby : i.bytes = bytes) (hzs : z.cells.size = size) (hsz : 0 < size)
    (v : Value) (n : Nat) (xs : List Value) (hown : w.ownsRow base e size v n xs)
    (a : Addr) (m c : Nat) (news : List Value) (hl : news.length = m * size) (hnews : ∀ j u, news[j]? = some u → w.cell? (a.add j) = some u) (h1 : ∀ u ∈ news, u.oneCell' = true) (hm : 0 < m)
    (h63 : n + m ≤ maxLen) (hbytes : (n + m) * bytes ≤ 140737488355328) (hbase : base ≤ w.heap.size) :
    ∃ g cap w', (Builtin.append_ #[t, t] ty #[v, .slice (some a) m c]).run P w = .ok (.slice (some ⟨g, 0, none⟩) (n + m) cap) w' ∧ w'.ownsRow base e size (.slice (some ⟨g, 0, none⟩) (n + m) cap) (n + m) (xs ++ news) ∧
      ((v = .slice (some ⟨g, 0, none⟩) n cap ∧ w.grownBy w' (some g)) ∨ (g = w.heap.size ∧ w.grownBy w' none)) := by
  obtain ⟨v', w', hr, h2, h3, _, h5⟩ := run_append_own_at (P := P) w base t ty e i z size bytes ht hi hz hsize hby hzs hsz v n xs hown a m c news hl hnews h1 h63 hbytes hbase
  have hv' : ∃ g cap, v' = .slice (some ⟨g, 0, none⟩) (n + m) cap := by
    rcases h2.2 with ⟨_, h0⟩ | ⟨g, cap, cur, hv, _⟩
    · omega
    · exact ⟨g, cap, hv⟩
  obtain ⟨g, cap, rfl⟩ := hv'
  refine ⟨g, cap, w', hr, h2, ?_⟩
  rcases hown.2 with ⟨rfl, rfl⟩ | ⟨g0, cap0, cur, rfl, hbg, hg, hnc, hcm, hcs, htake⟩
  · right
    rcases h5 with h5 | h5
    · cases h5
    · exact ⟨by simpa [Value.ownBlock] using h5, h3⟩
  · by_cases hroom : n + m ≤ cap0
    · left
      subst hsize
      have hfit : n * i.size + news.length ≤ cur.size := by rw [hl, hcs, ← Nat.add_mul]; exact Nat.mul_le_mul_right _ hroom
      have hr2 := run_append_room (P := P) w t ty e i ht hi g0 n cap0 cur hg a m c news hl hnews h1 hroom hfit
      rw [hr] at hr2
      injection hr2 with e1 e2
      injection e1 with e3 e4 e5
      injection e3 with e6
      injection e6 with e7
      subst e7 e5
      exact ⟨rfl, h3⟩
    · right
      have holds : ∀ j u, xs[j]? = some u → w.cell? ((⟨g0, 0, none⟩ : Addr).add j) = some u := hown.cells (g := g0) rfl
      obtain ⟨v2, w2, hr2, h6, h7⟩ := run_append_arg_grows (P := P) w t ty e i z size bytes ht hi hz hsize hby hzs hsz ⟨g0, 0, none⟩ n cap0 xs hown.1 holds a m c news hl hnews (by omega) h63 hbytes
      rw [hr] at hr2
      injection hr2 with e1 e2
      subst e1 e2
      have hge := (h6.lt g rfl).1
      rcases h5 with h5 | h5
      · have e8 : g = g0 := by simpa [Value.ownBlock] using h5
        have := (hown.lt g0 rfl).2
        omega
      · exact ⟨by simpa [Value.ownBlock] using h5, h7⟩

theorem wpList_append_two {P : Program} (w : World) {ops : Array Oper} {rest : List Oper} {o : Oper} {a : Act} {Q : Exit → Act → World → Prop} (hgd : o.guard = none) (s x : Operand) (t : TypeId)
    (ho : o.op = .call { callee := .builtin .append, args := #[s, x], argTypes := #[t, t] })
    (base : Nat) (e : TypeId) (i : TypeInfo) (z : Value) (size bytes : Nat) (ht : P.underlying t = some (.slice e)) (hi : P.info? e = some i) (hz : i.zero = some z)
    (hsize : i.size = size) (hby : i.bytes = bytes) (hzs : z.cells.size = size) (hsz : 0 < size)
    (v : Value) (n : Nat) (xs : List Value) (hs : a.eval s = v) (hown : w.ownsRow base e size v n xs)
    (ad : Addr) (m c : Nat) (news : List Value) (hx : a.eval x = .slice (some ad) m c) (hl : news.length = m * size) (hnews : ∀ j u, news[j]? = some u → w.cell? (ad.add j) = some u) (h1 : ∀ u ∈ news, u.oneCell' = true) (hm : 0 < m)
    (h63 : n + m ≤ maxLen) (hbytes : (n + m) * bytes ≤ 140737488355328) (hbase : base ≤ w.heap.size)
    (h : ∀ g cap w', w'.ownsRow base e size (.slice (some ⟨g, 0, none⟩) (n + m) cap) (n + m) (xs ++ news) → ((v = .slice (some ⟨g, 0, none⟩) n cap ∧ w.grownBy w' (some g)) ∨ (g = w.heap.size ∧ w.grownBy w' none)) → wpList P ops Q rest (a.put o.dst (.slice (some ⟨g, 0, none⟩) (n + m) cap)) w') :
    wpList P ops Q (o :: rest) a w := by
  refine wpList_plain hgd fun K hK => ?_
  obtain ⟨g, cap, w', hr, h2, h3⟩ := run_append_two (P := P) w base t o.type e i z size bytes ht hi hz hsize hby hzs hsz v n xs hown ad m c news hl hnews h1 hm h63 hbytes hbase
  unfold Oper.wp execOp
  simp only [ho, resolve, invoke, builtin, Sem.run_bind, Sem.run_pure, Result.andThen_ok, List.map_toArray, List.map_cons, List.map_nil, hs, hx, hr]
  exact hK _ _ (h g cap w' h2 h3)

theorem vr_takeN : ∀ (l : List (Nat × Nat)) (n : Nat), (vr l).take (n * 2) = vr (l.take n)
  | [], n => by simp [vr]
  | r :: l, 0 => by simp [vr]
  | r :: l, n + 1 => by rw [vr_cons, show (n + 1) * 2 = n * 2 + 1 + 1 by omega, List.take_succ_cons, List.take_succ_cons, vr_takeN l n, List.take_succ_cons, vr_cons]
/-- A beginning of a row is owned as the row is. -/
theorem own_prefix {W : World} {S g c n k : Nat} {l : List (Nat × Nat)} (h : W.ownsRow S 114 2 (.slice (some ⟨g, 0, none⟩) (n + k) c) (n + k) (vr l)) : W.ownsRow S 114 2 (.slice (some ⟨g, 0, none⟩) n c) n (vr (l.take n)) := by
  have hll := rowsLen h
  refine ⟨by rw [vr_length, List.length_take]; omega, ?_⟩
  rcases h.2 with ⟨h1, _⟩ | ⟨g', c', cur, hv, hb, hg, hn, hc, hs, ht⟩
  · cases h1
  · cases hv
    refine .inr ⟨g, c, cur, rfl, hb, hg, by omega, hc, hs, ?_⟩
    rw [← vr_takeN, ← ht, List.take_take]
    congr 1
    omega

/-- Old memory but one list's row is as it was: so is the book. -/
theorem St.grown_at {S B h m cap : Nat} {nu : Nat → Nat} {E : Nat → Value} {N : Nat → Nat} {Lg : Nat → Value} {X : Nat → List (Nat × Nat)} {w0 W W' : World} {row : Option Nat} (st : St S B h m cap nu E N Lg X w0 W) (hg : W.grownBy W' row) (k : Nat)
    (hS : ∀ k, row = some k → S ≤ k) (hB : row ≠ some B) (hh : row ≠ some h) (he : ∀ i, i < m → i ≠ k → (E i).ownBlock = none ∨ (E i).ownBlock ≠ row) (hk : k < m → W'.ownsRow S 114 2 (E k) (N k) (vr (X k))) : St S B h m cap nu E N Lg X w0 W' where
  sS := Nat.le_trans st.sS hg.size
  bB := Nat.lt_of_lt_of_le st.bB hg.size
  bh := Nat.lt_of_lt_of_le st.bh hg.size
  book := hg.cell st.book (fun e => hB e.symm)
  l := fun i hi => hg.cell (st.l i hi) (fun e => hh e.symm)
  g := fun i hi => hg.cell (st.g i hi) (fun e => hh e.symm)
  n := fun i hi => hg.cell (st.n i hi) (fun e => hh e.symm)
  fz := fun j => (World.frozen?_of_block (w := W) (a := ⟨h, j, none⟩) (hg.block h st.bh (fun e => hh e.symm))).trans (st.fz j)
  rows := fun i hi => by
    by_cases hik : i = k
    · rw [hik] at hi ⊢; exact hk hi
    · exact (st.rows i hi).kept hg (he i hi hik)
  below := st.below.grown hg st.sS hS

/-- The longer list is kept. -/
theorem St.lay {S B h m cap : Nat} {nu : Nat → Nat} {E : Nat → Value} {N : Nat → Nat} {Lg : Nat → Value} {X : Nat → List (Nat × Nat)} {w0 W : World} (st : St S B h m cap nu E N Lg X w0 W) (sep : Sep S B h m E) {k : Nat} (hk : k < m) (u : Value) :
    St S B h m cap nu E N (fun j => if j = k then u else Lg j) X w0 (W.setCell ⟨h, k * 3 + 1, none⟩ u) := by
  have hgr : W.grownBy (W.setCell ⟨h, k * 3 + 1, none⟩ u) (some h) := ⟨rfl, rfl, rfl, by simp, fun b _ hb => Below.heap_setCell _ _ _ b (fun e => hb (by rw [e]))⟩
  have hBh : some B ≠ some h := fun e => sep.Bh (by injection e)
  refine ⟨Nat.le_trans st.sS hgr.size, Nat.lt_of_lt_of_le st.bB hgr.size, Nat.lt_of_lt_of_le st.bh hgr.size, hgr.cell st.book hBh, fun j hj => ?_, fun j hj => ?_, fun j hj => ?_, fun j => ?_, fun j hj => (st.rows j hj).kept hgr (.inr (sep.eh j hj)), st.below.setCell (p := ⟨h, k * 3 + 1, none⟩) sep.Sh u⟩
  · rw [World.cell?_setCell_other _ _ _ _ (by intro e; injection e; omega)]
    exact st.l j hj
  · by_cases hjk : j = k
    · subst hjk
      rw [if_pos rfl]
      exact World.cell?_setCell_same _ _ _ (st.g j hj)
    · rw [if_neg hjk, World.cell?_setCell_other _ _ _ _ (by intro e; injection e; omega)]
      exact st.g j hj
  · rw [World.cell?_setCell_other _ _ _ _ (by intro e; injection e; omega)]
    exact st.n j hj
  · rw [World.frozen?_setCell]
    exact st.fz j

/-- Each of the first k lists has its longer one, apart from all else. -/
structure Gr (S B h m k : Nat) (nu : Nat → Nat) (E : Nat → Value) (N : Nat → Nat) (Lg : Nat → Value) (W : World) : Prop where
  rows : ∀ j, j < k → W.ownsRow S 114 2 (Lg j) (N j + 40) (vr (List.replicate (N j + 40) (mk (nu j))))
  nB : ∀ j, j < k → (Lg j).ownBlock ≠ some B
  nh : ∀ j, j < k → (Lg j).ownBlock ≠ some h
  ne : ∀ j i, j < k → i < m → i ≠ j → (Lg j).ownBlock ≠ (E i).ownBlock

theorem Gr.grown {S B h m k : Nat} {nu : Nat → Nat} {E : Nat → Value} {N : Nat → Nat} {Lg : Nat → Value} {W W' : World} {row : Option Nat} (gr : Gr S B h m k nu E N Lg W) (hg : W.grownBy W' row) (hr : ∀ j, j < k → (Lg j).ownBlock ≠ row) : Gr S B h m k nu E N Lg W' :=
  ⟨fun j hj => (gr.rows j hj).kept hg (.inr (hr j hj)), gr.nB, gr.nh, gr.ne⟩

/-- What one more element behind a list leaves. -/
theorem grow_step {S B h m cap k q H : Nat} {nu : Nat → Nat} {E : Nat → Value} {N : Nat → Nat} {Lg : Nat → Value} {w0 W W' : World} {v : Value} {g c : Nat} (hk : k < m) (sep : Sep S B h m E) (st : St S B h m cap nu E N Lg (fun i => List.replicate (N i) (mk (nu i))) w0 W) (gr : Gr S B h m k nu E N Lg W)
    (hv : (v = E k ∧ q = 0) ∨ (∃ g1 c1, v = .slice (some ⟨g1, 0, none⟩) (N k + q) c1 ∧ ((∃ n1, E k = .slice (some ⟨g1, 0, none⟩) n1 c1) ∨ H ≤ g1)))
    (hH : H ≤ W.heap.size) (hHB : B < H) (hHh : h < H) (hHE : ∀ i, i < m → ∀ b, (E i).ownBlock = some b → b < H) (hHL : ∀ j, j < k → ∀ b, (Lg j).ownBlock = some b → b < H)
    (hown' : W'.ownsRow S 114 2 (.slice (some ⟨g, 0, none⟩) (N k + q + 1) c) (N k + q + 1) (vr (List.replicate (N k + q) (mk (nu k))) ++ vr [mk (nu k)]))
    (hat : (v = .slice (some ⟨g, 0, none⟩) (N k + q) c ∧ W.grownBy W' (some g)) ∨ (g = W.heap.size ∧ W.grownBy W' none)) :
    St S B h m cap nu E N Lg (fun i => List.replicate (N i) (mk (nu i))) w0 W' ∧ Gr S B h m k nu E N Lg W' ∧
      ((∃ n1, E k = .slice (some ⟨g, 0, none⟩) n1 c) ∨ H ≤ g) ∧
      W'.ownsRow S 114 2 (.slice (some ⟨g, 0, none⟩) (N k + (q + 1)) c) (N k + (q + 1)) (vr (List.replicate (N k + (q + 1)) (mk (nu k)))) ∧ H ≤ W'.heap.size ∧ (∀ a : Addr, a.block < H → (∀ n1, E k ≠ .slice (some ⟨a.block, 0, none⟩) n1 c) → W'.cell? a = W.cell? a) := by
  have ho : W'.ownsRow S 114 2 (.slice (some ⟨g, 0, none⟩) (N k + (q + 1)) c) (N k + (q + 1)) (vr (List.replicate (N k + (q + 1)) (mk (nu k)))) := by
    have e : vr (List.replicate (N k + (q + 1)) (mk (nu k))) = vr (List.replicate (N k + q) (mk (nu k))) ++ vr [mk (nu k)] := by
      rw [show N k + (q + 1) = (N k + q) + 1 by omega, List.replicate_succ', vr_append]
    rw [e]
    exact hown'
  have hSg : S ≤ g := (ho.lt g rfl).1
  rcases hat with ⟨hvg, hgr⟩ | ⟨hgn, hgr⟩
  · have hplace : (∃ n1, E k = .slice (some ⟨g, 0, none⟩) n1 c) ∨ H ≤ g := by
      rcases hv with ⟨h1, h2⟩ | ⟨g1, c1, h1, h2⟩
      · left
        exact ⟨_, h1.symm.trans hvg⟩
      · rw [hvg] at h1
        injection h1 with e1 e2 e3
        injection e1 with e1
        injection e1 with e1
        subst e1 e3
        exact h2
    have hob : ∀ b, b < H → (∀ n1, E k ≠ .slice (some ⟨b, 0, none⟩) n1 c) → b ≠ g := by
      intro b hb hne e
      subst e
      rcases hplace with ⟨n1, h1⟩ | h1
      · exact hne n1 h1
      · omega
    have hgB : some g ≠ some B := by
      intro e; injection e with e
      refine hob B hHB (fun n1 hE => sep.eB k hk (by rw [hE]; rfl)) e.symm
    have hgh : some g ≠ some h := by
      intro e; injection e with e
      refine hob h hHh (fun n1 hE => sep.eh k hk (by rw [hE]; rfl)) e.symm
    refine ⟨st.grown_at hgr k (fun b e => by injection e with e; omega) hgB hgh (fun i hi hik => ?_) (fun _ => ?_), gr.grown hgr (fun j hj e => ?_), hplace, ho, Nat.le_trans hH hgr.size, fun a ha hne => ?_⟩
    · cases hEi : (E i).ownBlock with
      | none => exact .inl rfl
      | some b =>
        right
        intro e
        injection e with e
        subst e
        refine hob b (hHE i hi b hEi) (fun n1 hE => ?_) rfl
        rcases sep.ee i k hi hk hik with h1 | h1
        · rw [hEi] at h1; cases h1
        · exact h1 (by rw [hEi, hE]; rfl)
    · rcases hplace with ⟨n1, h1⟩ | h1
      · have hn1 : n1 = N k := by
          rcases bookOwn_shape (st.rows k hk) with ⟨h2, _⟩ | ⟨g2, c2, h2, _⟩
          · rw [h1] at h2; cases h2
          · rw [h1] at h2; injection h2
        rw [h1, hn1]
        have := own_prefix ho
        rw [List.take_replicate, Nat.min_eq_left (by omega)] at this
        exact this
      · refine (st.rows k hk).kept hgr ?_
        cases hEk : (E k).ownBlock with
        | none => exact .inl rfl
        | some b => right; intro e; injection e with e; have := hHE k hk b hEk; omega
    · cases hLj : (Lg j).ownBlock with
      | none => rw [hLj] at e; cases e
      | some b =>
        rw [hLj] at e; injection e with e; subst e
        refine hob b (hHL j hj b hLj) (fun n1 hE => ?_) rfl
        exact gr.ne j k hj hk (by omega) (by rw [hLj, hE]; rfl)
    · exact World.cell?_of_block (hgr.block a.block (by omega) (by intro e; injection e with e; exact hob a.block ha hne e))
  · refine ⟨st.grown hgr (fun b e => by cases e) (by simp) (by simp) (fun i _ => ?_), gr.grown hgr (fun j hj e => ?_), .inr (by omega), ho, Nat.le_trans hH hgr.size, fun a ha _ => ?_⟩
    · cases hEi : (E i).ownBlock with
      | none => exact .inl rfl
      | some b => right; simp
    · rcases (gr.rows j hj).2 with ⟨_, h0⟩ | ⟨g2, c2, _, h2, _⟩
      · omega
      · rw [h2] at e; cases e
    · exact World.cell?_of_block (hgr.block a.block (by omega) (by simp))

theorem St.keep {S B h m cap : Nat} {nu : Nat → Nat} {E : Nat → Value} {N : Nat → Nat} {Lg : Nat → Value} {X : Nat → List (Nat × Nat)} {w0 W W' : World} {st : Nat → Prop} (s : St S B h m cap nu E N Lg X w0 W) (k : KeepP st W W') (hS : ∀ b, st b → S ≤ b) (hB : ¬ st B) (hh : ¬ st h) (he : ∀ i, i < m → ∀ b, (E i).ownBlock = some b → ¬ st b) : St S B h m cap nu E N Lg X w0 W' where
  sS := Nat.le_trans s.sS k.size
  bB := Nat.lt_of_lt_of_le s.bB k.size
  bh := Nat.lt_of_lt_of_le s.bh k.size
  book := (World.cell?_of_block (w := W) (a := ⟨B, 6, none⟩) (k.block B s.bB hB)).trans s.book
  l := fun i hi => (World.cell?_of_block (w := W) (a := ⟨h, i * 3, none⟩) (k.block h s.bh hh)).trans (s.l i hi)
  g := fun i hi => (World.cell?_of_block (w := W) (a := ⟨h, i * 3 + 1, none⟩) (k.block h s.bh hh)).trans (s.g i hi)
  n := fun i hi => (World.cell?_of_block (w := W) (a := ⟨h, i * 3 + 2, none⟩) (k.block h s.bh hh)).trans (s.n i hi)
  fz := fun j => (World.frozen?_of_block (w := W) (a := ⟨h, j, none⟩) (k.block h s.bh hh)).trans (s.fz j)
  rows := fun i hi => own_keepP (s.rows i hi) k (he i hi)
  below := below_keepP s.below k s.sS hS
theorem Gr.keep {S B h m k : Nat} {nu : Nat → Nat} {E : Nat → Value} {N : Nat → Nat} {Lg : Nat → Value} {W W' : World} {st : Nat → Prop} (gr : Gr S B h m k nu E N Lg W) (kp : KeepP st W W') (hst : ∀ j, j < k → ∀ b, (Lg j).ownBlock = some b → ¬ st b) : Gr S B h m k nu E N Lg W' :=
  ⟨fun j hj => own_keepP (gr.rows j hj) kp (hst j hj), gr.nB, gr.nh, gr.ne⟩
theorem keep_grown {st : Nat → Prop} {w W W' : World} {row : Option Nat} (h : KeepP st w W) (g : W.grownBy W' row) (hr : ∀ b, row = some b → st b ∨ w.heap.size ≤ b) : KeepP st w W' :=
  ⟨g.os.trans h.os, g.tape.trans h.tape, g.output.trans h.output, Nat.le_trans h.size g.size, fun b hb hn => by
    refine (g.block b (Nat.lt_of_lt_of_le hb h.size) ?_).trans (h.block b hb hn)
    intro e
    rcases hr b e.symm with h1 | h1
    · exact hn h1
    · omega⟩
theorem keep_below {st : Nat → Prop} {w W W' : World} (h : KeepP st w W) (hb : Below W.heap.size W W') : KeepP st w W' :=
  keep_grown (row := none) h ⟨hb.os, hb.tape, hb.output, hb.size, fun k hk _ => hb.block k hk⟩ (fun b e => by cases e)
end Go.Proofs.YtaighdppemnglaaGreatDoor.Bq

/-! Elements of 8 cells in a row of the call's own. Written by mkbkf.py. -/
namespace Go.Proofs.YtaighdppemnglaaGreatDoor.Bf
open Go Go.RowKit

def vo (l : List (Nat → Value)) : List Value := l.flatMap fun r => [r 0, r 1, r 2, r 3, r 4, r 5, r 6, r 7]
def oC (r : Nat → Value) : Array Value := #[r 0, r 1, r 2, r 3, r 4, r 5, r 6, r 7]
def gO (l : List (Nat → Value)) (j : Nat) : Nat → Value := l[j]?.getD (fun _ => undef)
theorem vo_length : ∀ (l : List (Nat → Value)), (vo l).length = 8 * l.length
  | [] => rfl
  | r :: l => by
    have h := vo_length l
    show ([r 0, r 1, r 2, r 3, r 4, r 5, r 6, r 7] ++ vo l).length = _
    rw [List.length_append, h, List.length_cons]
    simp only [List.length_cons, List.length_nil]
    omega
theorem vo_append (a b : List (Nat → Value)) : vo (a ++ b) = vo a ++ vo b := by unfold vo; rw [List.flatMap_append]
theorem vo_at : ∀ (l : List (Nat → Value)) (j : Nat), j < l.length → (vo l)[j * 8 + 0]? = some (gO l j 0) ∧ (vo l)[j * 8 + 1]? = some (gO l j 1) ∧ (vo l)[j * 8 + 2]? = some (gO l j 2) ∧ (vo l)[j * 8 + 3]? = some (gO l j 3) ∧ (vo l)[j * 8 + 4]? = some (gO l j 4) ∧ (vo l)[j * 8 + 5]? = some (gO l j 5) ∧ (vo l)[j * 8 + 6]? = some (gO l j 6) ∧ (vo l)[j * 8 + 7]? = some (gO l j 7)
  | [], _, h => absurd h (Nat.not_lt_zero _)
  | r :: l, 0, _ => ⟨rfl, rfl, rfl, rfl, rfl, rfl, rfl, rfl⟩
  | r :: l, j + 1, h => by
    have h2 := vo_at l j (by simpa using h)
    have e : gO (r :: l) (j + 1) = gO l j := by simp [gO]
    have s : ∀ q, (vo (r :: l))[(j + 1) * 8 + q]? = (vo l)[j * 8 + q]? := fun q => by
      rw [show (j + 1) * 8 + q = (j * 8 + q) + 8 by omega]
      rfl
    rw [e, s 0, s 1, s 2, s 3, s 4, s 5, s 6, s 7]
    exact h2
theorem vo_set : ∀ (l : List (Nat → Value)) (j : Nat) (r : Nat → Value), j < l.length → vo (l.set j r) = ((((((((vo l).set (j * 8 + 0) (r 0)).set (j * 8 + 1) (r 1)).set (j * 8 + 2) (r 2)).set (j * 8 + 3) (r 3)).set (j * 8 + 4) (r 4)).set (j * 8 + 5) (r 5)).set (j * 8 + 6) (r 6)).set (j * 8 + 7) (r 7)
  | [], _, _, h => absurd h (Nat.not_lt_zero _)
  | q :: l, 0, r, _ => rfl
  | q :: l, j + 1, r, h => by
    have ih := vo_set l j r (by simpa using h)
    have e : vo ((q :: l).set (j + 1) r) = [q 0, q 1, q 2, q 3, q 4, q 5, q 6, q 7] ++ vo (l.set j r) := rfl
    rw [e, ih, show (j + 1) * 8 + 0 = (j * 8 + 0) + 8 by omega, show (j + 1) * 8 + 1 = (j * 8 + 1) + 8 by omega, show (j + 1) * 8 + 2 = (j * 8 + 2) + 8 by omega, show (j + 1) * 8 + 3 = (j * 8 + 3) + 8 by omega, show (j + 1) * 8 + 4 = (j * 8 + 4) + 8 by omega, show (j + 1) * 8 + 5 = (j * 8 + 5) + 8 by omega, show (j + 1) * 8 + 6 = (j * 8 + 6) + 8 by omega, show (j + 1) * 8 + 7 = (j * 8 + 7) + 8 by omega]
    rfl
theorem vo_takeN : ∀ (l : List (Nat → Value)) (n : Nat), (vo l).take (n * 8) = vo (l.take n)
  | [], n => by simp [vo]
  | r :: l, 0 => by simp [vo]
  | r :: l, n + 1 => by
    have ih := vo_takeN l n
    rw [show (n + 1) * 8 = n * 8 + 8 by omega, List.take_succ_cons]
    show [r 0, r 1, r 2, r 3, r 4, r 5, r 6, r 7] ++ (vo l).take (n * 8) = [r 0, r 1, r 2, r 3, r 4, r 5, r 6, r 7] ++ vo (l.take n)
    rw [ih]
theorem own_oct {w : World} {base n g cap j : Nat} {l : List (Nat → Value)} (h : w.ownsRow base 37 8 (.slice (some ⟨g, 0, none⟩) n cap) n (vo l)) (r : Nat → Value) (hj : j < n) (hl : l.length = n) : (w.setCells g (j * 8) (oC r).toList).ownsRow base 37 8 (.slice (some ⟨g, 0, none⟩) n cap) n (vo (l.set j r)) := by
  rw [vo_set l j r (by omega)]
  exact own_cellS (own_cellS (own_cellS (own_cellS (own_cellS (own_cellS (own_cellS (own_cellS h _) _) _) _) _) _) _) _
theorem own_range8 {w : World} {base n g cap : Nat} {l : List (Nat → Value)} (h : w.ownsRow base 37 8 (.slice (some ⟨g, 0, none⟩) n cap) n (vo l)) (hl : l.length = n) (j : Nat) (hj : j < n) : w.rangeAt g (0 + j * 8) (oC (gO l j)).toList := by
  have hc := h.cells (g := g) rfl
  obtain ⟨a0, a1, a2, a3, a4, a5, a6, a7⟩ := vo_at l j (by omega)
  intro q v hv
  match q, hv with
  | 0, hv =>
    rw [← Option.some.inj hv]
    have := hc _ _ a0
    rw [add_at, Nat.zero_add] at this
    rw [Nat.zero_add]
    exact this
  | 1, hv =>
    rw [← Option.some.inj hv]
    have := hc _ _ a1
    rw [add_at, Nat.zero_add] at this
    rw [Nat.zero_add]
    exact this
  | 2, hv =>
    rw [← Option.some.inj hv]
    have := hc _ _ a2
    rw [add_at, Nat.zero_add] at this
    rw [Nat.zero_add]
    exact this
  | 3, hv =>
    rw [← Option.some.inj hv]
    have := hc _ _ a3
    rw [add_at, Nat.zero_add] at this
    rw [Nat.zero_add]
    exact this
  | 4, hv =>
    rw [← Option.some.inj hv]
    have := hc _ _ a4
    rw [add_at, Nat.zero_add] at this
    rw [Nat.zero_add]
    exact this
  | 5, hv =>
    rw [← Option.some.inj hv]
    have := hc _ _ a5
    rw [add_at, Nat.zero_add] at this
    rw [Nat.zero_add]
    exact this
  | 6, hv =>
    rw [← Option.some.inj hv]
    have := hc _ _ a6
    rw [add_at, Nat.zero_add] at this
    rw [Nat.zero_add]
    exact this
  | 7, hv =>
    rw [← Option.some.inj hv]
    have := hc _ _ a7
    rw [add_at, Nat.zero_add] at this
    rw [Nat.zero_add]
    exact this
  | _ + 8, hv => simp [oC] at hv
theorem own_there8 {w : World} {base n g cap : Nat} {l : List (Nat → Value)} (h : w.ownsRow base 37 8 (.slice (some ⟨g, 0, none⟩) n cap) n (vo l)) (hl : l.length = n) (j : Nat) (hj : j < n) : w.there g (0 + j * 8) 8 := by
  have hr := own_range8 h hl j hj
  rcases h.2 with ⟨h3, _⟩ | ⟨g', c', cur, h3, h4, h5, h6, h7, h8, h9⟩
  · cases h3
  · injection h3 with e1 e2 e3
    injection e1 with e1
    injection e1 with e1
    subst e1 e3
    intro q hq
    refine ⟨?_, (show Row w g 37 cur from h5).frozen _⟩
    match q, hq with
    | 0, _ => rw [hr 0 _ rfl]; rfl
    | 1, _ => rw [hr 1 _ rfl]; rfl
    | 2, _ => rw [hr 2 _ rfl]; rfl
    | 3, _ => rw [hr 3 _ rfl]; rfl
    | 4, _ => rw [hr 4 _ rfl]; rfl
    | 5, _ => rw [hr 5 _ rfl]; rfl
    | 6, _ => rw [hr 6 _ rfl]; rfl
    | 7, _ => rw [hr 7 _ rfl]; rfl
    | _ + 8, hq => omega
theorem cells_grown : ∀ (cs : List Value) (W : World) (g o : Nat), W.grownBy (W.setCells g o cs) (some g)
  | [], W, g, o => ⟨rfl, rfl, rfl, Nat.le_refl _, fun _ _ _ => rfl⟩
  | c :: cs, W, g, o => by
    have h := cells_grown cs (W.setCell ⟨g, o, none⟩ c) g (o + 1)
    have h0 : W.grownBy (W.setCell ⟨g, o, none⟩ c) (some g) := ⟨rfl, rfl, rfl, by simp, fun b _ hb => Below.heap_setCell _ _ _ b (fun e => hb (by rw [e]))⟩
    exact h0.trans h
end Go.Proofs.YtaighdppemnglaaGreatDoor.Bf

/-! What the statements' helper TwinFrames does to memory. -/
namespace Go.Proofs.YtaighdppemnglaaGreatDoor
open Go Go.RowKit

/-- A frame's cells, by their numbers. -/
def cO (f : FrM) : Nat → Value := fun k => f.cells.toList.getD k undef
theorem cO_cells (f : FrM) : Bf.oC (cO f) = f.cells := rfl
theorem vo_one (f : FrM) : Bf.vo [cO f] = f.cells.toList := rfl
/-- Copies of frames, by the blocks of their data and ranges. -/
def twl (l : List FrM) (G : List (Nat × Nat)) : List FrM := (List.range G.length).map fun j => (gf l j).twin (G[j]?.getD (0, 0)).1 (G[j]?.getD (0, 0)).2
theorem twl_length (l : List FrM) (G : List (Nat × Nat)) : (twl l G).length = G.length := by simp [twl]
theorem twl_get (l : List FrM) (G : List (Nat × Nat)) (j : Nat) (h : j < G.length) : gf (twl l G) j = (gf l j).twin (G[j]?.getD (0, 0)).1 (G[j]?.getD (0, 0)).2 := by
  unfold gf twl
  rw [List.getElem?_map, List.getElem?_range h]
  rfl
theorem twl_snoc (l : List FrM) (G : List (Nat × Nat)) (p : Nat × Nat) : twl l (G ++ [p]) = twl l G ++ [(gf l G.length).twin p.1 p.2] := by
  unfold twl
  rw [List.length_append, List.length_singleton, List.range_succ, List.map_append]
  congr 1
  · apply List.map_congr_left
    intro j hj
    rw [List.getElem?_append_left (by simpa using hj)]
  · simp
/-- The mark behind a copy. -/
def markF : FrM := ⟨0, 0, 0, 0, 77, false, ⟨none, 0, 0, 0, 0, []⟩, ⟨none, 0, 0, 0, 0, []⟩⟩
/-- What is known of the copies' data and ranges: rows of their own, one made behind the other. -/
structure TwAll (B : Nat) (w : World) (l : List FrM) (G : List (Nat × Nat)) : Prop where
  dat : ∀ j, j < G.length → TwD B w (G[j]?.getD (0, 0)).1 (gf l j).data
  rng : ∀ j, j < G.length → TwG B w (G[j]?.getD (0, 0)).2 (gf l j).ranges
  ord : ∀ i j, i < j → j < G.length → (G[i]?.getD (0, 0)).1 < (G[j]?.getD (0, 0)).1 ∧ (G[i]?.getD (0, 0)).1 < (G[j]?.getD (0, 0)).2 ∧ (G[i]?.getD (0, 0)).2 < (G[j]?.getD (0, 0)).1 ∧ (G[i]?.getD (0, 0)).2 < (G[j]?.getD (0, 0)).2
theorem TwAll.below {B : Nat} {w w' : World} {l : List FrM} {G : List (Nat × Nat)} (h : TwAll B w l G) (hb : Below w.heap.size w w') : TwAll B w' l G :=
  ⟨fun j hj => (h.dat j hj).below hb, fun j hj => (h.rng j hj).below hb, h.ord⟩
theorem TwAll.nil (B : Nat) (w : World) (l : List FrM) : TwAll B w l [] := ⟨fun _ h => absurd h (Nat.not_lt_zero _), fun _ h => absurd h (Nat.not_lt_zero _), fun _ _ _ h => absurd h (Nat.not_lt_zero _)⟩
theorem TwAll.same {B : Nat} {w w' : World} {l : List FrM} {G : List (Nat × Nat)} (h : TwAll B w l G) (hs : ∀ b, B ≤ b → b < w.heap.size → w'.heap[b]? = w.heap[b]?) (hz : w.heap.size ≤ w'.heap.size) : TwAll B w' l G := by
  refine ⟨fun j hj => ?_, fun j hj => ?_, h.ord⟩
  · have k := h.dat j hj
    have e := hs _ k.ge k.lt
    exact ⟨own_keepK k.own (fun z q => by cases q; exact e), ⟨Nat.lt_of_lt_of_le k.lt hz, fun i hi => (World.cell?_of_block (a := ⟨_, i, none⟩) e).trans (k.twin.cell i hi), (World.cell?_of_block (a := ⟨_, _, none⟩) e).trans k.twin.mark⟩⟩
  · have k := h.rng j hj
    have e := hs _ k.ge k.lt
    exact ⟨own_keepK k.own (fun z q => by cases q; exact e), ⟨Nat.lt_of_lt_of_le k.lt hz, fun i hi => ⟨(World.cell?_of_block (a := ⟨_, i * 2, none⟩) e).trans (k.twin.cell i hi).1, (World.cell?_of_block (a := ⟨_, i * 2 + 1, none⟩) e).trans (k.twin.cell i hi).2⟩, ⟨(World.cell?_of_block (a := ⟨_, _, none⟩) e).trans k.twin.mark.1, (World.cell?_of_block (a := ⟨_, _, none⟩) e).trans k.twin.mark.2⟩⟩⟩
/-- What stands while the row of copies grows in its own block. -/
theorem TwAll.grow {S : Nat} {w w' : World} {l : List FrM} {G : List (Nat × Nat)} {o : Obj} (h : TwAll (S + 1) w l G) (hg : (w.alloc o).grownBy w' (some S)) : TwAll (S + 1) w' l G := by
  refine h.same (fun b hb hl => ?_) (Nat.le_trans (by simp) hg.size)
  have hl2 : b < (w.alloc o).heap.size := by simp; omega
  rw [hg.block b hl2 (fun e => by injection e with e; omega)]
  exact ((Below.refl w.heap.size w).alloc (Nat.le_refl _) o).block b hl
theorem get_snoc {α : Type} (G : List α) (p d : α) (j : Nat) : (G ++ [p])[j]?.getD d = if j < G.length then G[j]?.getD d else if j = G.length then p else d := by
  by_cases h : j < G.length
  · rw [if_pos h, List.getElem?_append_left h]
  · rw [if_neg h, List.getElem?_append_right (by omega)]
    by_cases e : j = G.length
    · rw [if_pos e, e]; simp
    · rw [if_neg e, List.getElem?_eq_none (by simp; omega)]; rfl
theorem TwAll.snoc {B : Nat} {w w' : World} {l : List FrM} {G : List (Nat × Nat)} (h : TwAll B w l G) (hb : Below w.heap.size w w') {g1 g2 : Nat} (hB : B ≤ w.heap.size) (h1 : TwD w.heap.size w' g1 (gf l G.length).data) (h2 : TwG w.heap.size w' g2 (gf l G.length).ranges) : TwAll B w' l (G ++ [(g1, g2)]) := by
  have e1 := h1.ge
  have e2 := h2.ge
  refine ⟨fun j hj => ?_, fun j hj => ?_, fun i j hij hj => ?_⟩
  · rw [List.length_append, List.length_singleton] at hj
    rw [get_snoc]
    by_cases c : j < G.length
    · rw [if_pos c]; exact (h.dat j c).below hb
    · obtain rfl : j = G.length := by omega
      rw [if_neg c, if_pos rfl]; exact h1.low hB
  · rw [List.length_append, List.length_singleton] at hj
    rw [get_snoc]
    by_cases c : j < G.length
    · rw [if_pos c]; exact (h.rng j c).below hb
    · obtain rfl : j = G.length := by omega
      rw [if_neg c, if_pos rfl]; exact h2.low hB
  · rw [List.length_append, List.length_singleton] at hj
    rw [get_snoc, get_snoc, if_pos (show i < G.length by omega)]
    by_cases c : j < G.length
    · rw [if_pos c]; exact h.ord i j hij c
    · rw [if_neg c, if_pos (show j = G.length by omega)]
      have l1 := (h.dat i (by omega)).lt
      have l2 := (h.rng i (by omega)).lt
      show _ < g1 ∧ _ < g2 ∧ _ < g1 ∧ _ < g2
      omega
theorem frame_infoT : ∃ i0, Tryz.prog.info? 37 = some i0 ∧ i0.zero = some (.agg #[.int .u8 0, .int .u64 0, .int .u64 0, .int .u64 0, .int .u64 0, .bool false, .slice none 0 0, .slice none 0 0]) ∧ i0.size = 8 ∧ i0.bytes = 96 := by
  have h : (Tryz.prog.info? 37).map (fun i => (i.zero, i.size, i.bytes)) = some (some (.agg #[.int .u8 0, .int .u64 0, .int .u64 0, .int .u64 0, .int .u64 0, .bool false, .slice none 0 0, .slice none 0 0]), 8, 96) := by kernel_rfl
  cases hq : Tryz.prog.info? 37 with
  | none => rw [hq] at h; cases h
  | some i =>
    rw [hq] at h
    simp only [Option.map_some, Option.some.injEq, Prod.mk.injEq] at h
    exact ⟨i, rfl, h.1, h.2.1, h.2.2⟩
theorem row_news {w : World} {g : Nat} {t : TypeId} {cs : Array Value} (h : Row w g t cs) : ∀ j u, cs.toList[j]? = some u → w.cell? ((⟨g, 0, none⟩ : Addr).add j) = some u := by
  intro j u hj
  rw [add_at, Nat.zero_add, h.cell j]
  rw [Array.getElem?_toList] at hj
  exact hj
theorem cells_one (f : FrM) : ∀ u ∈ f.cells.toList, u.oneCell' = true := by
  intro u hu
  simp [FrM.cells] at hu
  rcases hu with rfl | rfl | rfl | rfl | rfl | rfl | rfl | rfl <;> rfl

set_option maxRecDepth 20000 in
set_option maxHeartbeats 1000000 in
theorem twin_fs (s : FS) (w : World) (hs : s.Ok w) (hl : s.len ≤ 1048576) (hd : ∀ j, j < s.len → (gf s.l j).data.len ≤ 1048576 ∧ (gf s.l j).ranges.len ≤ 1048576) :
    Calls Tryz.prog 7 #[.slice s.a s.len s.cap] w fun e w' => ∃ G : List (Nat × Nat), G.length = s.len ∧ e = .returned (.slice (some ⟨w.heap.size, 0, none⟩) s.len (s.len + 1)) ∧
      w'.ownsRow w.heap.size 37 8 (.slice (some ⟨w.heap.size, 0, none⟩) (s.len + 1) (s.len + 1)) (s.len + 1) (Bf.vo ((twl s.l G ++ [markF]).map cO)) ∧ TwAll (w.heap.size + 1) w' s.l G ∧ Below w.heap.size w w' := by
  obtain ⟨i0, hi, hz0, hz1, hz2⟩ := frame_infoT
  obtain ⟨a, len, cap, g, off, l⟩ := s
  have HS := veil hs
  have HD := veil hd
  have HZ : Hid (l.length = len) := hs.hb
  simp only at hl
  have hb1 : i0.bytes * (len + 1) ≤ 281474976710656 := by rw [hz2]; omega
  have hb2 : len + 1 ≤ maxLen := by unfold maxLen; omega
  clear hs hd
  go_enter Tryz.func7, Tryz.ntmps7
  go_wp2_with (at_make; refine wpList_make_own _ rfl _ _ 22 rfl w.heap.size 37 i0 _ 8 Tryz.underlying22 hi hz0 hz1 .i64 .i64 _ (len + 1) rfl rfl (by omega) hb1 hb2 (Nat.le_refl _) ?_; intro w1 hown1 hgrow1)
  clear hb1 hb2
  have hbel1 : Below w.heap.size w w1 := (Below.refl _ _).grown hgrow1 (Nat.le_refl _) (fun k e => by cases e)
  have hs1 : w.heap.size + 1 ≤ w1.heap.size := (hown1.lt w.heap.size rfl).2
  have O1 := veil hown1
  have B1 := veil hbel1
  clear hgrow1 hown1 hbel1
  go_loopw [3, 4] (fun t i wr => ∃ (k : Nat) (G : List (Nat × Nat)), k ≤ len ∧ G.length = k ∧ i = .int .i64 k ∧ t = .slice (some ⟨w.heap.size, 0, none⟩) k (len + 1) ∧
      wr.ownsRow w.heap.size 37 8 (.slice (some ⟨w.heap.size, 0, none⟩) k (len + 1)) k (Bf.vo ((twl l G).map cO)) ∧ TwAll (w.heap.size + 1) wr l G ∧ Below w.heap.size w wr ∧ w.heap.size + 1 ≤ wr.heap.size)
    (fun _ i _ => len - (intOf i).toNat)
  case atStart => exact ⟨0, [], Nat.zero_le _, rfl, rfl, rfl, O1.out, TwAll.nil _ _ _, B1.out, hs1⟩
  case round =>
    obtain ⟨k, G, hk, hG, rfl, rfl, hown, htw, hbel, hsz⟩ := hrel
    have HO := veil hown
    have HB := veil hbel
    have HT := veil htw
    have HG := veil hG
    clear O1 B1 hown htw hG
    by_cases hlt : k < len
    · have e1 : a = some ⟨g, off, none⟩ := HS.out.at_ (show 0 < len by omega)
      subst e1
      have hsb := HS.out.below hbel
      have cS := hsb.cell k hlt
      have HF := veil (hsb.each k hlt)
      have HDK := veil (HD.out k hlt)
      obtain ⟨K, ek⟩ : ∃ K, K = gf l k := ⟨_, rfl⟩
      simp only at cS HF HDK
      rw [← ek] at cS HF HDK
      have EK := veil ek
      obtain ⟨kk, st, of, li, co, fi, da, ra⟩ := K
      have a0 := cS 0 _ rfl
      have a1 := cS 1 _ rfl
      have a2 := cS 2 _ rfl
      have a3 := cS 3 _ rfl
      have a4 := cS 4 _ rfl
      have a5 := cS 5 _ rfl
      have a6 := cS 6 _ rfl
      have a7 := cS 7 _ rfl
      simp only [Nat.add_zero] at a0 a1 a2 a3 a4 a5 a6 a7
      clear hsb cS ek hbel
      go_wp2_with fail
      clear a0 a1 a2 a3 a4 a5 a6 a7
      refine (twin_fr ⟨kk, st, of, li, co, fi, da, ra⟩ wr HF.out HDK.out.1 HDK.out.2).mono ?_
      rintro e2 w2 ⟨g1, g2, rfl, h1, h2, hb2⟩
      have hs2 := hb2.size
      have H2 := veil (show TwAll (w.heap.size + 1) w2 l (G ++ [(g1, g2)]) from HT.out.snoc hb2 hsz (by rw [HG.out, ← EK.out]; exact h1) (by rw [HG.out, ← EK.out]; exact h2))
      have HB2 := veil (HB.out.trans (hb2.mono (by omega)))
      have HO2 := veil (own_belowK HO.out hb2)
      have hF2 : FrM.twin ⟨kk, st, of, li, co, fi, da, ra⟩ g1 g2 = (gf l k).twin g1 g2 := by rw [← EK.out]
      have HF2 := veil hF2
      have hle : k + 1 ≤ len + 1 := by omega
      clear h1 h2 hb2 hF2 HT HO HB
      simp only [FrM.twin, FrM.cells, twinS, twinRS]
      go_wp2_with (at_builtin; refine wpList_append_fits _ rfl _ _ 22 rfl w.heap.size 37 i0 8 Tryz.underlying22 hi hz1 w.heap.size k (len + 1) _ rfl (HO2.out.alloc _) ⟨w2.heap.size, 0, none⟩ 1 1 (FrM.twin ⟨kk, st, of, li, co, fi, da, ra⟩ g1 g2).cells.toList rfl rfl (row_news (Row.new w2 37 (FrM.twin ⟨kk, st, of, li, co, fi, da, ra⟩ g1 g2).cells)) (cells_one _) hle ?_; intro w3 hown3 hgrow3)
      have B3 := veil (show Below w.heap.size w w3 from (HB2.out.alloc HB2.out.size _).grown hgrow3 (by simp; omega) (fun k e => by cases e; exact Nat.le_refl _))
      have O3 := veil (show w3.ownsRow w.heap.size 37 8 (.slice (some ⟨w.heap.size, 0, none⟩) (k + 1) (len + 1)) (k + 1) (Bf.vo ((twl l (G ++ [(g1, g2)])).map cO)) by
        rw [twl_snoc, List.map_append, Bf.vo_append, HG.out, ← HF2.out]
        exact hown3)
      have S3 := veil (show w.heap.size + 1 ≤ w3.heap.size from Nat.le_trans (show w.heap.size + 1 ≤ w2.heap.size by omega) (Nat.le_trans (by simp) hgrow3.size))
      have T3 := veil (show TwAll (w.heap.size + 1) w3 l (G ++ [(g1, g2)]) from H2.out.grow hgrow3)
      clear hgrow3 hown3
      go_wp2
      go_roundw
      case rel => exact ⟨k + 1, G ++ [(g1, g2)], by omega, by rw [List.length_append, HG.out]; rfl, by go_num, rfl, O3.out, T3.out, B3.out, S3.out⟩
      case measure => simp [intOf]; omega
    · obtain rfl : k = len := by omega
      clear hbel
      go_wp2_with (at_builtin; refine wpList_append_fits _ rfl _ _ 22 rfl w.heap.size 37 i0 8 Tryz.underlying22 hi hz1 w.heap.size k (k + 1) _ rfl (HO.out.alloc _) ⟨wr.heap.size, 0, none⟩ 1 1 markF.cells.toList rfl rfl (row_news (Row.new wr 37 markF.cells)) (cells_one _) (Nat.le_refl _) ?_; intro w2 hown2 hgrow2)
      have B2 := veil (show Below w.heap.size w w2 from (HB.out.alloc HB.out.size _).grown hgrow2 (by simp; omega) (fun k e => by cases e; exact Nat.le_refl _))
      have O2 := veil (show w2.ownsRow w.heap.size 37 8 (.slice (some ⟨w.heap.size, 0, none⟩) (k + 1) (k + 1)) (k + 1) (Bf.vo ((twl l G ++ [markF]).map cO)) by
        rw [List.map_append, Bf.vo_append]
        exact hown2)
      have T2 := veil (show TwAll (w.heap.size + 1) w2 l G from HT.out.grow hgrow2)
      clear hgrow2 hown2
      go_wp2
      go_ret
      exact ⟨G, HG.out, rfl, O2.out, T2.out, B2.out⟩
end Go.Proofs.YtaighdppemnglaaGreatDoor
