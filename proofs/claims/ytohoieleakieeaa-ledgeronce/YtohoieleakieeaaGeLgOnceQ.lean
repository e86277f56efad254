/-
  What holds while it is looked through what was told. No walk in sight.
-/
import Derived.Test.YtohoieleakieeaaGeLgOnceP
namespace Go.Proofs.Ytohoieleakieeaa
open Go Go.RowKit

structure OnceK (w : World) (g c : Nat) (As : List AM) (T0 A B : List Nat) (s : Lg.Led) (v sv u1 u2 : Value) (k : Nat) (tv : Value) (W : World) : Prop where
  lok : LOk c W g v s
  bel : Below w.heap.size w W
  gw : w.heap.size ≤ g
  vw : ∀ q, v.ownBlock = some q → w.heap.size ≤ q
  sent : W.ownsRow w.heap.size 30 7 sv As.length (va As)
  told : W.ownsRow w.heap.size 27 1 tv (T0 ++ (A ++ B).take k).length (vnum (T0 ++ (A ++ B).take k))
  r1 : W.ownsRow w.heap.size 27 1 u1 A.length (vnum A)
  r2 : W.ownsRow w.heap.size 27 1 u2 B.length (vnum B)
  tu : ∀ q, tv.ownBlock = some q → u1.ownBlock ≠ some q ∧ u2.ownBlock ≠ some q
  book : Lg.Book s (As.map pkA) (T0 ++ (A ++ B))
  sz : ∀ a ∈ As, 1 ≤ a.size ∧ a.size ≤ 1200
  len : As.length ≤ c
/-- Between two acts. -/
structure OnceI (w : World) (g c : Nat) (As : List AM) (T0 : List Nat) (s : Lg.Led) (v sv tv : Value) (W : World) : Prop where
  lok : LOk c W g v s
  bel : Below w.heap.size w W
  gw : w.heap.size ≤ g
  vw : ∀ q, v.ownBlock = some q → w.heap.size ≤ q
  sent : W.ownsRow w.heap.size 30 7 sv As.length (va As)
  told : W.ownsRow w.heap.size 27 1 tv T0.length (vnum T0)
  book : Lg.Book s (As.map pkA) T0
  sz : ∀ a ∈ As, 1 ≤ a.size ∧ a.size ≤ 1200
  len : As.length ≤ c
section
variable {w W W' : World} {g c k : Nat} {As : List AM} {T0 A B : List Nat} {s s' : Lg.Led} {v sv u1 u2 tv v' : Value}
theorem told_le {s : Lg.Led} {As : List AM} {T : List Nat} (h : Lg.Book s (As.map pkA) T) : T.length ≤ As.length := by
  have := nodup_le T ((As.map pkA).map (·.num)) h.once h.known
  rw [List.length_map, List.length_map] at this
  exact this
theorem OnceI.below (h : OnceI w g c As T0 s v sv tv W) (hb : Below W.heap.size W W') : OnceI w g c As T0 s v sv tv W' :=
  ⟨h.lok.below hb, h.bel.trans (hb.mono h.bel.size), h.gw, h.vw, own_below2 h.sent hb, own_below2 h.told hb, h.book, h.sz, h.len⟩
theorem LOk.more (h : LOk c W g v s) {d : Nat} (hd : c ≤ d) : LOk d W g v s := ⟨h.ld, h.fit.more hd, h.sane⟩
/-- The ledger goes on; what it tells is new. -/
theorem OnceI.tell (h : OnceI w g c As T0 s v sv tv W) (hL : LOk c W' g v' s') (hk : KeepL g v W W') (hv : v'.ownBlock = v.ownBlock) (h1 : W'.ownsRow W.heap.size 27 1 u1 A.length (vnum A)) (h2 : W'.ownsRow W.heap.size 27 1 u2 B.length (vnum B)) (hbk : Lg.Book s' (As.map pkA) (T0 ++ (A ++ B))) : OnceK w g (c + 1) As T0 A B s' v' sv u1 u2 0 tv W' := by
  have hb : Below w.heap.size w W' := h.bel.trans (hk.below (fun q hq => hq.elim (fun e => by rw [e]; exact h.gw) (fun e => h.vw q e)) h.bel.size)
  have ht := own_keepL h.told h.lok.ld hk (by decide) (by decide)
  refine ⟨hL.more (by omega), hb, h.gw, fun q hq => h.vw q (by rw [← hv]; exact hq), own_keepL h.sent h.lok.ld hk (by decide) (by decide), by rw [List.take_zero, List.append_nil]; exact ht, own_low2 h1 h.bel.size, own_low2 h2 h.bel.size, fun q hq => ?_, hbk, h.sz, Nat.le_trans h.len (by omega)⟩
  have hlt := (h.told.lt q hq).2
  exact ⟨fun e => by have := (h1.lt q e).1; omega, fun e => by have := (h2.lt q e).1; omega⟩
/-- Nothing is told. -/
theorem OnceI.quiet (h : OnceI w g c As T0 s v sv tv W) : OnceK w g c As T0 [] [] s v sv (.slice none 0 0) (.slice none 0 0) 0 tv W :=
  ⟨h.lok, h.bel, h.gw, h.vw, h.sent, by simpa using h.told, World.ownsRow_nil _ _ _ _, World.ownsRow_nil _ _ _ _, fun q _ => ⟨by simp [Value.ownBlock], by simp [Value.ownBlock]⟩, by simpa using h.book, h.sz, h.len⟩
theorem OnceK.next (h : OnceK w g c As T0 A B s v sv u1 u2 k tv W) {x : Nat} (hx : (A ++ B)[k]? = some x) (hc : c ≤ 1000) :
    (T0 ++ (A ++ B).take k).contains x = false ∧ (T0 ++ (A ++ B).take k).length ≤ 100000 ∧ ∃ ta tc W2, (Builtin.append_ #[26, 26] 26 #[tv, .slice (some ⟨W.heap.size, 0, none⟩) 1 1]).run Try.prog (W.alloc (.cells #[.int .u64 (x : Int)] 27)) = .ok (.slice ta (T0 ++ (A ++ B).take (k + 1)).length tc) W2 ∧ OnceK w g c As T0 A B s v sv u1 u2 (k + 1) (.slice ta (T0 ++ (A ++ B).take (k + 1)).length tc) W2 := by
  have hkl := (List.getElem?_eq_some_iff.1 hx).1
  have htk : (A ++ B).take (k + 1) = (A ++ B).take k ++ [x] := by rw [List.take_add_one, hx]; rfl
  have hle := told_le h.book
  have hl5 : (T0 ++ (A ++ B).take k).length ≤ 100000 := by
    rw [List.length_append, List.length_take]
    rw [List.length_append] at hle
    have := h.len
    omega
  have hno : (T0 ++ (A ++ B).take k).contains x = false := by
    apply Bool.eq_false_iff.2
    intro q
    have q := List.contains_iff_mem.1 q
    have hnd := h.book.once
    rw [← List.take_append_drop k (A ++ B), ← List.append_assoc, List.nodup_append] at hnd
    refine hnd.2.2 x q x ?_ rfl
    refine List.mem_iff_getElem?.2 ⟨0, ?_⟩
    rw [List.getElem?_drop, Nat.add_zero]
    exact hx
  refine ⟨hno, hl5, ?_⟩
  have hb1 : Below W.heap.size W (W.alloc (.cells #[.int .u64 (x : Int)] 27)) := (Below.refl _ W).alloc (Nat.le_refl _) _
  obtain ⟨t', W2, a1, a2, a3, a4⟩ := nu_append (W.alloc (.cells #[.int .u64 (x : Int)] 27)) 26 w.heap.size tv _ x W.heap.size (own_below2 h.told hb1) ((Row.new W 27 #[.int .u64 (x : Int)]).cell 0) hl5 (by have := h.bel.size; simp; omega)
  rw [List.append_assoc, ← htk] at a2
  obtain ⟨ta, tc, hts⟩ := own_shape15 a2
  subst hts
  have htl : ∀ q, tv.ownBlock = some q → q < W.heap.size := fun q hq => (h.told.lt q hq).2
  have keep : ∀ q, q < W.heap.size → tv.ownBlock ≠ some q → W2.heap[q]? = W.heap[q]? := fun q hq hn => (a3.block q (by simp; omega) (fun e => hn e.symm)).trans (hb1.block q hq)
  have hsz : W.heap.size ≤ W2.heap.size := by have := a3.size; simp at this; omega
  have rowK : ∀ {e : TypeId} {z n : Nat} {u : Value} {xs : List Value}, W.ownsRow w.heap.size e z u n xs → (∀ q, u.ownBlock = some q → tv.ownBlock ≠ some q) → W2.ownsRow w.heap.size e z u n xs := by
    intro e z n u xs hr hn
    obtain ⟨r1, r2⟩ := hr
    refine ⟨r1, ?_⟩
    rcases r2 with r2 | ⟨g', c', cur, r3, r4, r5, r6⟩
    · exact .inl r2
    · exact .inr ⟨g', c', cur, r3, r4, (keep g' (Array.getElem?_eq_some_iff.1 r5).1 (hn g' (by rw [r3]; rfl))).trans r5, r6⟩
  have hty : ∀ q, tv.ownBlock = some q → ∃ cur, W.heap[q]? = some (.cells cur 27 (0, 0)) := fun q hq => own_type h.told hq
  have hng : tv.ownBlock ≠ some g := fun q => by
    obtain ⟨cur, hc1⟩ := hty g q
    have := hc1.symm.trans (show W.heap[g]? = some _ from h.lok.ld.row)
    injection this with this
    injection this with _ this
    exact absurd this (by decide)
  have hnv : ∀ q, v.ownBlock = some q → tv.ownBlock ≠ some q := fun q hq hq2 => by
    obtain ⟨cur, hc1⟩ := hty q hq2
    rcases h.lok.ld.way.2 with ⟨rfl, _⟩ | ⟨b, o, cap, cur2, rfl, hg, _⟩
    · cases hq
    · injection hq with hq
      have hq' : b = q := hq
      subst hq'
      have := hc1.symm.trans hg
      injection this with this
      injection this with _ this
      exact absurd this (by decide)
  have hns : ∀ q, sv.ownBlock = some q → tv.ownBlock ≠ some q := fun q hq hq2 => by
    obtain ⟨cur, hc1⟩ := hty q hq2
    obtain ⟨cur2, hc2⟩ := own_type h.sent hq
    have := hc1.symm.trans hc2
    injection this with this
    injection this with _ this
    exact absurd this (by decide)
  refine ⟨ta, tc, W2, a1, ⟨⟨h.lok.ld.same (keep g h.lok.ld.lt hng) (fun q hq => keep q (h.lok.ld.way.lt q hq) (hnv q hq)), h.lok.fit, h.lok.sane⟩, ?_, h.gw, h.vw, rowK h.sent hns, a2, rowK h.r1 (fun q hq hq2 => (h.tu q hq2).1 hq), rowK h.r2 (fun q hq hq2 => (h.tu q hq2).2 hq), fun q hq => ?_, h.book, h.sz, h.len⟩⟩
  · exact ⟨a3.os.trans (hb1.os.trans h.bel.os), a3.tape.trans (hb1.tape.trans h.bel.tape), a3.output.trans (hb1.output.trans h.bel.output), Nat.le_trans h.bel.size hsz, fun q hq => (keep q (by have := h.bel.size; omega) (fun e => by have := (h.told.lt q e).1; omega)).trans (h.bel.block q hq)⟩
  · rcases a4 with a4 | a4
    · rw [a4] at hq; exact h.tu q hq
    · rw [a4] at hq
      injection hq with hq
      have : q = W.heap.size + 1 := by rw [← hq]; simp
      exact ⟨fun e => by have := (h.r1.lt q e).2; omega, fun e => by have := (h.r2.lt q e).2; omega⟩
/-- All was looked through. -/
theorem OnceK.done (h : OnceK w g c As T0 A B s v sv u1 u2 k tv W) (hk : (A ++ B).length ≤ k) : OnceI w g c As (T0 ++ (A ++ B)) s v sv tv W :=
  ⟨h.lok, h.bel, h.gw, h.vw, h.sent, by have := h.told; rw [List.take_of_length_le hk] at this; exact this, h.book, h.sz, h.len⟩
/-- One act of those that were sent. -/
theorem OnceI.act (h : OnceI w g c As T0 s v sv tv W) {j : Nat} {a : AM} (hj : As[j]? = some a) : ∃ b cap, sv = .slice (some ⟨b, 0, none⟩) As.length cap ∧ W.cell? ⟨b, j * 7 + 1, none⟩ = some (.int .u64 (a.num : Int)) ∧ W.cell? ⟨b, j * 7 + 2, none⟩ = some (.int .i64 a.size) ∧ W.cell? ⟨b, j * 7 + 3, none⟩ = some (.bool a.asks) := by
  have hjl := (List.getElem?_eq_some_iff.1 hj).1
  rcases h.sent.2 with ⟨_, q⟩ | ⟨b, cap, cur, q, _⟩
  · omega
  · refine ⟨b, cap, q, ?_, ?_, ?_⟩
    · have := h.sent.cells (g := b) (by rw [q]; rfl) (j * 7 + 1) _ (va_at As j a hj 1 (by decide))
      rw [Addr.add_mid, Nat.zero_add] at this
      exact this
    · have := h.sent.cells (g := b) (by rw [q]; rfl) (j * 7 + 2) _ (va_at As j a hj 2 (by decide))
      rw [Addr.add_mid, Nat.zero_add] at this
      exact this
    · have := h.sent.cells (g := b) (by rw [q]; rfl) (j * 7 + 3) _ (va_at As j a hj 3 (by decide))
      rw [Addr.add_mid, Nat.zero_add] at this
      exact this
def awayTo (As : List AM) (T : List Nat) (j : Nat) : Nat := (((As.take j).filter fun a => a.asks && !T.contains a.num).map (fun a => a.size.toNat)).sum
theorem awayTo_succ {As : List AM} {T : List Nat} {j : Nat} {a : AM} (hj : As[j]? = some a) : awayTo As T (j + 1) = awayTo As T j + if (a.asks && !T.contains a.num) = true then a.size.toNat else 0 := by
  unfold awayTo
  rw [List.take_add_one, hj, List.filter_append, List.map_append, List.sum_append]
  congr 1
  show (((List.filter _ [a]).map _).sum) = _
  rw [List.filter_cons]
  split
  · simp
  · simp
theorem awayTo_le {As : List AM} (hsz : ∀ a ∈ As, 1 ≤ a.size ∧ a.size ≤ 1200) (T : List Nat) : ∀ j, awayTo As T j ≤ 1200 * j
  | 0 => by simp [awayTo]
  | j + 1 => by
    have h1 := awayTo_le hsz T j
    cases hj : As[j]? with
    | none =>
      have : awayTo As T (j + 1) = awayTo As T j := by unfold awayTo; rw [List.take_add_one, hj]; simp
      omega
    | some a =>
      rw [awayTo_succ hj]
      have := hsz a (List.mem_of_getElem? hj)
      split <;> omega
theorem OnceI.away (h : OnceI w g c As T0 s v sv tv W) : awayTo As T0 As.length = Lg.away s := by
  rw [h.book.away]
  unfold awayTo
  rw [List.take_length]
  congr 1
  clear h
  induction As with
  | nil => rfl
  | cons a As ih =>
    rw [List.map_cons, List.filter_cons, List.filter_cons]
    show _ = List.map _ (if (a.asks && !T0.contains a.num) = true then _ else _)
    split
    · rw [List.map_cons, List.map_cons, ih]; rfl
    · exact ih
end
end Go.Proofs.Ytohoieleakieeaa
