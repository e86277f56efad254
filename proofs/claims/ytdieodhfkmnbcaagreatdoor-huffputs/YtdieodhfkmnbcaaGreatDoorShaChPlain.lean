/-
  Bytes appended to a row of the call's own.
-/
import Derived.Test.YtdieodhfkmnbcaaGreatDoorShaPad
import Derived.Laws.AppendOwn
import Derived.Laws.AppendOwnNone
import Derived.OwnWalk
import Derived.RangeFuncBox
import Derived.Maps.AppendAt
import Derived.Below
namespace Go.Proofs.YtdieodhfkmnbcaaGreatDoor
open Go Go.RowKit

/-- The cells of bytes, as a list. -/
def vb (b : List By) : List Value := b.map fun c => .int .u8 (v8 c)
theorem vb_length (b : List By) : (vb b).length = b.length := by simp [vb]
theorem vb_append (a b : List By) : vb (a ++ b) = vb a ++ vb b := by simp [vb]
theorem vb_get (b : List By) (j : Nat) (h : j < b.length) : (vb b)[j]? = some (.int .u8 (v8 (gb b j))) := by
  unfold vb gb
  rw [List.getElem?_map, List.getElem?_eq_getElem h]
  rfl
theorem vb_get' (b : List By) (j : Nat) (u : Value) (h : (vb b)[j]? = some u) : j < b.length ∧ u = .int .u8 (v8 (gb b j)) := by
  have hj : j < b.length := by
    rcases Nat.lt_or_ge j b.length with h1 | h1
    · exact h1
    · rw [List.getElem?_eq_none (by rw [vb_length]; exact h1)] at h; cases h
  rw [vb_get b j hj] at h
  exact ⟨hj, (Option.some.inj h).symm⟩
theorem vb_one (b : List By) : ∀ u ∈ vb b, u.oneCell' = true := by
  intro u hu
  unfold vb at hu
  obtain ⟨c, _, rfl⟩ := List.mem_map.1 hu
  rfl
def slen : Value → Nat
  | .slice _ n _ => n
  | _ => 0

/-- A row of the call's own, at least one byte. -/
structure OwnB (w : World) (base g n cap : Nat) (b : List By) : Prop where
  len : b.length = n
  row : w.ownsRow base 5 1 (.slice (some ⟨g, 0, none⟩) n cap) n (vb b)
theorem add_off (g j : Nat) : (⟨g, 0, none⟩ : Addr).add j = ⟨g, j, none⟩ := by
  unfold Addr.add
  split
  · rename_i h; rw [h]
  · simp
theorem OwnB.cell {w : World} {base g n cap : Nat} {b : List By} (h : OwnB w base g n cap b) {j : Nat} (hj : j < n) : w.cell? ⟨g, j, none⟩ = some (.int .u8 (v8 (gb b j))) := by
  have := h.row.cells (g := g) rfl j _ (vb_get b j (by rw [h.len]; exact hj))
  rw [add_off] at this
  exact this
theorem OwnB.lt {w : World} {base g n cap : Nat} {b : List By} (h : OwnB w base g n cap b) : base ≤ g ∧ g < w.heap.size := h.row.lt g rfl
theorem OwnB.same {w w' : World} {base g n cap : Nat} {b : List By} (h : OwnB w base g n cap b) (hh : w'.heap[g]? = w.heap[g]?) : OwnB w' base g n cap b := ⟨h.len, by
  obtain ⟨h1, h2⟩ := h.row
  refine ⟨h1, ?_⟩
  rcases h2 with ⟨h3, h4⟩ | ⟨g', c', cur, h3, h4, h5, h6⟩
  · exact .inl ⟨h3, h4⟩
  · refine .inr ⟨g', c', cur, h3, h4, ?_, h6⟩
    rw [← h5]
    have e : g' = g := by injection h3 with e1; injection e1 with e2; injection e2 with e3; exact e3.symm
    subst e
    exact hh⟩
theorem OwnB.below {w w' : World} {base g n cap : Nat} {b : List By} (h : OwnB w base g n cap b) (hb : Below w.heap.size w w') : OwnB w' base g n cap b := by
  have hg := h.lt.2
  obtain ⟨_, _, _, _, hh⟩ := hb
  exact h.same (hh g hg)
theorem OwnB.other {w : World} {base g n cap : Nat} {b : List By} (h : OwnB w base g n cap b) {g' : Nat} (hg : g ≠ g') (j : Nat) (v : Value) : OwnB (w.setCell ⟨g', j, none⟩ v) base g n cap b :=
  h.same (Below.heap_setCell _ _ _ g hg)
theorem OwnB.putOther {w : World} {base g n cap : Nat} {b : List By} (h : OwnB w base g n cap b) {g' : Nat} (hg : g ≠ g') (cs : Array Value) : OwnB (w.setRow g' cs) base g n cap b :=
  h.same (by simp only [World.setRow, Array.getElem?_modify]; rw [if_neg (fun e => hg e.symm)])

section
variable {P : Program} {ops : Array Oper} {rest : List Oper} {o : Oper} {a : Act} {w : World} {Q : Exit → Act → World → Prop}
/-- What came in is appended, nil or not. -/
theorem append_in (hgd : o.guard = none) (s x : Operand) (t : TypeId) (ho : o.op = .call { callee := .builtin .append, args := #[s, x], argTypes := #[t, t] })
    (base : Nat) (i : TypeInfo) (ht : P.underlying t = some (.slice 5)) (hi : P.info? 5 = some i) (hz : i.zero = some (.int .u8 0)) (hsize : i.size = 1) (hby : i.bytes = 1)
    (hs : a.eval s = .slice none 0 0) (ad : Option Addr) (g off len cap : Nat) (b : List By) (hb : b.length = len) (hl : len ≤ 2097152) (hx : a.eval x = .slice ad len cap)
    (hn : ad = none → len = 0 ∧ cap = 0) (ha : 0 < len → ad = some ⟨g, off, none⟩) (hc : ∀ j : Nat, j < len → w.cell? ⟨g, off + j, none⟩ = some (.int .u8 (v8 (gb b j)))) (hbase : base ≤ w.heap.size)
    (h : ∀ v' w', w'.ownsRow base 5 1 v' len (vb b) → w.grownBy w' none → wpList P ops Q rest (a.put o.dst v') w') : wpList P ops Q (o :: rest) a w := by
  cases ad with
  | none =>
    obtain ⟨rfl, rfl⟩ := hn rfl
    obtain rfl : b = [] := List.eq_nil_of_length_eq_zero hb
    exact wpList_append_own_none hgd s x t ho base 5 i 1 ht hi _ 0 [] hs (World.ownsRow_nil _ _ _ _) hx (h _ _ (World.ownsRow_nil _ _ _ _) (World.grownBy.refl _ _))
  | some ad =>
    refine wpList_append_own w hgd s x t ho base 5 i (.int .u8 0) 1 1 ht hi hz hsize hby rfl (by decide) _ 0 [] hs (World.ownsRow_nil _ _ _ _) ad len cap (vb b) hx (by rw [vb_length, hb, Nat.mul_one]) ?_ (vb_one b) (by unfold maxLen; omega) (by omega) hbase ?_
    · intro j u hj
      obtain ⟨h1, rfl⟩ := vb_get' b j u hj
      have e := ha (by omega)
      injection e with e
      subst e
      rw [add_at]
      exact hc j (by omega)
    · intro v' w' h1 h2 _
      rw [Nat.zero_add] at h1
      exact h v' w' h1 h2
end
theorem len_byte (n k M : Nat) (hM : 2 ^ k = M) (h : 8 * n / M < 256) : v8 (BitVec.ofNat 8 (8 * n / 2 ^ k)) = (n : Int) * 8 / (M : Int) := by
  unfold v8
  rw [BitVec.toNat_ofNat, hM, Nat.mod_eq_of_lt h, Int.natCast_ediv]
  congr 1
  push_cast
  omega
theorem vb_lenB (n : Nat) (h : n ≤ 5000) : vb (lenB n) = [.int .u8 ((n : Int) * 8 / 72057594037927936), .int .u8 ((n : Int) * 8 / 281474976710656), .int .u8 ((n : Int) * 8 / 1099511627776), .int .u8 ((n : Int) * 8 / 4294967296), .int .u8 ((n : Int) * 8 / 16777216), .int .u8 ((n : Int) * 8 / 65536), .int .u8 ((n : Int) * 8 / 256), .int .u8 ((n : Int) * 8 % 256)] := by
  have e0 := len_byte n 56 72057594037927936 (by decide) (by omega)
  have e1 := len_byte n 48 281474976710656 (by decide) (by omega)
  have e2 := len_byte n 40 1099511627776 (by decide) (by omega)
  have e3 := len_byte n 32 4294967296 (by decide) (by omega)
  have e4 := len_byte n 24 16777216 (by decide) (by omega)
  have e5 := len_byte n 16 65536 (by decide) (by omega)
  have e6 := len_byte n 8 256 (by decide) (by omega)
  have e7 : v8 (BitVec.ofNat 8 (8 * n / 2 ^ 0)) = (n : Int) * 8 % 256 := by
    unfold v8
    rw [BitVec.toNat_ofNat]
    omega
  unfold vb lenB
  rw [show List.range 8 = [0, 1, 2, 3, 4, 5, 6, 7] from rfl]
  simp only [List.map_cons, List.map_nil]
  rw [show 8 * (7 - 0) = 56 from rfl, show 8 * (7 - 1) = 48 from rfl, show 8 * (7 - 2) = 40 from rfl, show 8 * (7 - 3) = 32 from rfl, show 8 * (7 - 4) = 24 from rfl, show 8 * (7 - 5) = 16 from rfl, show 8 * (7 - 6) = 8 from rfl, show 8 * (7 - 7) = 0 from rfl, e0, e1, e2, e3, e4, e5, e6, e7]
  rfl
theorem cells_new (w : World) (cs : Array Value) (t : TypeId) : ∀ j u, cs.toList[j]? = some u → (w.alloc (.cells cs t)).cell? ((⟨w.heap.size, 0, none⟩ : Addr).add j) = some u := by
  intro j u h
  rw [add_off, (Row.new w t cs).cell j, ← h]
  simp
end Go.Proofs.YtdieodhfkmnbcaaGreatDoor
