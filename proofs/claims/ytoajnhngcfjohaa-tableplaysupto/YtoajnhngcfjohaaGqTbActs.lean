/-
  What is done with a table: a list of acts that came in.
-/
import Derived.Test.YtoajnhngcfjohaaGqTbBulk
namespace Go.Proofs.Ytoajnhngcfjohaa
open Go Go.ChangeShapes Go.WideShapes Go.ChangeAt Go.RowKit

namespace Tb
structure TA where
  k : Nat
  f : Fd
  n : Int
def TA.cells (a : TA) : Array Value := #[.int .u8 (a.k : Int), .string a.f.1, .string a.f.2, .int .i64 a.n]
structure TA.Ok (a : TA) : Prop where
  k : a.k < 256
  n0 : -9223372036854775808 ≤ a.n
  n1 : a.n < 9223372036854775808
structure AL where
  a : Option Addr
  len : Nat
  cap : Nat
  g : Nat
  off : Nat
  l : List TA
structure AL.Ok (w : World) (s : AL) : Prop where
  hb : s.l.length = s.len
  at_ : 0 < s.len → s.a = some ⟨s.g, s.off, none⟩
  lt : 0 < s.len → s.g < w.heap.size
  cell : ∀ (j : Nat) (a : TA), s.l[j]? = some a → w.rangeAt s.g (s.off + j * 4) a.cells.toList
  each : ∀ (j : Nat) (a : TA), s.l[j]? = some a → a.Ok
theorem AL.Ok.below {w w' : World} {s : AL} (h : s.Ok w) (hb : Below w.heap.size w w') : s.Ok w' :=
  ⟨h.hb, h.at_, fun p => Nat.lt_of_lt_of_le (h.lt p) hb.size, fun j a hj i v hv => (hb.cell (p := ⟨s.g, s.off + j * 4 + i, none⟩) (h.lt (by have := (List.getElem?_eq_some_iff.1 hj).1; have := h.hb; omega))).trans (h.cell j a hj i v hv), h.each⟩
def fdsOf (l : List TA) : List Fd := l.map (·.f)
section
variable {H : Type} {enc : TypeId × Value → H} {W : World}
theorem four_cells {l : List Value} {a d : Value} {f : Fd} (hl : l.length = 4) (h0 : (l.drop 0).take 1 = [a]) (h1 : (l.drop 1).take 2 = f.cells.toList) (h3 : (l.drop 3).take 1 = [d]) : l = [a, .string f.1, .string f.2, d] := by
  match l, hl with
  | [x0, x1, x2, x3], _ =>
    simp [Fd.cells] at h0 h1 h3
    rw [h0, h1.1, h1.2, h3]
set_option maxRecDepth 100000 in
theorem open_act {fuel : Nat} {cs : List Value} {x : DataW H × List MemPlace} (hf : DataW.trod enc Try.prog W 0 (fun _ => true) true fuel 32 cs = some x) :
    ∃ a : TA, cs = a.cells.toList ∧ a.Ok ∧ a.f.1.size + a.f.2.size + 1 ≤ Rows.uptoBulk x.1 := by
  obtain ⟨xs, n, _, hxd, hlen, hxl, hfs⟩ := DataW.trod_struct Try.underlying32 hf
  have hl : Try.prog.cellsOf 32 = 4 := by kernel_rfl
  have c0 : Try.prog.cellsOf 5 = 1 := by kernel_rfl
  have c1 : Try.prog.cellsOf 23 = 2 := by kernel_rfl
  have c2 : Try.prog.cellsOf 3 = 1 := by kernel_rfl
  have hx : xs.length = 3 := hxl
  obtain ⟨p, q, r, rfl⟩ : ∃ p q r, xs = [p, q, r] := by
    match xs, hx with
    | [p, q, r], _ => exact ⟨p, q, r, rfl⟩
  have e0 : DataW.trod enc Try.prog W 0 (fun _ => true) true n 5 (List.take (Try.prog.cellsOf 5) (List.drop 0 _)) = some p := hfs 0 _ rfl
  have e1 : DataW.trod enc Try.prog W 0 (fun _ => true) true n 23 (List.take (Try.prog.cellsOf 23) (List.drop 1 _)) = some q := hfs 1 _ rfl
  have e2 : DataW.trod enc Try.prog W 0 (fun _ => true) true n 3 (List.take (Try.prog.cellsOf 3) (List.drop 3 _)) = some r := hfs 2 _ rfl
  rw [c0] at e0
  rw [c1] at e1
  rw [c2] at e2
  obtain ⟨z, h0, _, w0⟩ := DataW.trod_int Try.underlying5 e0
  obtain ⟨f, h1, _⟩ := open_fd e1
  obtain ⟨y, h2, _, w2⟩ := DataW.trod_int Try.underlying3 e2
  have hb0 := bounds_u8 w0
  have hb2 := bounds_i64 w2
  have h8 := bulk_fd (f := f) (by rw [← h1]; exact e1)
  rw [hl] at hlen
  have hd : x.1 = .agg ([p, q, r].map (·.1)) := congrArg Prod.fst hxd
  refine ⟨⟨z.toNat, f, y⟩, ?_, ⟨by show z.toNat < 256; omega, hb2.1, by show y < _; omega⟩, ?_⟩
  · rw [four_cells hlen h0 h1 h2]
    unfold TA.cells
    simp only
    rw [Int.toNat_of_nonneg hb0.1]
  · rw [hd]
    simp only [List.map_cons, List.map_nil, Rows.uptoBulk, Rows.uptoBulkAll]
    show f.1.size + f.2.size + 1 ≤ _
    omega
set_option maxRecDepth 100000 in
theorem open_acts {fuel : Nat} {cs : List Value} {x : DataW H × List MemPlace} (hf : DataW.trod enc Try.prog W 0 (fun _ => true) true fuel 30 cs = some x) :
    ∃ q : AL, cs = [.slice q.a q.len q.cap] ∧ q.Ok W ∧ tot (fdsOf q.l) ≤ Rows.uptoBulk x.1 := by
  rcases DataW.trod_slice Try.underlying30 hf with ⟨hcs, hx⟩ | ⟨a, len, cap, elems, rest, n, _, hcs, hx, _, hl, hm, hlen, hel, hsp, _⟩
  · exact ⟨⟨none, 0, 0, 0, 0, []⟩, hcs, ⟨rfl, fun p => absurd p (Nat.lt_irrefl _), fun p => absurd p (Nat.lt_irrefl _), fun j a h => by simp at h, fun j a h => by simp at h⟩, Nat.zero_le _⟩
  · have hc7 : Try.prog.cellsOf 32 = 4 := by kernel_rfl
    have each : ∀ i, i < len → ∃ f : TA, (∀ j, j < 4 → W.cell? ((a.add (i * 4)).add j) = f.cells.toList[j]?) ∧ f.Ok ∧ ∀ d, (elems.map (·.1))[i]? = some d → f.f.1.size + f.f.2.size + 1 ≤ Rows.uptoBulk d := by
      intro i hi
      have h := hel i hi
      rw [hc7, List.getElem?_eq_getElem (by omega), Option.bind_eq_some_iff] at h
      obtain ⟨cs', h1, h2⟩ := h
      obtain ⟨_, h3, h4⟩ := World.cells?_some h1
      obtain ⟨f, h5, h6, h7⟩ := open_act h2
      rw [h5] at h4
      refine ⟨f, h4, h6, fun d hd => ?_⟩
      rw [List.getElem?_map, List.getElem?_eq_getElem (by omega)] at hd
      have : elems[i].1 = d := by simpa using hd
      rw [← this]
      exact h7
    obtain ⟨l, hll, hl2⟩ := pick_list len each
    obtain ⟨g, off, spot⟩ := a
    have hspot : 0 < len → spot = none := fun p => by
      obtain ⟨f, h1, _⟩ := each 0 p
      have := World.cell?_spot (h1 0 (by decide))
      simpa [Addr.add] using this
    have getl : ∀ (j : Nat) (f : TA), l[j]? = some f → j < len ∧ (∀ i, i < 4 → W.cell? (((⟨g, off, spot⟩ : Addr).add (j * 4)).add i) = f.cells.toList[i]?) ∧ f.Ok ∧ ∀ d, (elems.map (·.1))[j]? = some d → f.f.1.size + f.f.2.size + 1 ≤ Rows.uptoBulk d := by
      intro j f hj
      have hj' : j < len := by have := (List.getElem?_eq_some_iff.1 hj).1; omega
      obtain ⟨f', h0, h1⟩ := hl2 j hj'
      have : f' = f := Option.some.inj (h0.symm.trans hj)
      subst this
      exact ⟨hj', h1⟩
    have e : x.1 = .slice (elems.map (·.1)) (rest.map (·.1)) := congrArg Prod.fst hx
    refine ⟨⟨some ⟨g, off, spot⟩, len, cap, g, off, l⟩, hcs, ⟨hll, fun p => by rw [hspot p], fun p => ?_, fun j f hj => ?_, fun j f hj => (getl j f hj).2.2.1⟩, ?_⟩
    · obtain rfl := hspot p
      obtain ⟨f, h1, _⟩ := each 0 p
      have h2 := h1 0 (by decide)
      rcases Nat.lt_or_ge g W.heap.size with q | q
      · exact q
      · exfalso
        simp [World.cell?, Addr.add, Array.getElem?_eq_none q, TA.cells] at h2
    · obtain ⟨hj', h1, _⟩ := getl j f hj
      obtain rfl := hspot (by omega)
      intro i u hu
      have hi : i < 4 := by have := (List.getElem?_eq_some_iff.1 hu).1; exact this
      have := h1 i hi
      rw [Addr.add_mid, Addr.add_mid] at this
      rw [this]
      exact hu
    · rw [e]
      refine Nat.le_trans (bulk_tot (fdsOf l) (elems.map (·.1)) (by unfold fdsOf; rw [List.length_map, List.length_map]; omega) ?_) (by simp only [Rows.uptoBulk]; omega)
      intro j f d h1 h2
      unfold fdsOf at h1
      rw [List.getElem?_map, Option.map_eq_some_iff] at h1
      obtain ⟨b, h3, rfl⟩ := h1
      exact (getl j b h3).2.2.2 d h2
theorem open_actsV {base : Nat} {v : Value} {d : DataW H} {ps : List MemPlace} (hval : Value.okWide Try.prog W .any base 30 v) (h0 : DataW.Trod enc Try.prog W 0 (fun _ => true) true 30 v d ps) :
    ∃ q : AL, v = .slice q.a q.len q.cap ∧ q.Ok W ∧ tot (fdsOf q.l) ≤ Rows.uptoBulk d := by
  obtain ⟨a0, len0, cap0, rfl⟩ := okWide_slice Try.underlying30 hval
  obtain ⟨fuel, hf⟩ := h0
  obtain ⟨q, hcs, h, hb⟩ := open_acts hf
  refine ⟨q, ?_, h, hb⟩
  have hcs' : [Value.slice a0 len0 cap0] = [Value.slice q.a q.len q.cap] := hcs
  exact List.head_eq_of_cons_eq hcs'
end
end Tb
end Go.Proofs.Ytoajnhngcfjohaa
