/-
  Fields in memory; fields that came in.
-/
import Derived.Test.YtoajnhngcfjohaaTbPlain
import Derived.Test.YtoajnhngcfjohaaShaLiftA
import Derived.Test.YtoajnhngcfjohaaRows
import Derived.BigQuiet
import Derived.Deep.MidRow
import Derived.SizedLaws
import Derived.OpenShut
namespace Go.Proofs.Ytoajnhngcfjohaa
open Go Go.ChangeShapes Go.WideShapes Go.ChangeAt Go.RowKit

namespace Tb
theorem pick_list {α : Type} {Pr : Nat → α → Prop} : ∀ (n : Nat), (∀ i, i < n → ∃ r, Pr i r) → ∃ l : List α, l.length = n ∧ ∀ i, i < n → ∃ r, l[i]? = some r ∧ Pr i r
  | 0, _ => ⟨[], rfl, fun i hi => absurd hi (Nat.not_lt_zero _)⟩
  | n + 1, h => by
    obtain ⟨l, h1, h2⟩ := pick_list n (fun i hi => h i (by omega))
    obtain ⟨r, hr⟩ := h n (by omega)
    refine ⟨l ++ [r], by rw [List.length_append, h1]; rfl, fun i hi => ?_⟩
    rcases Nat.lt_or_ge i n with q | q
    · obtain ⟨r', h3, h4⟩ := h2 i q
      exact ⟨r', by rw [List.getElem?_append_left (by omega)]; exact h3, h4⟩
    · obtain rfl : i = n := by omega
      exact ⟨r, by rw [List.getElem?_append_right (by omega), h1, Nat.sub_self]; rfl, hr⟩
def Fd.cells (f : Fd) : Array Value := #[.string f.1, .string f.2]
def Fd.Ok (f : Fd) : Prop := f.1.size ≤ 9223372036854775807 ∧ f.2.size ≤ 9223372036854775807
def fd0 : Fd := (⟨#[]⟩, ⟨#[]⟩)
def gfd (l : List Fd) (j : Nat) : Fd := l[j]?.getD fd0
structure FL where
  a : Option Addr
  len : Nat
  cap : Nat
  g : Nat
  off : Nat
  l : List Fd
structure FL.Ok (w : World) (s : FL) : Prop where
  hb : s.l.length = s.len
  hcap : s.len ≤ s.cap
  nil : s.a = none → s.len = 0 ∧ s.cap = 0
  at_ : 0 < s.len → s.a = some ⟨s.g, s.off, none⟩
  lt : 0 < s.len → s.g < w.heap.size
  cell : ∀ j : Nat, j < s.len → w.rangeAt s.g (s.off + j * 2) (gfd s.l j).cells.toList
  each : ∀ j : Nat, j < s.len → (gfd s.l j).Ok
theorem FL.Ok.below {w w' : World} {s : FL} (h : s.Ok w) (hb : Below w.heap.size w w') : s.Ok w' :=
  ⟨h.hb, h.hcap, h.nil, h.at_, fun p => Nat.lt_of_lt_of_le (h.lt p) hb.size, fun j hj i v hv => (hb.cell (p := ⟨s.g, s.off + j * 2 + i, none⟩) (h.lt (by omega))).trans (h.cell j hj i v hv), h.each⟩
section
variable {H : Type} {enc : TypeId × Value → H} {W : World}
theorem two_cells {l : List Value} {a b : Value} (hl : l.length = 2) (h0 : (l.drop 0).take 1 = [a]) (h1 : (l.drop 1).take 1 = [b]) : l = [a, b] := by
  match l, hl with
  | [x0, x1], _ => simp at h0 h1; rw [h0, h1]
set_option maxRecDepth 100000 in
theorem open_fd {fuel : Nat} {cs : List Value} {x : DataW H × List MemPlace} (hf : DataW.trod enc Try.prog W 0 (fun _ => true) true fuel 23 cs = some x) :
    ∃ f : Fd, cs = f.cells.toList ∧ f.Ok := by
  obtain ⟨xs, n, _, hxd, hlen, hxl, hfs⟩ := DataW.trod_struct Try.underlying23 hf
  have hl : Try.prog.cellsOf 23 = 2 := by kernel_rfl
  have cS : Try.prog.cellsOf 9 = 1 := by kernel_rfl
  have hx : xs.length = 2 := hxl
  have e0 : DataW.trod enc Try.prog W 0 (fun _ => true) true n 9 (List.take (Try.prog.cellsOf 9) (List.drop 0 _)) = xs[0]? := hfs 0 _ rfl
  have e1 : DataW.trod enc Try.prog W 0 (fun _ => true) true n 9 (List.take (Try.prog.cellsOf 9) (List.drop 1 _)) = xs[1]? := hfs 1 _ rfl
  rw [cS, List.getElem?_eq_getElem (by omega)] at e0 e1
  obtain ⟨a, h0, _, w0⟩ := DataW.trod_string Try.underlying9 e0
  obtain ⟨b, h1, _, w1⟩ := DataW.trod_string Try.underlying9 e1
  rw [hl] at hlen
  exact ⟨(a, b), two_cells hlen h0 h1, w0, w1⟩
set_option maxRecDepth 100000 in
theorem open_fds {fuel : Nat} {cs : List Value} {x : DataW H × List MemPlace} (hf : DataW.trod enc Try.prog W 0 (fun _ => true) true fuel 49 cs = some x) :
    ∃ q : FL, cs = [.slice q.a q.len q.cap] ∧ q.Ok W := by
  rcases DataW.trod_slice Try.underlying49 hf with ⟨hcs, hx⟩ | ⟨a, len, cap, elems, rest, n, _, hcs, hx, _, hl, hm, hlen, hel, hsp, _⟩
  · exact ⟨⟨none, 0, 0, 0, 0, []⟩, hcs, ⟨rfl, Nat.le_refl _, fun _ => ⟨rfl, rfl⟩, fun p => absurd p (Nat.lt_irrefl _), fun p => absurd p (Nat.lt_irrefl _), fun _ h => absurd h (Nat.not_lt_zero _), fun _ h => absurd h (Nat.not_lt_zero _)⟩⟩
  · have hc7 : Try.prog.cellsOf 23 = 2 := by kernel_rfl
    have each : ∀ i, i < len → ∃ f : Fd, (∀ j, j < 2 → W.cell? ((a.add (i * 2)).add j) = f.cells.toList[j]?) ∧ f.Ok := by
      intro i hi
      have h := hel i hi
      rw [hc7, List.getElem?_eq_getElem (by omega), Option.bind_eq_some_iff] at h
      obtain ⟨cs', h1, h2⟩ := h
      obtain ⟨_, h3, h4⟩ := World.cells?_some h1
      obtain ⟨f, h5, h6⟩ := open_fd h2
      rw [h5] at h4
      exact ⟨f, h4, h6⟩
    obtain ⟨l, hll, hl2⟩ := pick_list len each
    obtain ⟨g, off, spot⟩ := a
    have hspot : 0 < len → spot = none := fun p => by
      obtain ⟨f, h1, _⟩ := each 0 p
      have := World.cell?_spot (h1 0 (by decide))
      simpa [Addr.add] using this
    have getl : ∀ j, j < len → ∃ f, gfd l j = f ∧ (∀ i, i < 2 → W.cell? (((⟨g, off, spot⟩ : Addr).add (j * 2)).add i) = f.cells.toList[i]?) ∧ f.Ok := by
      intro j hj
      obtain ⟨f, h0, h1⟩ := hl2 j hj
      exact ⟨f, by unfold gfd; rw [h0]; rfl, h1⟩
    refine ⟨⟨some ⟨g, off, spot⟩, len, cap, g, off, l⟩, hcs, ⟨hll, hl, (fun e => by cases e), fun p => by rw [hspot p], fun p => ?_, fun j hj => ?_, fun j hj => ?_⟩⟩
    · obtain rfl := hspot p
      obtain ⟨f, h1, _⟩ := each 0 p
      have h2 := h1 0 (by decide)
      rcases Nat.lt_or_ge g W.heap.size with q | q
      · exact q
      · exfalso
        simp [World.cell?, Addr.add, Array.getElem?_eq_none q, Fd.cells] at h2
    · have hj' : j < len := hj
      obtain rfl := hspot (by omega)
      obtain ⟨f, e, h1, _⟩ := getl j hj'
      show W.rangeAt g (off + j * 2) (gfd l j).cells.toList
      rw [e]
      intro i u hu
      have hi : i < 2 := by have := (List.getElem?_eq_some_iff.1 hu).1; exact this
      have := h1 i hi
      rw [Addr.add_mid, Addr.add_mid] at this
      rw [this]
      exact hu
    · obtain ⟨f, e, _, h2⟩ := getl j hj
      show (gfd l j).Ok
      rw [e]
      exact h2
set_option maxRecDepth 100000 in
theorem open_fields {base : Nat} {v : Value} {d : DataW H} {ps : List MemPlace} (hval : Value.okWide Try.prog W .any base 49 v) (h0 : DataW.Trod enc Try.prog W 0 (fun _ => true) true 49 v d ps) :
    ∃ q : FL, v = .slice q.a q.len q.cap ∧ q.Ok W := by
  obtain ⟨a0, len0, cap0, rfl⟩ := okWide_slice Try.underlying49 hval
  obtain ⟨fuel, hf⟩ := h0
  obtain ⟨q, hcs, h⟩ := open_fds hf
  refine ⟨q, ?_, h⟩
  have hcs' : [Value.slice a0 len0 cap0] = [Value.slice q.a q.len q.cap] := hcs
  exact List.head_eq_of_cons_eq hcs'
set_option maxRecDepth 20000 in
theorem open_field {base : Nat} {v : Value} {d : DataW H} {ps : List MemPlace} (hval : Value.okWide Try.prog W .any base 23 v) (h0 : DataW.Trod enc Try.prog W 0 (fun _ => true) true 23 v d ps) :
    ∃ f : Fd, v = .agg f.cells ∧ f.Ok := by
  unfold Value.okWide at hval
  rw [Try.underlying23] at hval
  obtain ⟨cs, rfl, hsz, _⟩ := hval
  obtain ⟨fuel, hf⟩ := h0
  obtain ⟨f, hcs, h⟩ := open_fd hf
  refine ⟨f, ?_, h⟩
  have hcs' : cs.toList = f.cells.toList := hcs
  have := Array.toList_inj.1 hcs'
  rw [this]
end
end Tb
end Go.Proofs.Ytoajnhngcfjohaa
