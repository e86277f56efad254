/-
  Out of SnFr, SnPairs.
-/
import Derived.Test.YtnlckmopgkabpaaGsSnHeard
import Derived.Test.YtnlckmopgkabpaaGsRgMem
import Derived.Test.YtnlckmopgkabpaaGs2
import Derived.Test.YtnlckmopgkabpaaRows

/-! Frames that a sender told: as frames in memory, and what keeps them. -/
namespace Go.Proofs.Ytnlckmopgkabpaa
open Go Go.RowKit

namespace Sr
open Sd
theorem sl_keepP {w w' : World} {s : SL} {st : Nat → Prop} (h : s.Ok w) (k : KeepP st w w') (hs : 0 < s.len → ¬ st s.g) : s.Ok w' := h.same (fun p => k.block _ (h.lt p) (hs p)) k.size
/-- A frame that was told. -/
def frT (id p : Nat) (fn : Bool) (d : List By) (b : Nat) : FrM := ⟨7, id, p, 0, 0, fn, ⟨some ⟨b, 0, none⟩, d.length, d.length, b, 0, d⟩, ⟨none, 0, 0, 0, 0, []⟩⟩
theorem frT_ok {w : World} {B id p b n : Nat} {fn : Bool} {d : List By} (hid : id ≤ 4611686018427387903) (hp : p ≤ 4611686018427387903) (hd : d.length = n) (h : w.ownsRow B 5 1 (.slice (some ⟨b, 0, none⟩) n n) n (vb d)) : (frT id p fn d b).Ok w := by
  subst hd
  obtain ⟨s, e1, e2, e3, e4, _⟩ := SL.of_own h
  refine ⟨⟨rfl, Nat.le_refl _, (fun e => by cases e), fun _ => rfl, fun _ => (h.lt b rfl).2, fun j hj => ?_⟩, ⟨rfl, Nat.le_refl _, fun _ => ⟨rfl, rfl⟩, fun q => absurd q (Nat.lt_irrefl _), fun q => absurd q (Nat.lt_irrefl _), fun _ q => absurd q (Nat.not_lt_zero _), fun j => ⟨by show (gr [] j).1 < _; simp [gr], by show (gr [] j).2 < _; simp [gr]⟩⟩, by show (7 : Nat) < 256; decide, by show id < _; omega, by show p < _; omega, by show (0 : Nat) < _; decide, by show (0 : Nat) < _; decide⟩
  have hj' : j < d.length := hj
  have h4 := e4.cell j (by omega)
  have h5 := e4.at_ (by omega)
  have e6 : s.a = some ⟨b, 0, none⟩ := by
    have e1 : Value.slice s.a s.len s.cap = _ := e1
    injection e1
  rw [e6] at h5
  injection h5 with h5
  injection h5 with h5 h6
  rw [e3, ← h5, ← h6] at h4
  exact h4
theorem frD_cells (id p : Nat) (fn : Bool) (d : List By) (b n : Nat) (hd : d.length = n) : frD id p fn (.slice (some ⟨b, 0, none⟩) n n) = (frT id p fn d b).cells := by
  subst hd
  rfl
/-- What Take answers, told by frames. -/
def TakeF (w w' : World) (g : Nat) (s : Snd) (own : Nat → Prop) (n : Int) (fr : Nat) (e : Ending) : Prop :=
  match span s n fr with
  | none => e = .returned (.tuple #[.agg fr0, .bool false]) ∧ SnS w' g s own ∧ Below w.heap.size w w'
  | some (p, q) => ∃ b own', e = .returned (.tuple #[.agg (frT s.id p (finB s q) (Sd.cut s.b p q) b).cells, .bool true]) ∧
      (frT s.id p (finB s q) (Sd.cut s.b p q) b).Ok w' ∧ SnS w' g (tell s p q) own' ∧ After own w w' own' ∧ ¬ own' b ∧ w.heap.size ≤ b ∧ b < w'.heap.size
theorem snS_fine {w : World} {g : Nat} {s : Snd} {own : Nat → Prop} (h : SnS w g s own) : Fine s := by
  obtain ⟨_, _, _, _, _, h1, _⟩ := h
  exact h1.rep.fine
theorem take_fr (w : World) (g : Nat) (s : Snd) (own : Nat → Prop) (h : SnS w g s own) (n : Int) (fr : Nat) (hn : n ≤ 9223372036854775807) (hfr : fr ≤ 18446744073709551615) :
    Calls Try.prog 9 #[.pointer (some ⟨g, 0, none⟩), .int .i64 n, .int .u64 (fr : Int)] w fun e w' => TakeF w w' g s own n fr e := by
  refine (take_any w g s own h n fr hn hfr).mono ?_
  intro e w' hp
  have hf := snS_fine h
  unfold TakeP at hp
  unfold TakeF
  cases hs : span s n fr with
  | none => rw [hs] at hp; exact hp
  | some pq =>
    obtain ⟨p, q⟩ := pq
    rw [hs] at hp
    obtain ⟨b, own', rfl, h1, h2, h3, h4⟩ := hp
    have sp := span_some hf hs
    have hl := Sd.cut_length sp.le sp.top
    have h5 := h1.lt b rfl
    refine ⟨b, own', by rw [frD_cells _ _ _ _ _ _ hl], frT_ok hf.id (by have := sp.le; have := sp.top; have := hf.len; omega) hl h1, h2, h3, h4, h5.1, h5.2⟩
theorem head_frT {s : Snd} {id p : Nat} {fn : Bool} {d : List By} {b : Nat} (h : s.id = id) : headB s (frT id p fn d b) = true := by
  subst h
  unfold headB frT
  simp
theorem its_frT {s : Snd} {id p : Nat} {fn : Bool} {d : List By} {b : Nat} (h : s.id = id) : itsB s (frT id p fn d b) = decide (Mine s p d fn) := by
  unfold itsB
  rw [head_frT h, Bool.true_and]
  rfl
/-- A sender that is made behind a world. -/
structure SnA (w W : World) (g : Nat) (s : Snd) (own : Nat → Prop) : Prop where
  sn : SnS W g s own
  bel : Below w.heap.size w W
  ow : ∀ k, own k → w.heap.size ≤ k
theorem SnA.after {w W W' : World} {g : Nat} {s s' : Snd} {own own' : Nat → Prop} (x : SnA w W g s own) (h : SnS W' g s' own') (a : After own W W' own') : SnA w W' g s' own' :=
  ⟨h, x.bel.trans (a.1.below x.ow x.bel.size), fun k hk => (a.2 k hk).elim (x.ow k) (fun q => Nat.le_trans x.bel.size q)⟩
theorem SnA.below {w W W' : World} {g : Nat} {s : Snd} {own : Nat → Prop} (x : SnA w W g s own) (hb : Below W.heap.size W W') : SnA w W' g s own :=
  ⟨x.sn.below hb, x.bel.trans (hb.mono x.bel.size), x.ow⟩
/-- A frame that lies beside a sender. -/
structure FrH (W : World) (own : Nat → Prop) (f : FrM) : Prop where
  ok : f.Ok W
  nd : 0 < f.data.len → ¬ own f.data.g
  nil : f.ranges.len = 0
theorem FrH.keep {W W' : World} {own : Nat → Prop} {f : FrM} (x : FrH W own f) (k : KeepP own W W') : f.Ok W' :=
  ⟨sl_keepP x.ok.data k x.nd, x.ok.ranges.same (fun p => absurd p (by rw [x.nil]; decide)) k.size, x.ok.k8, x.ok.st, x.ok.of, x.ok.li, x.ok.co⟩
theorem FrH.after {W W' : World} {own own' : Nat → Prop} {f : FrM} (x : FrH W own f) (a : After own W W' own') : FrH W' own' f :=
  ⟨x.keep a.1, fun p e => (a.2 _ e).elim (x.nd p) (fun q => by have := x.ok.data.lt p; omega), x.nil⟩
theorem FrH.below {W W' : World} {own : Nat → Prop} {f : FrM} (x : FrH W own f) (hb : Below W.heap.size W W') : FrH W' own f := ⟨x.ok.below hb, x.nd, x.nil⟩
/-- And a variable that holds it. -/
structure FrV (W : World) (own : Nat → Prop) (r : Nat) (f : FrM) : Prop where
  row : Row W r 37 f.cells
  nr : ¬ own r
  hf : FrH W own f
theorem FrV.after {W W' : World} {own own' : Nat → Prop} {r : Nat} {f : FrM} (x : FrV W own r f) (a : After own W W' own') : FrV W' own' r f :=
  ⟨(a.1.block r x.row.lt x.nr).trans x.row, fun e => (a.2 _ e).elim x.nr (fun q => by have := x.row.lt; omega), x.hf.after a⟩
theorem FrV.below {W W' : World} {own : Nat → Prop} {r : Nat} {f : FrM} (x : FrV W own r f) (hb : Below W.heap.size W W') : FrV W' own r f := ⟨x.row.below hb x.row.lt, x.nr, x.hf.below hb⟩
theorem FrV.new {W : World} {g : Nat} {s : Snd} {own : Nat → Prop} {f : FrM} (h : SnS W g s own) (x : FrH W own f) : FrV (W.alloc (.cells f.cells 37)) own W.heap.size f := by
  refine ⟨Row.new _ _ _, fun e => ?_, x.below ((Below.refl _ W).alloc (Nat.le_refl _) _)⟩
  obtain ⟨_, _, _, _, _, _, _, h3⟩ := h
  exact Nat.lt_irrefl _ (h3 _ e)
theorem snS_lt {W : World} {g : Nat} {s : Snd} {own : Nat → Prop} (h : SnS W g s own) : ∀ k, own k → k < W.heap.size := by
  obtain ⟨_, _, _, _, _, _, _, h3⟩ := h
  exact h3
/-- A frame is taken. -/
theorem take_to {w : World} {g : Nat} {s : Snd} {own : Nat → Prop} (h : SnS w g s own) {n : Int} {fr p q id : Nat} {d : List By} {fn : Bool} (hn : n ≤ 9223372036854775807) (hfr : fr ≤ 18446744073709551615) (hs : span s n fr = some (p, q)) (hid : s.id = id) (hd : Sd.cut s.b p q = d) (hf : finB s q = fn) :
    Calls Try.prog 9 #[.pointer (some ⟨g, 0, none⟩), .int .i64 n, .int .u64 (fr : Int)] w fun e w' => ∃ b own', e = .returned (.tuple #[.agg (frT id p fn d b).cells, .bool true]) ∧ SnS w' g (tell s p q) own' ∧ After own w w' own' ∧ FrH w' own' (frT id p fn d b) := by
  subst hid hd hf
  refine (take_fr w g s own h n fr hn hfr).mono ?_
  intro e w' hp
  unfold TakeF at hp
  rw [hs] at hp
  obtain ⟨b, own', he, h1, h2, h3, h4, h5, h6⟩ := hp
  exact ⟨b, own', he, h2, h3, h1, fun _ => h4, rfl⟩
theorem take_none {w : World} {g : Nat} {s : Snd} {own : Nat → Prop} (h : SnS w g s own) {n : Int} {fr : Nat} (hn : n ≤ 9223372036854775807) (hfr : fr ≤ 18446744073709551615) (hs : span s n fr = none) :
    Calls Try.prog 9 #[.pointer (some ⟨g, 0, none⟩), .int .i64 n, .int .u64 (fr : Int)] w fun e w' => e = .returned (.tuple #[.agg fr0, .bool false]) ∧ Below w.heap.size w w' := by
  refine (take_fr w g s own h n fr hn hfr).mono ?_
  intro e w' hp
  unfold TakeF at hp
  rw [hs] at hp
  exact ⟨hp.1, hp.2.2⟩
/-- A frame of its own came in, or was lost. -/
theorem got_to {w : World} {g : Nat} {s : Snd} {own : Nat → Prop} (h : SnS w g s own) {f : FrM} (hf : f.Ok w) (hdl : f.data.len < 140737488355328) (hi : itsB s f = true) :
    Calls Try.prog 12 #[.pointer (some ⟨g, 0, none⟩), .agg f.cells] w fun e w' => e = .returned (.int .i64 0) ∧ ∃ own', SnS w' g (gotF s f) own' ∧ After own w w' own' := by
  refine (got_any w g s own h f hf hdl).mono ?_
  rintro e w' (⟨h1, _⟩ | ⟨_, h2, h3⟩)
  · rw [hi] at h1; cases h1
  · exact ⟨h2, h3⟩
theorem lost_to {w : World} {g : Nat} {s : Snd} {own : Nat → Prop} (h : SnS w g s own) {f : FrM} (hf : f.Ok w) (hdl : f.data.len < 140737488355328) (hi : itsB s f = true) :
    Calls Try.prog 13 #[.pointer (some ⟨g, 0, none⟩), .agg f.cells] w fun e w' => e = .returned (.int .i64 0) ∧ ∃ own', SnS w' g (lostF s f) own' ∧ After own w w' own' := by
  refine (lost_any w g s own h f hf hdl).mono ?_
  rintro e w' (⟨h1, _⟩ | ⟨_, h2, h3⟩)
  · rw [hi] at h1; cases h1
  · exact ⟨h2, h3⟩
end Sr
end Go.Proofs.Ytnlckmopgkabpaa

/-! A list of pairs in memory. -/
namespace Go.Proofs.Ytnlckmopgkabpaa
open Go Go.RowKit

/-- A slice of pairs of bytes, and what lies in it. -/
structure PL8 where
  a : Option Addr
  len : Nat
  cap : Nat
  g : Nat
  off : Nat
  l : List (Nat × Nat)
structure PL8.Ok (w : World) (s : PL8) : Prop where
  at_ : 0 < s.len → s.a = some ⟨s.g, s.off, none⟩
  lt : 0 < s.len → s.g < w.heap.size
  cell : ∀ j : Nat, j < s.len → w.cell? ⟨s.g, s.off + j * 2, none⟩ = some (.int .u8 ((gr s.l j).1 : Int)) ∧ w.cell? ⟨s.g, s.off + j * 2 + 1, none⟩ = some (.int .u8 ((gr s.l j).2 : Int))
  small : ∀ j, (gr s.l j).1 < 256 ∧ (gr s.l j).2 < 256
theorem PL8.Ok.same {w w' : World} {s : PL8} (h : s.Ok w) (hs : 0 < s.len → w'.heap[s.g]? = w.heap[s.g]?) (hz : w.heap.size ≤ w'.heap.size) : s.Ok w' :=
  ⟨h.at_, fun p => Nat.lt_of_lt_of_le (h.lt p) hz, fun j hj => ⟨(World.cell?_of_block (a := ⟨s.g, s.off + j * 2, none⟩) (hs (by omega))).trans (h.cell j hj).1, (World.cell?_of_block (a := ⟨s.g, s.off + j * 2 + 1, none⟩) (hs (by omega))).trans (h.cell j hj).2⟩, h.small⟩
theorem PL8.Ok.below {w w' : World} {s : PL8} (h : s.Ok w) (hb : Below w.heap.size w w') : s.Ok w' := h.same (fun p => hb.block _ (h.lt p)) hb.size
end Go.Proofs.Ytnlckmopgkabpaa
