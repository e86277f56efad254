/-
  Out of FrTwinT, FrLeftT, RgSame, FrMemS, SpMem.
-/
import Derived.Test.YtehadfidenejdaaGreatDoorGp30
import Derived.Test.YtehadfidenejdaaGreatDoorGp1
import Derived.Test.YtehadfidenejdaaGreatDoorGp16
import Derived.BigQuiet
import Derived.Test.YtehadfidenejdaaGreatDoorGp24
import Derived.Test.YtehadfidenejdaaGreatDoorGp8

/-! What the statements' helper TwinFrame does to memory. Written by mktwf.py. -/
namespace Go.Proofs.YtehadfidenejdaaGreatDoor
open Go Go.RowKit

/-- A row of the call's own, of a lower base; in a world behind. -/
theorem own_lowK {w : World} {B B' n z : Nat} {e : TypeId} {v : Value} {xs : List Value} (h : w.ownsRow B e z v n xs) (hB : B' ≤ B) : w.ownsRow B' e z v n xs := by
  obtain ⟨h1, h2⟩ := h
  refine ⟨h1, ?_⟩
  rcases h2 with h2 | ⟨g, c, cur, h3, h4, h5⟩
  · exact .inl h2
  · exact .inr ⟨g, c, cur, h3, Nat.le_trans hB h4, h5⟩
theorem own_keepK {w w' : World} {B n z : Nat} {e : TypeId} {v : Value} {xs : List Value} (h : w.ownsRow B e z v n xs) (hs : ∀ g, v.ownBlock = some g → w'.heap[g]? = w.heap[g]?) : w'.ownsRow B e z v n xs := by
  obtain ⟨h1, h2⟩ := h
  refine ⟨h1, ?_⟩
  rcases h2 with h2 | ⟨g, c, cur, rfl, h4, h5, h6⟩
  · exact .inl h2
  · exact .inr ⟨g, c, cur, rfl, h4, (hs g rfl).trans h5, h6⟩
theorem own_belowK {w w' : World} {B n z : Nat} {e : TypeId} {v : Value} {xs : List Value} (h : w.ownsRow B e z v n xs) (hb : Below w.heap.size w w') : w'.ownsRow B e z v n xs :=
  own_keepK h (fun g e => hb.block g (h.lt g e).2)
theorem own_cutK {w : World} {base g n z : Nat} {e : TypeId} {xs ys : List Value} (h : w.ownsRow base e z (.slice (some ⟨g, 0, none⟩) (n + 1) (n + 1)) (n + 1) (xs ++ ys)) (hx : xs.length = n * z) : w.ownsRow base e z (.slice (some ⟨g, 0, none⟩) n (n + 1)) n xs := by
  obtain ⟨_, h2⟩ := h
  rcases h2 with ⟨e, _⟩ | ⟨g', cap, cur, e, hg, hh, _, hm, hs, ht⟩
  · cases e
  · simp only [Value.slice.injEq, Option.some.injEq, Addr.mk.injEq] at e
    obtain ⟨⟨rfl, _⟩, _, rfl⟩ := e
    refine ⟨hx, .inr ⟨g, n + 1, cur, rfl, hg, hh, by omega, hm, hs, ?_⟩⟩
    have h3 := congrArg (List.take (n * z)) ht
    rw [List.take_take, Nat.min_eq_left (Nat.mul_le_mul_right z (Nat.le_succ n)), List.take_append_of_le_length (by omega), List.take_of_length_le (l := xs) (by omega)] at h3
    exact h3

/-- A copy of bytes that is kept, as a row of its own with a mark behind. -/
structure TwD (B : Nat) (w : World) (g : Nat) (s : SL) : Prop where
  own : w.ownsRow B 5 1 (.slice (some ⟨g, 0, none⟩) s.len (s.len + 1)) s.len (vb s.b)
  twin : Twin w g s.b
structure TwG (B : Nat) (w : World) (g : Nat) (s : RL) : Prop where
  own : w.ownsRow B 93 2 (.slice (some ⟨g, 0, none⟩) s.len (s.len + 1)) s.len (vr s.l)
  twin : TwinR w g s.l
section
variable {B g : Nat} {w w' : World} {s : SL} {r : RL}
theorem TwD.below (h : TwD B w g s) (hb : Below w.heap.size w w') : TwD B w' g s := ⟨own_belowK h.own hb, h.twin.below hb⟩
theorem TwG.below (h : TwG B w g r) (hb : Below w.heap.size w w') : TwG B w' g r := ⟨own_belowK h.own hb, h.twin.below hb⟩
theorem TwD.ge (h : TwD B w g s) : B ≤ g := (h.own.lt g rfl).1
theorem TwG.ge (h : TwG B w g r) : B ≤ g := (h.own.lt g rfl).1
theorem TwD.lt (h : TwD B w g s) : g < w.heap.size := (h.own.lt g rfl).2
theorem TwG.lt (h : TwG B w g r) : g < w.heap.size := (h.own.lt g rfl).2
theorem TwD.low {B' : Nat} (h : TwD B w g s) (hB : B' ≤ B) : TwD B' w g s := ⟨own_lowK h.own hB, h.twin⟩
theorem TwG.low {B' : Nat} (h : TwG B w g r) (hB : B' ≤ B) : TwG B' w g r := ⟨own_lowK h.own hB, h.twin⟩
theorem TwD.setRow {k : Nat} (h : TwD B w g s) (hk : g ≠ k) (cs : Array Value) : TwD B (w.setRow k cs) g s :=
  ⟨own_keepK h.own (fun z e => by cases e; exact setRow_other _ _ _ _ hk), ⟨by rw [setRow_size]; exact h.twin.lt, fun j hj => (World.cell?_of_block (a := ⟨g, j, none⟩) (setRow_other _ _ _ _ hk)).trans (h.twin.cell j hj), (World.cell?_of_block (a := ⟨g, s.b.length, none⟩) (setRow_other _ _ _ _ hk)).trans h.twin.mark⟩⟩
theorem TwG.setRow {k : Nat} (h : TwG B w g r) (hk : g ≠ k) (cs : Array Value) : TwG B (w.setRow k cs) g r :=
  ⟨own_keepK h.own (fun z e => by cases e; exact setRow_other _ _ _ _ hk), ⟨by rw [setRow_size]; exact h.twin.lt, fun j hj => ⟨(World.cell?_of_block (a := ⟨g, j * 2, none⟩) (setRow_other _ _ _ _ hk)).trans (h.twin.cell j hj).1, (World.cell?_of_block (a := ⟨g, j * 2 + 1, none⟩) (setRow_other _ _ _ _ hk)).trans (h.twin.cell j hj).2⟩, ⟨(World.cell?_of_block (a := ⟨g, r.l.length * 2, none⟩) (setRow_other _ _ _ _ hk)).trans h.twin.mark.1, (World.cell?_of_block (a := ⟨g, r.l.length * 2 + 1, none⟩) (setRow_other _ _ _ _ hk)).trans h.twin.mark.2⟩⟩⟩
end
/-- Rows of unlike kinds lie in unlike blocks. -/
theorem TwD.ne {B B' g g' : Nat} {w : World} {s : SL} {r : RL} (h : TwD B w g s) (h' : TwG B' w g' r) : g ≠ g' := by
  intro e
  subst e
  rcases h.own.2 with ⟨q, _⟩ | ⟨z, c, cur, q, _, hh, _⟩
  · cases q
  · rcases h'.own.2 with ⟨q', _⟩ | ⟨z', c', cur', q', _, hh', _⟩
    · cases q'
    · simp only [Value.slice.injEq, Option.some.injEq, Addr.mk.injEq] at q q'
      obtain ⟨⟨rfl, _⟩, _⟩ := q
      obtain ⟨⟨rfl, _⟩, _⟩ := q'
      rw [hh] at hh'
      injection hh' with hh'
      injection hh' with _ hh'
      exact absurd hh' (by decide)
theorem twb_own (s : SL) (w : World) (hs : s.Ok w) (hl : s.len ≤ 1048576) :
    Calls Tryz.prog 11 #[.slice s.a s.len s.cap] w fun e w' => ∃ g, e = .returned (.slice (some ⟨g, 0, none⟩) s.len (s.len + 1)) ∧ TwD w.heap.size w' g s ∧ Below w.heap.size w w' := by
  refine (twin_own s w hs (by omega)).mono ?_
  rintro e w' ⟨g, rfl, ht, ho, hb⟩
  exact ⟨g, rfl, ⟨ho, ht⟩, hb⟩
theorem twr_own (s : RL) (w : World) (hs : s.Ok w) (hl : s.len ≤ 1048576) :
    Calls Tryz.prog 35 #[.slice s.a s.len s.cap] w fun e w' => ∃ g, e = .returned (.slice (some ⟨g, 0, none⟩) s.len (s.len + 1)) ∧ TwG w.heap.size w' g s ∧ Below w.heap.size w w' := by
  refine (twin_rl s w hs hl).mono ?_
  rintro e w' ⟨rfl, ho, hb⟩
  refine ⟨_, rfl, ⟨?_, TwinR.of_own ho⟩, hb⟩
  rw [vr_append] at ho
  exact own_cutK ho (by rw [vr_length, hs.hb]; omega)

/-- A copy of ranges, as a slice; a frame's copy. -/
def twinRS (g n : Nat) (l : List (Nat × Nat)) : RL := ⟨some ⟨g, 0, none⟩, n, n + 1, g, 0, l⟩
def FrM.twin (f : FrM) (g1 g2 : Nat) : FrM := ⟨f.kind, f.stream, f.offset, f.limit, f.code, f.fin, twinS g1 f.data.len f.data.b, twinRS g2 f.ranges.len f.ranges.l⟩
theorem FrM.twin_fr (f : FrM) (g1 g2 : Nat) : (f.twin g1 g2).fr = f.fr := rfl
theorem TwG.ok {B g : Nat} {w : World} {r : RL} (h : TwG B w g r) (hr : r.l.length = r.len) (hsm : ∀ j, (gr r.l j).1 < 18446744073709551616 ∧ (gr r.l j).2 < 18446744073709551616) : (twinRS g r.len r.l).Ok w :=
  ⟨hr, Nat.le_succ _, (fun e => by cases e), fun _ => rfl, fun _ => h.lt, fun j hj => by
    have hj' : j < r.len := hj
    have := h.twin.cell j (by omega)
    rw [show (twinRS g r.len r.l).off + j * 2 = j * 2 from Nat.zero_add _]
    exact this, hsm⟩
theorem FrM.Ok.twin {B g1 g2 : Nat} {w0 w : World} {f : FrM} (hf : f.Ok w0) (h1 : TwD B w g1 f.data) (h2 : TwG B w g2 f.ranges) : (f.twin g1 g2).Ok w :=
  ⟨h1.twin.ok hf.data.hb, h2.ok hf.ranges.hb hf.ranges.small, hf.k8, hf.st, hf.of, hf.li, hf.co⟩
def depTF : Nat → List Nat
  | 1 => [0]
  | 3 => [2]
  | 5 => [4]
  | 7 => [6]
  | 9 => [8]
  | 11 => [10]
  | 13 => [12]
  | 14 => [13]
  | 16 => [15]
  | 17 => [16]
  | 18 => [1, 3, 5, 7, 9, 11, 14, 17]
  | 19 => [0, 1, 2, 3, 4, 5, 6, 7, 8, 9, 10, 11, 12, 13, 14, 15, 16, 17, 18]
  | _ => []
def valTF (f : FrM) (S : Nat) : Nat → World → Value → Prop
  | 0, _, v => v = .pointer (some ⟨S, 0, none⟩)
  | 1, _, v => v = .int .u8 (f.kind : Int)
  | 2, _, v => v = .pointer (some ⟨S, 1, none⟩)
  | 3, _, v => v = .int .u64 (f.stream : Int)
  | 4, _, v => v = .pointer (some ⟨S, 2, none⟩)
  | 5, _, v => v = .int .u64 (f.offset : Int)
  | 6, _, v => v = .pointer (some ⟨S, 3, none⟩)
  | 7, _, v => v = .int .u64 (f.limit : Int)
  | 8, _, v => v = .pointer (some ⟨S, 4, none⟩)
  | 9, _, v => v = .int .u64 (f.code : Int)
  | 10, _, v => v = .pointer (some ⟨S, 5, none⟩)
  | 11, _, v => v = .bool f.fin
  | 12, _, v => v = .pointer (some ⟨S, 6, none⟩)
  | 13, _, v => v = .slice f.data.a f.data.len f.data.cap
  | 14, W, v => ∃ g, v = .slice (some ⟨g, 0, none⟩) f.data.len (f.data.len + 1) ∧ TwD (S + 2) W g f.data
  | 15, _, v => v = .pointer (some ⟨S, 7, none⟩)
  | 16, _, v => v = .slice f.ranges.a f.ranges.len f.ranges.cap
  | 17, W, v => ∃ g, v = .slice (some ⟨g, 0, none⟩) f.ranges.len (f.ranges.len + 1) ∧ TwG (S + 2) W g f.ranges
  | 18, W, v => ∃ g1 g2, v = .agg (f.twin g1 g2).cells ∧ TwD (S + 2) W g1 f.data ∧ TwG (S + 2) W g2 f.ranges
  | _, _, _ => True
theorem valTF_mono {f : FrM} {S : Nat} : ∀ (j : Nat) (W W' : World) (v : Value), Below W.heap.size W W' → valTF f S j W v → valTF f S j W' v
  | 0, _, _, _, _, h => h
  | 1, _, _, _, _, h => h
  | 2, _, _, _, _, h => h
  | 3, _, _, _, _, h => h
  | 4, _, _, _, _, h => h
  | 5, _, _, _, _, h => h
  | 6, _, _, _, _, h => h
  | 7, _, _, _, _, h => h
  | 8, _, _, _, _, h => h
  | 9, _, _, _, _, h => h
  | 10, _, _, _, _, h => h
  | 11, _, _, _, _, h => h
  | 12, _, _, _, _, h => h
  | 13, _, _, _, _, h => h
  | 14, _, _, _, hb, ⟨g, h1, h2⟩ => ⟨g, h1, h2.below hb⟩
  | 15, _, _, _, _, h => h
  | 16, _, _, _, _, h => h
  | 17, _, _, _, hb, ⟨g, h1, h2⟩ => ⟨g, h1, h2.below hb⟩
  | 18, _, _, _, hb, ⟨g1, g2, h1, h2, h3⟩ => ⟨g1, g2, h1, h2.below hb, h3.below hb⟩
  | _ + 19, _, _, _, _, _ => trivial

set_option maxRecDepth 20000 in
set_option maxHeartbeats 2000000 in
theorem twin_fr (f : FrM) (w : World) (hf : f.Ok w) (ld : f.data.len ≤ 1048576) (lr : f.ranges.len ≤ 1048576) :
    Calls Tryz.prog 10 #[.agg f.cells] w fun e w' => ∃ g1 g2, e = .returned (.agg (f.twin g1 g2).cells) ∧ TwD w.heap.size w' g1 f.data ∧ TwG w.heap.size w' g2 f.ranges ∧ Below w.heap.size w w' := by
  have HF := veil hf
  have HLD := veil ld
  have HLR := veil lr
  clear hf ld lr
  obtain ⟨w0, hw0⟩ : ∃ w0, w0 = (w.alloc (.cells f.cells 28)).alloc (.cells #[.int .u8 0, .int .u64 0, .int .u64 0, .int .u64 0, .int .u64 0, .bool false, .slice none 0 0, .slice none 0 0] 28) := ⟨_, rfl⟩
  have r0 : Row w0 w.heap.size 28 f.cells := by rw [hw0]; exact (Row.new _ _ _).alloc _
  have q0 : Row w0 (w.heap.size + 1) 28 #[.int .u8 0, .int .u64 0, .int .u64 0, .int .u64 0, .int .u64 0, .bool false, .slice none 0 0, .slice none 0 0] := by rw [hw0]; exact Row.new1 _ _ _ _
  have b0 : Below w.heap.size w w0 := by rw [hw0]; exact ((Below.refl _ w).alloc (Nat.le_refl _) _).alloc (by simp) _
  have hs0 : w0.heap.size = w.heap.size + 2 := by rw [hw0]; simp
  refine (callsIn_wide (n := 4)).1 ?_
  refine callsIn_of_wp Tryz.func10 rfl trivial ?_ rfl
  simp only [Tryz.ntmps10, List.size_toArray, List.length_cons, List.length_nil, Nat.reduceAdd, Nat.reduceSub, Array.replicate_succ, Array.replicate_zero, List.push_toArray, List.append_toArray, List.nil_append, List.cons_append]
  have HW0 := veil hw0
  clear hw0
  gi_wp2_with (with_reducible (show wpListIn _ _ _ _ _ (⟨_, Op.alloc 28, _, _, _, _⟩ :: _) _ _); refine alloc_rowIn rfl 28 rfl #[.int .u8 0, .int .u64 0, .int .u64 0, .int .u64 0, .int .u64 0, .bool false, .slice none 0 0, .slice none 0 0] (by kernel_rfl) ?_)
  rw [← HW0.out, World.size_alloc]
  refine wpIn_region_any (by kernel_rfl) ?_
  refine anyIn_store (w0 := w0) (valTF f w.heap.size) valTF_mono [3, 4, 5, 6, 7, 8, 9, 10, 11, 12, 13, 14, 15, 16, 17, 18, 19, 20, 21] depTF (by kernel_rfl) rfl (by decide) (by intro j hj; have : j < 19 := hj; simp [depTF]; omega) (by kernel_rfl) ((Below.refl _ _).drew)
    (fun _ U => Below w.heap.size w U ∧ ∃ g1 g2, Row U (w.heap.size + 1) 28 (f.twin g1 g2).cells ∧ TwD (w.heap.size + 2) U g1 f.data ∧ TwG (w.heap.size + 2) U g2 f.ranges) ?step ?last ?done
  case step =>
    intro x W i d hW hdi hdep
    have bW := b0.trans (hW.mono b0.size)
    have hsW := hW.size
    obtain ⟨c0, c1, c2, c3, c4, c5, c6, c7⟩ := fr_cells (r0.below hW r0.lt)
    match i, hdi, hdep with
    | 0, hdi, _ =>
      obtain rfl := Option.some.inj hdi
      exact OI_value rfl rfl (about_none (by intro c h; cases h)) (by intro c h; cases h) (.pointer (some ⟨w.heap.size, 0, none⟩)) W (by kernel_rfl) ⟨_, rfl, Below.refl _ _, rfl⟩
    | 1, hdi, hdep =>
      obtain rfl := Option.some.inj hdi
      rw [updV_self (show x 0 = _ from hdep 0 (by simp [depTF]))]
      exact OI_value rfl rfl (about_none (by intro c h; cases h)) (by intro c h; cases h) (.int .u8 (f.kind : Int)) W (run_cellF 25 _ ⟨w.heap.size, 0, none⟩ _ _ rfl (by kernel_rfl) Tryz.underlying25 rfl W c0) ⟨_, rfl, Below.refl _ _, rfl⟩
    | 2, hdi, _ =>
      obtain rfl := Option.some.inj hdi
      exact OI_value rfl rfl (about_none (by intro c h; cases h)) (by intro c h; cases h) (.pointer (some ⟨w.heap.size, 1, none⟩)) W (by kernel_rfl) ⟨_, rfl, Below.refl _ _, rfl⟩
    | 3, hdi, hdep =>
      obtain rfl := Option.some.inj hdi
      rw [updV_self (show x 2 = _ from hdep 2 (by simp [depTF]))]
      exact OI_value rfl rfl (about_none (by intro c h; cases h)) (by intro c h; cases h) (.int .u64 (f.stream : Int)) W (run_cellF 22 _ ⟨w.heap.size, 1, none⟩ _ _ rfl (by kernel_rfl) Tryz.underlying22 rfl W c1) ⟨_, rfl, Below.refl _ _, rfl⟩
    | 4, hdi, _ =>
      obtain rfl := Option.some.inj hdi
      exact OI_value rfl rfl (about_none (by intro c h; cases h)) (by intro c h; cases h) (.pointer (some ⟨w.heap.size, 2, none⟩)) W (by kernel_rfl) ⟨_, rfl, Below.refl _ _, rfl⟩
    | 5, hdi, hdep =>
      obtain rfl := Option.some.inj hdi
      rw [updV_self (show x 4 = _ from hdep 4 (by simp [depTF]))]
      exact OI_value rfl rfl (about_none (by intro c h; cases h)) (by intro c h; cases h) (.int .u64 (f.offset : Int)) W (run_cellF 22 _ ⟨w.heap.size, 2, none⟩ _ _ rfl (by kernel_rfl) Tryz.underlying22 rfl W c2) ⟨_, rfl, Below.refl _ _, rfl⟩
    | 6, hdi, _ =>
      obtain rfl := Option.some.inj hdi
      exact OI_value rfl rfl (about_none (by intro c h; cases h)) (by intro c h; cases h) (.pointer (some ⟨w.heap.size, 3, none⟩)) W (by kernel_rfl) ⟨_, rfl, Below.refl _ _, rfl⟩
    | 7, hdi, hdep =>
      obtain rfl := Option.some.inj hdi
      rw [updV_self (show x 6 = _ from hdep 6 (by simp [depTF]))]
      exact OI_value rfl rfl (about_none (by intro c h; cases h)) (by intro c h; cases h) (.int .u64 (f.limit : Int)) W (run_cellF 22 _ ⟨w.heap.size, 3, none⟩ _ _ rfl (by kernel_rfl) Tryz.underlying22 rfl W c3) ⟨_, rfl, Below.refl _ _, rfl⟩
    | 8, hdi, _ =>
      obtain rfl := Option.some.inj hdi
      exact OI_value rfl rfl (about_none (by intro c h; cases h)) (by intro c h; cases h) (.pointer (some ⟨w.heap.size, 4, none⟩)) W (by kernel_rfl) ⟨_, rfl, Below.refl _ _, rfl⟩
    | 9, hdi, hdep =>
      obtain rfl := Option.some.inj hdi
      rw [updV_self (show x 8 = _ from hdep 8 (by simp [depTF]))]
      exact OI_value rfl rfl (about_none (by intro c h; cases h)) (by intro c h; cases h) (.int .u64 (f.code : Int)) W (run_cellF 22 _ ⟨w.heap.size, 4, none⟩ _ _ rfl (by kernel_rfl) Tryz.underlying22 rfl W c4) ⟨_, rfl, Below.refl _ _, rfl⟩
    | 10, hdi, _ =>
      obtain rfl := Option.some.inj hdi
      exact OI_value rfl rfl (about_none (by intro c h; cases h)) (by intro c h; cases h) (.pointer (some ⟨w.heap.size, 5, none⟩)) W (by kernel_rfl) ⟨_, rfl, Below.refl _ _, rfl⟩
    | 11, hdi, hdep =>
      obtain rfl := Option.some.inj hdi
      rw [updV_self (show x 10 = _ from hdep 10 (by simp [depTF]))]
      exact OI_value rfl rfl (about_none (by intro c h; cases h)) (by intro c h; cases h) (.bool f.fin) W (run_cellF 4 _ ⟨w.heap.size, 5, none⟩ _ _ rfl (by kernel_rfl) Tryz.underlying4 rfl W c5) ⟨_, rfl, Below.refl _ _, rfl⟩
    | 12, hdi, _ =>
      obtain rfl := Option.some.inj hdi
      exact OI_value rfl rfl (about_none (by intro c h; cases h)) (by intro c h; cases h) (.pointer (some ⟨w.heap.size, 6, none⟩)) W (by kernel_rfl) ⟨_, rfl, Below.refl _ _, rfl⟩
    | 13, hdi, hdep =>
      obtain rfl := Option.some.inj hdi
      rw [updV_self (show x 12 = _ from hdep 12 (by simp [depTF]))]
      exact OI_value rfl rfl (about_none (by intro c h; cases h)) (by intro c h; cases h) (.slice f.data.a f.data.len f.data.cap) W (run_cellF 24 _ ⟨w.heap.size, 6, none⟩ _ _ rfl (by kernel_rfl) Tryz.underlying24 rfl W c6) ⟨_, rfl, Below.refl _ _, rfl⟩
    | 14, hdi, hdep =>
      obtain rfl := Option.some.inj hdi
      rw [updV_self (show x 13 = _ from hdep 13 (by simp [depTF]))]
      refine OI_call rfl rfl (by intro c h; cases h) 11 #[.slice f.data.a f.data.len f.data.cap] (fun _ _ => trivial) (by kernel_rfl) (by decide) ?_
      refine (callsIn_wide.2 (twb_own f.data W (HF.out.data.below bW) HLD.out)).mono ?_
      rintro e w' ⟨g, rfl, ht, hb'⟩
      exact ⟨_, rfl, _, rfl, hb', ⟨g, rfl, ht.low (by omega)⟩⟩
    | 15, hdi, _ =>
      obtain rfl := Option.some.inj hdi
      exact OI_value rfl rfl (about_none (by intro c h; cases h)) (by intro c h; cases h) (.pointer (some ⟨w.heap.size, 7, none⟩)) W (by kernel_rfl) ⟨_, rfl, Below.refl _ _, rfl⟩
    | 16, hdi, hdep =>
      obtain rfl := Option.some.inj hdi
      rw [updV_self (show x 15 = _ from hdep 15 (by simp [depTF]))]
      exact OI_value rfl rfl (about_none (by intro c h; cases h)) (by intro c h; cases h) (.slice f.ranges.a f.ranges.len f.ranges.cap) W (run_cellF 26 _ ⟨w.heap.size, 7, none⟩ _ _ rfl (by kernel_rfl) Tryz.underlying26 rfl W c7) ⟨_, rfl, Below.refl _ _, rfl⟩
    | 17, hdi, hdep =>
      obtain rfl := Option.some.inj hdi
      rw [updV_self (show x 16 = _ from hdep 16 (by simp [depTF]))]
      refine OI_call rfl rfl (by intro c h; cases h) 35 #[.slice f.ranges.a f.ranges.len f.ranges.cap] (fun _ _ => trivial) (by kernel_rfl) (by decide) ?_
      refine (callsIn_wide.2 (twr_own f.ranges W (HF.out.ranges.below bW) HLR.out)).mono ?_
      rintro e w' ⟨g, rfl, ht, hb'⟩
      exact ⟨_, rfl, _, rfl, hb', ⟨g, rfl, ht.low (by omega)⟩⟩
    | 18, hdi, hdep =>
      obtain rfl := Option.some.inj hdi
      obtain ⟨g1, e1, t1⟩ := hdep 14 (by simp [depTF])
      obtain ⟨g2, e2, t2⟩ := hdep 17 (by simp [depTF])
      rw [updV_self (show x 1 = _ from hdep 1 (by simp [depTF])), updV_self (show (updV x 1 _) 3 = _ from hdep 3 (by simp [depTF])), updV_self (show (updV (updV x 1 _) 3 _) 5 = _ from hdep 5 (by simp [depTF])), updV_self (show (updV (updV (updV x 1 _) 3 _) 5 _) 7 = _ from hdep 7 (by simp [depTF])), updV_self (show (updV (updV (updV (updV x 1 _) 3 _) 5 _) 7 _) 9 = _ from hdep 9 (by simp [depTF])), updV_self (show (updV (updV (updV (updV (updV x 1 _) 3 _) 5 _) 7 _) 9 _) 11 = _ from hdep 11 (by simp [depTF])), updV_self (show (updV (updV (updV (updV (updV (updV x 1 _) 3 _) 5 _) 7 _) 9 _) 11 _) 14 = _ from e1), updV_self (show (updV (updV (updV (updV (updV (updV (updV x 1 _) 3 _) 5 _) 7 _) 9 _) 11 _) 14 _) 17 = _ from e2)]
      exact OI_value rfl rfl (about_none (by intro c h; cases h)) (by intro c h; cases h) (.agg (f.twin g1 g2).cells) W (by kernel_rfl) ⟨_, rfl, Below.refl _ _, ⟨g1, g2, rfl, t1, t2⟩⟩
    | _ + 19, hdi, _ => simp at hdi
  case last =>
    intro x U hU hx
    obtain ⟨g1, g2, e9, t1, t2⟩ := hx 18 (by decide)
    have rU := q0.below hU q0.lt
    have l1 := t1.ge
    have l2 := t2.ge
    rw [updV_self e9]
    refine OI_skip rfl rfl (about_none (by intro c h; cases h)) (by intro c h; cases h) (U.setRow (w.heap.size + 1) (f.twin g1 g2).cells) (run_store_row 28 _ _ rfl (w.heap.size + 1) (f.twin g1 g2).cells (by kernel_rfl) (by kernel_rfl) _ _ rU 8 (by kernel_rfl) rfl rfl (by simp [FrM.cells, Value.oneCell'])) ?_
    exact ⟨by kernel_rfl, bSetRow (b0.trans (hU.mono b0.size)) (by omega) _, g1, g2, rU.put _, t1.setRow (by omega) _, t2.setRow (by omega) _⟩
  case done =>
    rintro x U ⟨bU, g1, g2, rU, t1, t2⟩
    simp only [putsV, Act.put, List.setIfInBounds_toArray, List.set_cons_succ, List.set_cons_zero, Nat.reduceAdd]
    gi_wp2_with fail
    exact bodyPost_ret (results_cell_row rfl _ _ (w.heap.size + 1) 28 _ (0, 0) _ rfl rU Tryz.underlying28 rfl (by kernel_rfl)) rfl ⟨g1, g2, rfl, t1.low (by omega), t2.low (by omega), bU⟩
end Go.Proofs.YtehadfidenejdaaGreatDoor

/-! What the statements' helper LeftFrame answers of a copy that is kept. -/
namespace Go.Proofs.YtehadfidenejdaaGreatDoor
open Go Go.RowKit

set_option maxRecDepth 20000 in
set_option maxHeartbeats 1000000 in
theorem left_fr (f : FrM) (g1 g2 : Nat) (w : World) (hf : f.Ok w) (ld : f.data.len ≤ 1048576) (lr : f.ranges.len ≤ 1048576) (t1 : Twin w g1 f.data.b) (t2 : TwinR w g2 f.ranges.l) :
    Calls Tryz.prog 27 #[.agg (f.twin g1 g2).cells, .agg f.cells] w fun e w' => e = .returned (.bool true) ∧ Below w.heap.size w w' := by
  obtain ⟨W0, hW0⟩ : ∃ W, W = (w.alloc (.cells (f.twin g1 g2).cells 28)).alloc (.cells f.cells 28) := ⟨_, rfl⟩
  have r0 : Row W0 w.heap.size 28 (f.twin g1 g2).cells := by rw [hW0]; exact (Row.new _ _ _).alloc _
  have q0 : Row W0 (w.heap.size + 1) 28 f.cells := by rw [hW0]; exact Row.new1 _ _ _ _
  have b0 : Below w.heap.size w W0 := by rw [hW0]; exact ((Below.refl _ w).alloc (Nat.le_refl _) _).alloc (by simp) _
  have HF := veil hf
  have HLD := veil ld
  have HLR := veil lr
  have T1 := veil t1
  have T2 := veil t2
  clear hf ld lr t1 t2
  obtain ⟨x0, x1, x2, x3, x4, x5, x6, x7⟩ := fr_cells r0
  obtain ⟨c0, c1, c2, c3, c4, c5, c6, c7⟩ := fr_cells q0
  simp only [FrM.twin, twinS, twinRS] at x0 x1 x2 x3 x4 x5 x6 x7
  rw [hW0] at x0 x1 x2 x3 x4 x5 x6 x7 c0 c1 c2 c3 c4 c5 c6 c7
  have HR := veil r0
  have HQ := veil q0
  have HB0 := veil b0
  have hlr := r0.lt
  have hlq := q0.lt
  clear r0 q0 b0
  have e0 : ((f.kind : Int) == (f.kind : Int)) = true := by simp
  have e1 : ((f.stream : Int) == (f.stream : Int)) = true := by simp
  have e2 : ((f.offset : Int) == (f.offset : Int)) = true := by simp
  have e3 : ((f.limit : Int) == (f.limit : Int)) = true := by simp
  have e4 : ((f.code : Int) == (f.code : Int)) = true := by simp
  have e5 : (f.fin == f.fin) = true := by simp
  go_enter Tryz.func27, Tryz.ntmps27
  go_wp2_with fail
  rw [← hW0]
  refine (left_sl f.data g1 W0 (HF.out.data.below HB0.out) (by have := HLD.out; omega) (T1.out.below HB0.out)).mono ?_
  rintro e1 w1 ⟨rfl, hb1⟩
  have b1 := HB0.out.trans (hb1.mono HB0.out.size)
  have r1 := HR.out.below hb1 hlr
  have q1 := HQ.out.below hb1 hlq
  clear hb1 x0 x1 x2 x3 x4 x5 x6 x7 c0 c1 c2 c3 c4 c5 c6 c7
  obtain ⟨_, _, _, _, _, _, _, x7⟩ := fr_cells r1
  obtain ⟨_, _, _, _, _, _, _, c7⟩ := fr_cells q1
  simp only [FrM.twin, twinRS] at x7
  have HB1 := veil b1
  clear r1 q1 b1
  go_wp2_with fail
  refine (left_rl f.ranges g2 w1 (HF.out.ranges.below HB1.out) HLR.out (T2.out.below HB1.out)).mono ?_
  rintro e2 w2 ⟨rfl, hb2⟩
  have b2 := HB1.out.trans (hb2.mono HB1.out.size)
  clear hb2
  go_wp2_with fail
  go_ret
  exact ⟨rfl, b2⟩
end Go.Proofs.YtehadfidenejdaaGreatDoor

/-! What SameRanges answers. -/
namespace Go.Proofs.YtehadfidenejdaaGreatDoor
open Go Go.RowKit

set_option maxRecDepth 20000 in
set_option maxHeartbeats 1000000 in
theorem same_rl (p q : RL) (w : World) (hp : p.Ok w) (hq : q.Ok w) (hb : p.l = q.l) (hl : p.len ≤ 8388608) :
    Calls Tryz.prog 42 #[.slice p.a p.len p.cap, .slice q.a q.len q.cap] w fun e w' => e = .returned (.bool true) ∧ Below w.heap.size w w' := by
  have hpq : p.len = q.len := by rw [← hp.hb, ← hq.hb, hb]
  obtain ⟨pa, pl, pc, pg, po, pb⟩ := p
  obtain ⟨qa, ql, qc, qg, qo, qb⟩ := q
  simp only at hb hpq hl ⊢
  subst hb hpq
  have HP := veil hp
  have HQ := veil hq
  clear hp hq
  have h1 : ((pl : Int) != (pl : Int)) = false := by simp
  go_enter Tryz.func42, Tryz.ntmps42
  go_wp2
  go_loopw [5] (fun i wr => ∃ k : Nat, k ≤ pl ∧ i = .int .i64 k ∧ Below w.heap.size w wr)
    (fun i _ => pl - (intOf i).toNat)
  case atStart => exact ⟨0, Nat.zero_le _, rfl, Below.refl _ _⟩
  case round =>
    obtain ⟨k, hk, rfl, hbel⟩ := hrel
    by_cases hlt : k < pl
    · have e1 : pa = some ⟨pg, po, none⟩ := HP.out.at_ (show 0 < pl by omega)
      have e2 : qa = some ⟨qg, qo, none⟩ := HQ.out.at_ (show 0 < pl by omega)
      subst e1 e2
      obtain ⟨c1, c2⟩ := (HP.out.below hbel).cell k hlt
      obtain ⟨c3, c4⟩ := (HQ.out.below hbel).cell k hlt
      simp only at c1 c2 c3 c4
      generalize ((gr pb k).1 : Int) = y at *
      generalize ((gr pb k).2 : Int) = z at *
      go_wp2
      go_quiet (fail)
      go_wp2
      go_roundw
      case rel => exact ⟨k + 1, by omega, by go_num, below_drewN hbel _⟩
      case measure => simp [intOf]; omega
    · obtain rfl : pl = k := by omega
      go_wp2
      go_ret
      exact ⟨rfl, hbel⟩

end Go.Proofs.YtehadfidenejdaaGreatDoor

/-! What SameRanges and SameFrame answer. -/
namespace Go.Proofs.YtehadfidenejdaaGreatDoor
open Go Go.RowKit

set_option maxRecDepth 20000 in
set_option maxHeartbeats 1000000 in
theorem same_frame (p q : FrM) (w : World) (hp : p.Ok w) (hq : q.Ok w) (hb : p.fr = q.fr) (hl : p.data.len ≤ 8388608) (hr : p.ranges.len ≤ 8388608) :
    Calls Tryz.prog 17 #[.agg p.cells, .agg q.cells] w fun e w' => e = .returned (.bool true) ∧ Below w.heap.size w w' := by
  obtain ⟨pk, ps, po, pl, pc, pf, pd, pr⟩ := p
  obtain ⟨qk, qs, qo, ql, qc, qf, qd, qr⟩ := q
  simp only [FrM.fr, Fr.Frame.mk.injEq] at hb
  obtain ⟨rfl, rfl, rfl, rfl, rfl, rfl, e6, e7⟩ := hb
  have r0 : Row ((w.alloc (.cells (FrM.mk pk ps po pl pc pf pd pr).cells 28)).alloc (.cells (FrM.mk pk ps po pl pc pf qd qr).cells 28)) w.heap.size 28 (FrM.mk pk ps po pl pc pf pd pr).cells := (Row.new _ _ _).alloc _
  have q0 : Row ((w.alloc (.cells (FrM.mk pk ps po pl pc pf pd pr).cells 28)).alloc (.cells (FrM.mk pk ps po pl pc pf qd qr).cells 28)) (w.heap.size + 1) 28 (FrM.mk pk ps po pl pc pf qd qr).cells := Row.new1 _ _ _ _
  have b0 : Below w.heap.size w ((w.alloc (.cells (FrM.mk pk ps po pl pc pf pd pr).cells 28)).alloc (.cells (FrM.mk pk ps po pl pc pf qd qr).cells 28)) := ((Below.refl _ w).alloc (Nat.le_refl _) _).alloc (by simp) _
  obtain ⟨c0, c1, c2, c3, c4, c5, c6, c7⟩ := fr_cells r0
  obtain ⟨x0, x1, x2, x3, x4, x5, x6, x7⟩ := fr_cells q0
  simp only at c0 c1 c2 c3 c4 c5 c6 c7 x0 x1 x2 x3 x4 x5 x6 x7
  have s0 : ((pk : Int) == (pk : Int)) = true := by simp
  have s1 : ((ps : Int) == (ps : Int)) = true := by simp
  have s2 : ((po : Int) == (po : Int)) = true := by simp
  have s3 : ((pl : Int) == (pl : Int)) = true := by simp
  have s4 : ((pc : Int) == (pc : Int)) = true := by simp
  have s5 : (pf == pf) = true := by simp
  have HP := veil hp
  have HQ := veil hq
  have HR0 := veil r0
  have HQ0 := veil q0
  have HB0 := veil b0
  have hl0 := r0.lt
  have hl1 := q0.lt
  have HL := veil hl
  have HRL := veil hr
  clear hp hq r0 q0 b0 hl hr
  go_enter Tryz.func17, Tryz.ntmps17
  go_wp2_with fail
  refine (same_sl pd qd _ (HP.out.data.below HB0.out) (HQ.out.data.below HB0.out) e6 HL.out).mono ?_
  rintro e1 w1 ⟨rfl, hb1⟩
  have b1 := HB0.out.trans (hb1.mono HB0.out.size)
  have c7' := (fr_cells (HR0.out.below hb1 hl0)).2.2.2.2.2.2.2
  have x7' := (fr_cells (HQ0.out.below hb1 hl1)).2.2.2.2.2.2.2
  simp only at c7' x7'
  clear hb1 c0 c1 c2 c3 c4 c5 c6 c7 x0 x1 x2 x3 x4 x5 x6 x7
  go_wp2_with fail
  refine (same_rl pr qr w1 (HP.out.ranges.below b1) (HQ.out.ranges.below b1) e7 HRL.out).mono ?_
  rintro e2 w2 ⟨rfl, hb2⟩
  have b2 := b1.trans (hb2.mono b1.size)
  clear hb2
  go_wp2_with fail
  go_ret
  exact ⟨rfl, b2⟩
end Go.Proofs.YtehadfidenejdaaGreatDoor

/-! What StreamPlays keeps in memory: two senders, the book, the frames that were taken; each in a zone of its own. -/
namespace Go.Proofs.YtehadfidenejdaaGreatDoor
open Go Go.RowKit

namespace Sr
open Sd
/-- The cells of a list of frames. -/
def frs : List FrM → List Value
  | [] => []
  | f :: l => f.cells.toList ++ frs l
theorem frs_append : ∀ (l m : List FrM), frs (l ++ m) = frs l ++ frs m
  | [], m => rfl
  | x :: l, m => by
    show x.cells.toList ++ frs (l ++ m) = _
    rw [frs_append l m, ← List.append_assoc]
    rfl
theorem frs_one : ∀ (l : List FrM), ∀ u ∈ frs l, u.oneCell' = true
  | [], u, hu => by cases hu
  | x :: l, u, hu => by
    rcases List.mem_append.1 hu with h | h
    · simp [FrM.cells] at h
      rcases h with rfl | rfl | rfl | rfl | rfl | rfl | rfl | rfl <;> rfl
    · exact frs_one l u h
theorem frs_get : ∀ (l : List FrM) (j : Nat) (x : FrM) (i : Nat), l[j]? = some x → i < 8 → (frs l)[j * 8 + i]? = x.cells.toList[i]?
  | [], j, x, i, h, _ => by simp at h
  | y :: l, 0, x, i, h, hi => by
    simp at h
    subst h
    show (y.cells.toList ++ frs l)[0 * 8 + i]? = _
    rw [List.getElem?_append_left (by show 0 * 8 + i < 8; omega), show 0 * 8 + i = i by omega]
  | y :: l, j + 1, x, i, h, hi => by
    rw [List.getElem?_cons_succ] at h
    show (y.cells.toList ++ frs l)[(j + 1) * 8 + i]? = _
    rw [List.getElem?_append_right (by show 8 ≤ _; omega), show (j + 1) * 8 + i - y.cells.toList.length = j * 8 + i by show (j + 1) * 8 + i - 8 = _; omega]
    exact frs_get l j x i h hi
theorem Tryz.infoFrameP : (Tryz.prog.info? 28).map (fun i => (i.zero, i.size, i.bytes)) = some (some (.agg fr0), 8, 96) := by kernel_rfl
theorem frP_info : ∃ i0, Tryz.prog.info? 28 = some i0 ∧ i0.zero = some (.agg fr0) ∧ i0.size = 8 ∧ i0.bytes = 96 := by
  have h := Tryz.infoFrameP
  cases hq : Tryz.prog.info? 28 with
  | none => rw [hq] at h; cases h
  | some i =>
    rw [hq] at h
    simp only [Option.map_some, Option.some.injEq, Prod.mk.injEq] at h
    exact ⟨i, rfl, h.1, h.2.1, h.2.2⟩
theorem frs_append_run (w : World) (ty : TypeId) (v : Value) (l : List FrM) (x : FrM) (b : Nat) (h : RowO w 28 8 v l.length (frs l)) (hr : Row w b 28 x.cells) (hl : l.length ≤ 100000) :
    ∃ v' w', (Builtin.append_ #[55, 55] ty #[v, .slice (some ⟨b, 0, none⟩) 1 1]).run Tryz.prog w = .ok v' w' ∧ RowO w' 28 8 v' (l ++ [x]).length (frs (l ++ [x])) ∧
      (v'.ownBlock = v.ownBlock ∧ v.ownBlock ≠ none ∧ w.grownBy w' v.ownBlock ∨ w.grownBy w' none ∧ (∀ k, v'.ownBlock = some k → k = w.heap.size)) := by
  obtain ⟨i0, h1, h2, h3, h4⟩ := frP_info
  rw [List.length_append, List.length_singleton, frs_append]
  refine run_append_O (P := Tryz.prog) w 55 ty 28 i0 _ 8 96 Tryz.underlying55 h1 h2 h3 h4 rfl (by decide) v l.length (frs l) h ⟨b, 0, none⟩ 1 1 (frs [x]) rfl ?_ (frs_one _) (by unfold maxLen; omega) (by omega)
  intro j u hu
  rw [Addr.add_mid, Nat.zero_add]
  have hj : j < 8 := by
    have := (List.getElem?_eq_some_iff.1 hu).1
    exact this
  have h5 := frs_get [x] 0 x j rfl hj
  rw [Nat.zero_mul, Nat.zero_add] at h5
  rw [h5] at hu
  rw [← hu]
  have h6 := cell_of_row w b j x.cells 28 (0, 0) hr
  rw [h6]
  simp
theorem keep_appP {v : Value} {A B : World} (h : v.ownBlock ≠ none ∧ A.grownBy B v.ownBlock ∨ A.grownBy B none) : KeepP (fun k => v.ownBlock = some k) A B := by
  rcases h with ⟨_, h⟩ | h
  · exact ⟨h.os, h.tape, h.output, h.size, fun k hk hs => h.block k hk (fun e => hs e.symm)⟩
  · exact ⟨h.os, h.tape, h.output, h.size, fun k hk _ => h.block k hk (by simp)⟩
/-- A row of bytes as a slice of bytes. -/
theorem sl_rowO {w : World} {v : Value} {n : Nat} {b : List By} (h : RowO w 5 1 v n (vb b)) (hb : b.length = n) : ∃ s : SL, v = .slice s.a s.len s.cap ∧ s.len = n ∧ s.b = b ∧ s.Ok w ∧ (0 < s.len → v.ownBlock = some s.g) := by
  obtain ⟨a, cap, rfl, hc, hm⟩ := h.shape
  rcases h.2 with ⟨e, e2⟩ | ⟨g, o, cap', cur, e, hh, _⟩
  · injection e with e1 e3 e4
    subst e1 e4
    exact ⟨⟨none, n, 0, 0, 0, b⟩, rfl, rfl, rfl, ⟨hb, hc, fun _ => ⟨e2, rfl⟩, fun p => absurd (show 0 < n from p) (by omega), fun p => absurd (show 0 < n from p) (by omega), fun j p => absurd (show j < n from p) (by omega)⟩, fun p => absurd (show 0 < n from p) (by omega)⟩
  · injection e with e1 e3 e4
    subst e1 e4
    refine ⟨⟨some ⟨g, o, none⟩, n, cap, g, o, b⟩, rfl, rfl, rfl, ⟨hb, hc, (fun e => by cases e), fun _ => rfl, fun _ => h.lt g rfl, fun j hj => ?_⟩, fun _ => rfl⟩
    have hj' : j < n := hj
    obtain ⟨g', o', e5, h6⟩ := h.cells j _ (vb_get b j (by omega))
    injection e5 with e5
    injection e5 with e5 e6
    rw [← e5, ← e6] at h6
    exact h6

/-- Zones of blocks behind a world, apart from each other. -/
structure Zs (w W : World) (z : Nat → Nat → Prop) : Prop where
  bel : Below w.heap.size w W
  lo : ∀ i k, z i k → w.heap.size ≤ k
  lt : ∀ i k, z i k → k < W.heap.size
  ap : ∀ i j k, z i k → z j k → i = j
def zset (z : Nat → Nat → Prop) (i : Nat) (o : Nat → Prop) : Nat → Nat → Prop := fun j => if j = i then o else z j
theorem zset_self (z : Nat → Nat → Prop) (i : Nat) (o : Nat → Prop) : zset z i o i = o := by unfold zset; rw [if_pos rfl]
theorem zset_ne (z : Nat → Nat → Prop) {i j : Nat} (o : Nat → Prop) (h : j ≠ i) : zset z i o j = z j := by unfold zset; rw [if_neg h]
section
variable {w W W' : World} {z z' : Nat → Nat → Prop} {i : Nat} {o o' : Nat → Prop}
theorem Zs.size (x : Zs w W z) : w.heap.size ≤ W.heap.size := x.bel.size
theorem Zs.below (x : Zs w W z) (hb : Below W.heap.size W W') : Zs w W' z := ⟨x.bel.trans (hb.mono x.bel.size), x.lo, fun i k e => Nat.lt_of_lt_of_le (x.lt i k e) hb.size, x.ap⟩
theorem Zs.step (x : Zs w W z) (a : After (z i) W W' o') (b : ∀ k, o' k → k < W'.heap.size) : Zs w W' (zset z i o') := by
  have sz := x.bel.size
  refine ⟨x.bel.trans (a.1.below (x.lo i) sz), fun j k e => ?_, fun j k e => ?_, fun j l k e f => ?_⟩
  · by_cases c : j = i
    · subst c; rw [zset_self] at e; exact (a.2 k e).elim (x.lo j k) (fun q => Nat.le_trans sz q)
    · rw [zset_ne z o' c] at e; exact x.lo j k e
  · by_cases c : j = i
    · subst c; rw [zset_self] at e; exact b k e
    · rw [zset_ne z o' c] at e; exact Nat.lt_of_lt_of_le (x.lt j k e) a.1.size
  · by_cases c : j = i <;> by_cases d : l = i
    · rw [c, d]
    · subst c
      rw [zset_self] at e
      rw [zset_ne z o' d] at f
      rcases a.2 k e with q | q
      · exact x.ap _ _ k q f
      · have := x.lt l k f; omega
    · subst d
      rw [zset_self] at f
      rw [zset_ne z o' c] at e
      rcases a.2 k f with q | q
      · exact x.ap _ _ k e q
      · have := x.lt j k e; omega
    · rw [zset_ne z o' c] at e
      rw [zset_ne z o' d] at f
      exact x.ap j l k e f
/-- Blocks that lie in no other zone are put into one. -/
theorem Zs.put (x : Zs w W z) (i : Nat) (o : Nat → Prop) (h : ∀ k, o k → w.heap.size ≤ k ∧ k < W.heap.size ∧ ∀ j, j ≠ i → ¬ z j k) : Zs w W (zset z i o) := by
  refine ⟨x.bel, fun j k e => ?_, fun j k e => ?_, fun j l k e f => ?_⟩
  · by_cases c : j = i
    · subst c; rw [zset_self] at e; exact (h k e).1
    · rw [zset_ne z o c] at e; exact x.lo j k e
  · by_cases c : j = i
    · subst c; rw [zset_self] at e; exact (h k e).2.1
    · rw [zset_ne z o c] at e; exact x.lt j k e
  · by_cases c : j = i <;> by_cases d : l = i
    · rw [c, d]
    · subst c
      rw [zset_self] at e
      rw [zset_ne z o d] at f
      exact absurd f ((h k e).2.2 l d)
    · subst d
      rw [zset_self] at f
      rw [zset_ne z o c] at e
      exact absurd e ((h k f).2.2 j c)
    · rw [zset_ne z o c] at e
      rw [zset_ne z o d] at f
      exact x.ap j l k e f
theorem Zs.drop (x : Zs w W z) (i : Nat) : Zs w W (zset z i (fun _ => False)) := x.put i _ (fun _ e => e.elim)
/-- Blocks that are new are added to a zone. -/
theorem Zs.add (x : Zs w W z) (hb : Below W.heap.size W W') (i : Nat) (o : Nat → Prop) (h : ∀ k, o k → W.heap.size ≤ k ∧ k < W'.heap.size) : Zs w W' (zset z i (fun k => z i k ∨ o k)) :=
  x.step (i := i) ⟨KeepP.of_below hb, fun k e => e.imp id (fun q => (h k q).1)⟩ (fun k e => e.elim (fun q => Nat.lt_of_lt_of_le (x.lt i k q) hb.size) (fun q => (h k q).2))
end
/-- A frame that was taken. -/
structure TkF (z : Nat → Prop) (W : World) (f : FrM) : Prop where
  ok : f.Ok W
  nil : f.ranges.len = 0
  len : f.data.len ≤ 1048576
  zo : 0 < f.data.len → z f.data.g
theorem TkF.keep {z z' st : Nat → Prop} {W W' : World} {f : FrM} (x : TkF z W f) (k : KeepP st W W') (h1 : ∀ k, z k → ¬ st k) (h2 : ∀ k, z k → z' k) : TkF z' W' f :=
  ⟨⟨sl_keepP x.ok.data k (fun p => h1 _ (x.zo p)), x.ok.ranges.same (fun p => absurd p (by rw [x.nil]; decide)) k.size, x.ok.k8, x.ok.st, x.ok.of, x.ok.li, x.ok.co⟩, x.nil, x.len, fun p => h2 _ (x.zo p)⟩
/-- All that stands between the steps. Zones: 0 the program's sender, 1 the document's, 2 the book, 3 the list of frames, 4 the data of its frames, 5 the variables of a round, 6 and 7 what is new. -/
structure SpI (w W : World) (g h B nn : Nat) (s t : Snd) (v : Value) (l : List FrM) (z : Nat → Nat → Prop) : Prop where
  zs : Zs w W z
  sn : SnS W g s (z 0)
  rf : RfS W h t (z 1)
  bk : Bw.BwBR w.heap.size B nn (z 2) W
  tk : RowO W 28 8 v l.length (frs l)
  tv : ∀ k, v.ownBlock = some k → z 3 k
  fr : ∀ f ∈ l, TkF (z 4) W f
section
variable {w W W' : World} {g h B nn nn' : Nat} {s s' t t' : Snd} {v v' : Value} {l : List FrM} {z z' : Nat → Nat → Prop} {o' : Nat → Prop}
theorem SpI.below (x : SpI w W g h B nn s t v l z) (hb : Below W.heap.size W W') : SpI w W' g h B nn s t v l z :=
  ⟨x.zs.below hb, x.sn.below hb, x.rf.below hb, x.bk.below hb, x.tk.below hb, x.tv, fun f hf => (x.fr f hf).keep (KeepP.of_below (st := fun _ => False) hb) (fun _ _ q => q) (fun _ q => q)⟩
/-- Only zones that stand for nothing here were changed. -/
theorem SpI.zone (x : SpI w W g h B nn s t v l z) (zs : Zs w W z') (e : ∀ i, i < 5 → z' i = z i) : SpI w W g h B nn s t v l z' :=
  ⟨zs, by rw [e 0 (by decide)]; exact x.sn, by rw [e 1 (by decide)]; exact x.rf, by rw [e 2 (by decide)]; exact x.bk, x.tk, by rw [e 3 (by decide)]; exact x.tv, by rw [e 4 (by decide)]; exact x.fr⟩
theorem SpI.snd (x : SpI w W g h B nn s t v l z) (h1 : SnS W' g s' o') (a : After (z 0) W W' o') : SpI w W' g h B nn s' t v l (zset z 0 o') := by
  have no : ∀ i k, i ≠ 0 → z i k → ¬ z 0 k := fun i k c e f => c (x.zs.ap i 0 k e f)
  refine ⟨x.zs.step a (snS_lt h1), by rw [zset_self]; exact h1, by rw [zset_ne _ _ (by decide)]; exact x.rf.keep a.1 (fun k e => no 1 k (by decide) e), by rw [zset_ne _ _ (by decide)]; exact x.bk.keep a.1 (fun k e => no 2 k (by decide) e), x.tk.same (fun k e => a.1.block k (x.tk.lt k e) (no 3 k (by decide) (x.tv k e))), by rw [zset_ne _ _ (by decide)]; exact x.tv, fun f hf => ?_⟩
  rw [zset_ne _ _ (by decide)]
  exact (x.fr f hf).keep a.1 (fun k e => no 4 k (by decide) e) (fun _ q => q)
theorem rfS_lt {W : World} {h : Nat} {t : Snd} {own : Nat → Prop} (x : RfS W h t own) : ∀ k, own k → k < W.heap.size := by
  obtain ⟨_, _, _, _, h3⟩ := x
  exact h3
theorem SpI.ref (x : SpI w W g h B nn s t v l z) (h1 : RfS W' h t' o') (a : After (z 1) W W' o') : SpI w W' g h B nn s t' v l (zset z 1 o') := by
  have no : ∀ i k, i ≠ 1 → z i k → ¬ z 1 k := fun i k c e f => c (x.zs.ap i 1 k e f)
  refine ⟨x.zs.step a (rfS_lt h1), by rw [zset_ne _ _ (by decide)]; exact x.sn.keep a.1 (fun k e => no 0 k (by decide) e), by rw [zset_self]; exact h1, by rw [zset_ne _ _ (by decide)]; exact x.bk.keep a.1 (fun k e => no 2 k (by decide) e), x.tk.same (fun k e => a.1.block k (x.tk.lt k e) (no 3 k (by decide) (x.tv k e))), by rw [zset_ne _ _ (by decide)]; exact x.tv, fun f hf => ?_⟩
  rw [zset_ne _ _ (by decide)]
  exact (x.fr f hf).keep a.1 (fun k e => no 4 k (by decide) e) (fun _ q => q)
end
end Sr
end Go.Proofs.YtehadfidenejdaaGreatDoor
