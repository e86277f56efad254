/-
  A sender of the program in memory.
-/
import Derived.Test.YtnlckmopgkabpaaGsSrMiss
import Derived.Test.YtnlckmopgkabpaaGsSrSnd
import Derived.Test.YtnlckmopgkabpaaGs1
namespace Go.Proofs.Ytnlckmopgkabpaa
open Go Go.RowKit

namespace Sr
open Sd
def snC (wr cm ls : Value) (s : Snd) : Array Value :=
  #[.bool true, .int .u64 (s.id : Int), .int .u64 (s.credit : Int), wr, .bool s.last, .int .u64 (sn s : Int), cm, ls, .bool s.reset]
structure SnOk (w : World) (g : Nat) (wr cm ls : Value) (s : Snd) (C L : List Rn) : Prop where
  row : Row w g 55 (snC wr cm ls s)
  wrow : RowO w 5 1 wr s.b.length (vb s.b)
  crow : RowO w 60 2 cm C.length (vr C)
  lrow : RowO w 60 2 ls L.length (vr L)
  cl : ∀ k, cm.ownBlock = some k → ls.ownBlock ≠ some k
  rep : Rep s C L
/-- A block's type. -/
def Ty (W : World) (b : Nat) (T : TypeId) : Prop := ∃ cur, W.heap[b]? = some (.cells cur T (0, 0))
theorem Ty.ne {W : World} {b b' : Nat} {T T' : TypeId} (h : Ty W b T) (h' : Ty W b' T') (n : T ≠ T') : b ≠ b' := by
  intro e
  subst e
  obtain ⟨c, h⟩ := h
  obtain ⟨c', h'⟩ := h'
  have := h.symm.trans h'
  injection this with this
  injection this with _ this
  exact n this
theorem Ty.row {w : World} {n z : Nat} {e : TypeId} {v : Value} {xs : List Value} (h : RowO w e z v n xs) {k : Nat} (hk : v.ownBlock = some k) : Ty w k e := by
  rcases h.2 with ⟨rfl, _⟩ | ⟨g, o, c, cur, rfl, h5, _⟩
  · cases hk
  · injection hk with hk
    subst hk
    exact ⟨cur, h5⟩
/-- The blocks of a sender. -/
def OwnS (g : Nat) (wr cm ls : Value) (k : Nat) : Prop := k = g ∨ wr.ownBlock = some k ∨ cm.ownBlock = some k ∨ ls.ownBlock = some k
theorem SnOk.lt {w : World} {g : Nat} {wr cm ls : Value} {s : Snd} {C L : List Rn} (h : SnOk w g wr cm ls s C L) : ∀ k, OwnS g wr cm ls k → k < w.heap.size := by
  rintro k (rfl | e | e | e)
  · exact h.row.lt
  · exact h.wrow.lt k e
  · exact h.crow.lt k e
  · exact h.lrow.lt k e
theorem SnOk.same {w w' : World} {g : Nat} {wr cm ls : Value} {s : Snd} {C L : List Rn} (h : SnOk w g wr cm ls s C L) (hk : ∀ k, OwnS g wr cm ls k → w'.heap[k]? = w.heap[k]?) : SnOk w' g wr cm ls s C L :=
  ⟨(hk g (.inl rfl)).trans h.row, h.wrow.same (fun k e => hk k (.inr (.inl e))), h.crow.same (fun k e => hk k (.inr (.inr (.inl e)))), h.lrow.same (fun k e => hk k (.inr (.inr (.inr e)))), h.cl, h.rep⟩
theorem SnOk.below {w w' : World} {g : Nat} {wr cm ls : Value} {s : Snd} {C L : List Rn} (h : SnOk w g wr cm ls s C L) (hb : Below w.heap.size w w') : SnOk w' g wr cm ls s C L :=
  h.same (fun k e => hb.block k (h.lt k e))
section
variable {w : World} {g : Nat} {wr cm ls : Value} {s : Snd} {C L : List Rn}
theorem SnOk.tw (h : SnOk w g wr cm ls s C L) {k : Nat} (e : wr.ownBlock = some k) : Ty w k 5 := Ty.row h.wrow e
theorem SnOk.tc (h : SnOk w g wr cm ls s C L) {k : Nat} (e : cm.ownBlock = some k) : Ty w k 60 := Ty.row h.crow e
theorem SnOk.tl (h : SnOk w g wr cm ls s C L) {k : Nat} (e : ls.ownBlock = some k) : Ty w k 60 := Ty.row h.lrow e
theorem SnOk.tg (h : SnOk w g wr cm ls s C L) : Ty w g 55 := ⟨_, h.row⟩
/-- A sender as it stands, and which blocks are its. -/
def SnS (w : World) (g : Nat) (s : Snd) (own : Nat → Prop) : Prop := ∃ wr cm ls C L, SnOk w g wr cm ls s C L ∧ (∀ k, OwnS g wr cm ls k → own k) ∧ (∀ k, own k → k < w.heap.size)
/-- What a call leaves: which blocks it may write, and which are the sender's then. -/
def After (own : Nat → Prop) (w w' : World) (own' : Nat → Prop) : Prop := KeepP own w w' ∧ ∀ k, own' k → own k ∨ w.heap.size ≤ k
theorem SnS.below {w w' : World} {own : Nat → Prop} (h : SnS w g s own) (hb : Below w.heap.size w w') : SnS w' g s own := by
  obtain ⟨wr, cm, ls, C, L, h1, h2, h3⟩ := h
  exact ⟨wr, cm, ls, C, L, h1.below hb, h2, fun k e => Nat.lt_of_lt_of_le (h3 k e) hb.size⟩
theorem SnS.keep {w w' : World} {own st : Nat → Prop} (h : SnS w g s own) (hk : KeepP st w w') (hs : ∀ k, own k → ¬ st k) : SnS w' g s own := by
  obtain ⟨wr, cm, ls, C, L, h1, h2, h3⟩ := h
  exact ⟨wr, cm, ls, C, L, h1.same (fun k e => hk.block k (h1.lt k e) (hs k (h2 k e))), h2, fun k e => Nat.lt_of_lt_of_le (h3 k e) hk.size⟩
theorem After.same {own : Nat → Prop} {w w' : World} (hb : Below w.heap.size w w') : After own w w' own := ⟨KeepP.of_below hb, fun _ h => .inl h⟩

theorem field_two (x y : Int) (W : World) : (Instr.field 60 (.agg #[.int .u64 x, .int .u64 y]) 1).run Try.prog W = .ok (.int .u64 y) W := by kernel_rfl
/-- Is there a sender. -/
theorem there_yes (h : SnOk w g wr cm ls s C L) : Calls Try.prog 18 #[.pointer (some ⟨g, 0, none⟩)] w fun e w' => e = .returned (.bool true) ∧ w' = w := by
  have c0 := h.row.cell 0
  clear h
  unfold snC at c0
  go_enter Try.func18, Try.ntmps18
  go_wp2
  go_ret
  exact ⟨rfl, rfl⟩
theorem size_any (h : SnOk w g wr cm ls s C L) : Calls Try.prog 33 #[.pointer (some ⟨g, 0, none⟩)] w fun e w' => e = .returned (.int .u64 (s.b.length : Int)) ∧ w' = w := by
  have c3 := h.row.cell 3
  obtain ⟨va, vc, hv, _, _⟩ := h.wrow.shape
  have hn := h.rep.fine.len
  have w1 : IntKind.u64.wrap (s.b.length : Int) = (s.b.length : Int) := by rw [IntKind.wrap_u64]; omega
  clear h hn
  unfold snC at c3
  rw [hv] at c3
  go_enter Try.func33, Try.ntmps33
  go_wp2
  go_ret
  exact ⟨rfl, rfl⟩
theorem end_any (h : SnOk w g wr cm ls s C L) : Calls Try.prog 32 #[.pointer (some ⟨g, 0, none⟩)] w fun e w' => e = .returned (rcA (s.b.length, s.b.length + 1)) ∧ Below w.heap.size w w' := by
  obtain ⟨n, hn⟩ : ∃ n, s.b.length = n := ⟨_, rfl⟩
  have hb0 : Below w.heap.size w (w.alloc (.cells #[.int .u64 0, .int .u64 0] 60)) := (Below.refl _ w).alloc (Nat.le_refl _) _
  have S1 := size_any (h.below hb0)
  rw [hn] at S1 ⊢
  have hl := h.rep.fine.len
  rw [hn] at hl
  obtain ⟨n1, hn1⟩ : ∃ n1, n1 = n + 1 := ⟨_, rfl⟩
  rw [← hn1]
  have w1 : IntKind.u64.wrap ((n : Int) + 1) = (n1 : Int) := by rw [IntKind.wrap_u64]; omega
  have q1 : Row (w.alloc (.cells #[.int .u64 0, .int .u64 0] 60)) w.heap.size 60 #[.int .u64 0, .int .u64 0] := Row.new _ _ _
  have Q1 := veil q1
  have HB := veil hb0
  have S1 := veil S1
  clear h hb0 hl hn hn1 q1
  go_enter Try.func32, Try.ntmps32
  go_wp2_with fail
  generalize w.alloc (.cells #[.int .u64 0, .int .u64 0] 60) = w0 at *
  have c0 := Q1.out.cell 0
  have c1 := Q1.out.cell 1
  have f0 := Q1.out.frozen 0
  have f1 := Q1.out.frozen 1
  refine S1.out.mono ?_
  rintro e1 w1 ⟨rfl, rfl⟩
  go_wp2_with fail
  refine S1.out.mono ?_
  rintro e1 w1 ⟨rfl, rfl⟩
  go_wp2
  refine bodyPost_ret (results_cell_row rfl _ _ w.heap.size 60 #[.int .u64 (n : Int), .int .u64 (n1 : Int)] (0, 0) _ rfl ((Q1.out.set 0 _).set 1 _) Try.underlying60 rfl (by kernel_rfl)) rfl ⟨rfl, ?_⟩
  exact (HB.out.setCell (p := ⟨w.heap.size, 0, none⟩) (Nat.le_refl _) _).setCell (p := ⟨w.heap.size, 1, none⟩) (Nat.le_refl _) _
theorem fresh_any (h : SnOk w g wr cm ls s C L) : Calls Try.prog 16 #[.pointer (some ⟨g, 0, none⟩)] w fun e w' => e = .returned (.int .u64 (s.fresh : Int)) ∧ Below w.heap.size w w' := by
  have T1 := veil (there_yes h)
  have S1 := veil (fun q => size_any (h.below ((below_drewN (Below.refl _ w) q))))
  have c5 := h.row.cell 5
  have hl := h.rep.fine.len
  have hf := h.rep.fine.fr
  have hm : min (sn s : Int) (s.b.length : Int) = (s.fresh : Int) := by
    unfold sn
    split
    · omega
    · rename_i e; have := (h.rep.fine.ended e).2; omega
  clear h hl hf
  unfold snC at c5
  obtain ⟨n, hn⟩ : ∃ n, s.b.length = n := ⟨_, rfl⟩
  obtain ⟨m, hm2⟩ : ∃ m, sn s = m := ⟨_, rfl⟩
  obtain ⟨f, hf2⟩ : ∃ f, s.fresh = f := ⟨_, rfl⟩
  rw [hn] at S1 hm
  rw [hm2] at hm
  rw [hm2] at c5
  rw [hf2] at hm ⊢
  clear hn hm2 hf2
  go_enter Try.func16, Try.ntmps16
  go_wp2_with fail
  refine T1.out.mono ?_
  rintro e1 w1 ⟨rfl, rfl⟩
  go_wp2_with fail
  go_quiet (first | (go_at_call 33; exact Calls.quiet_of_same (S1.out _)))
  go_wp2_with fail
  go_ret
  exact ⟨rfl, below_drewN (Below.refl _ _) _⟩
theorem done_any (h : SnOk w g wr cm ls s C L) : Calls Try.prog 15 #[.pointer (some ⟨g, 0, none⟩)] w fun e w' => e = .returned (.bool (done s)) ∧ Below w.heap.size w w' := by
  have T1 := veil (there_yes h)
  have F1 := veil (first_any w h.crow)
  have E1 := veil (fun W (hb : Below w.heap.size w W) => end_any (h.below hb))
  have c6 := h.row.cell 6
  have hd := done_rep h.rep
  have hd2 : done s = (decide (((fst C).1 : Int) = 0) && decide (((fst C).2 : Int) = ((s.b.length + 1 : Nat) : Int))) := by
    rw [hd, Bool.eq_iff_iff, Bool.and_eq_true, decide_eq_true_eq, decide_eq_true_eq, decide_eq_true_eq, Prod.ext_iff]
    show ((fst C).1 = 0 ∧ (fst C).2 = s.b.length + 1) ↔ _
    omega
  rw [hd2]
  unfold snC at c6
  unfold rcA at F1 E1
  obtain ⟨a, ha⟩ : ∃ a, (fst C).1 = a := ⟨_, rfl⟩
  obtain ⟨b, hb⟩ : ∃ b, (fst C).2 = b := ⟨_, rfl⟩
  obtain ⟨n1, hn⟩ : ∃ n1, s.b.length + 1 = n1 := ⟨_, rfl⟩
  rw [ha, hb] at F1 ⊢
  rw [hn]
  simp only [hn] at E1
  have fe := field_two
  clear h hd hd2 ha hb hn
  go_enter Try.func15, Try.ntmps15
  go_wp2_with fail
  refine T1.out.mono ?_
  rintro e1 w1 ⟨rfl, rfl⟩
  go_wp2_with fail
  refine F1.out.mono ?_
  rintro e1 w2 ⟨rfl, hb2⟩
  have HB2 := veil hb2
  clear hb2
  go_wp2_with fail
  refine (E1.out w2 HB2.out).mono ?_
  rintro e1 w3 ⟨rfl, hb3⟩
  have HB3 := veil (HB2.out.trans (hb3.mono HB2.out.size))
  clear hb3
  obtain ⟨d, hd⟩ : ∃ d, (decide ((a : Int) = 0) && decide ((b : Int) = (n1 : Int))) = d := ⟨_, rfl⟩
  by_cases q1 : (a : Int) = 0
  · by_cases q2 : (b : Int) = (n1 : Int)
    · have hd3 : d = true := by rw [← hd]; simp [q1, q2]
      have HD := veil (hd.trans hd3)
      clear hd hd3
      go_wp2_with fail
      go_ret
      exact ⟨by rw [HD.out]; rfl, HB3.out⟩
    · have hd3 : d = false := by rw [← hd]; simp [q2]
      have HD := veil (hd.trans hd3)
      clear hd hd3
      go_wp2_with fail
      go_ret
      exact ⟨by rw [HD.out]; rfl, HB3.out⟩
  · have hd3 : d = false := by rw [← hd]; simp; intro e; exact absurd (by omega) q1
    have HD := veil (hd.trans hd3)
    clear hd hd3
    go_wp2_with fail
    go_ret
    exact ⟨by rw [HD.out]; rfl, HB3.out⟩
end
end Sr
end Go.Proofs.Ytnlckmopgkabpaa
