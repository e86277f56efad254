/-
  Out of BkFrame, BkFrN, BkFrames, BkFrNs.
-/
import Derived.Test.YtimhbjlmpojhoaaGreatDoorGg15
import Derived.Test.YtimhbjlmpojhoaaGreatDoorGgFrLeftF
import Derived.Test.YtimhbjlmpojhoaaGreatDoorGg6

/-! A Book of bytes, ranges and frames while it is told lists one behind the other: Book.Frame, Book.Frames. -/
namespace Go.Proofs.YtimhbjlmpojhoaaGreatDoor.Ba
open Go Go.RowKit
open Go.Proofs.YtimhbjlmpojhoaaGreatDoor.Bq (own_keepP below_keepP)

/-- Rows of unlike elements lie in unlike blocks. -/
theorem kind_ne {W : World} {B B' e e' z z' n n' : Nat} {v v' : Value} {xs xs' : List Value} (h : W.ownsRow B e z v n xs) (h' : W.ownsRow B' e' z' v' n' xs') (he : e ≠ e') : v.ownBlock = none ∨ v.ownBlock ≠ v'.ownBlock := by
  rcases h.2 with ⟨rfl, _⟩ | ⟨g, c, cur, rfl, _, hh, _⟩
  · exact .inl rfl
  · rcases h'.2 with ⟨rfl, _⟩ | ⟨g', c', cur', rfl, _, hh', _⟩
    · exact .inr (fun q => by cases q)
    · refine .inr (fun q => ?_)
      have q' : g = g' := Option.some.inj q
      subst q'
      rw [hh] at hh'
      injection hh' with hh'
      injection hh' with _ hh'
      exact he hh'
/-- What a book holds of one kind, with bounds. -/
def Kd (S B j HT T z nn M H : Nat) (X : List Value → Prop) (W : World) : Prop :=
  ∃ (m : Nat) (V : Value) (E : Nat → Value) (nu N : Nat → Nat) (F : Nat → List Value), m ≤ nn ∧ Hd S B j HT T z m V E nu N F W ∧ (∀ i, i < m → nu i ≤ nn) ∧ (∀ i, i < m → N i ≤ 5000000) ∧ (∀ i, i < m → ∀ k, (E i).ownBlock = some k → k < M) ∧ (∀ i, i < m → X (F i)) ∧ (∀ k, V.ownBlock = some k → k < H)
theorem Kd.below {S B j HT T z nn M H : Nat} {X : List Value → Prop} {W W' : World} (h : Kd S B j HT T z nn M H X W) (hB : B < W.heap.size) (hb : Below W.heap.size W W') : Kd S B j HT T z nn M H X W' := by
  obtain ⟨m, V, E, nu, N, F, h1, h2, h3, h4, h5, h6, h7⟩ := h
  exact ⟨m, V, E, nu, N, F, h1, ⟨(hb.cell (p := ⟨B, j, none⟩) hB).trans h2.b, h2.nil, own_belowK h2.ent hb, h2.vB, fun i hi => own_belowK (h2.rows i hi) hb, h2.eB, h2.ee⟩, h3, h4, h5, h6, h7⟩
/-- A book that was told nn lists; those of a kind lie below M. -/
structure K3 (S B : Nat) (w0 : World) (nn Mb Mr Mf H : Nat) (W : World) : Prop where
  cnt : W.cell? ⟨B, 0, none⟩ = some (.int .i64 (nn : Int))
  kb : Kd S B 1 95 5 1 nn Mb H (fun _ => True) W
  kr : Kd S B 6 112 114 2 nn Mr H (fun x => ∃ l, x = vr l) W
  kf : Kd S B 7 93 37 8 nn Mf H (fun x => ∃ l, x = Bf.vo l) W
  em : ∀ j, 1 ≤ j → j < 13 → j ≠ 1 → j ≠ 6 → j ≠ 7 → W.cell? ⟨B, j, none⟩ = some (.slice none 0 0)
  fz : ∀ q, W.frozen? ⟨B, q, none⟩ = false
  SB : S ≤ B
  lt : B < W.heap.size
  bel : Below S w0 W
  hH : H ≤ W.heap.size
/-- What telling leaves alone: what is older than the book. -/
structure Old (B H : Nat) (W W' : World) : Prop where
  size : W.heap.size ≤ W'.heap.size
  block : ∀ b, b < W.heap.size → b < B ∨ H ≤ b → W'.heap[b]? = W.heap[b]?
theorem Old.own {B H S e z n : Nat} {W W' : World} {v : Value} {xs : List Value} (h : Old B H W W') (o : W.ownsRow S e z v n xs) (hB : ∀ k, v.ownBlock = some k → k < B ∨ H ≤ k) : W'.ownsRow S e z v n xs := own_keepK o (fun g q => h.block g (o.lt g q).2 (hB g q))
theorem K3.new (S : Nat) (w0 W : World) (t : TypeId) (hS : S ≤ W.heap.size) (hb : Below S w0 W) : K3 S W.heap.size w0 0 0 0 0 (W.heap.size + 1) (W.alloc (.cells #[.int .i64 0, .slice none 0 0, .slice none 0 0, .slice none 0 0, .slice none 0 0, .slice none 0 0, .slice none 0 0, .slice none 0 0, .slice none 0 0, .slice none 0 0, .slice none 0 0, .slice none 0 0, .slice none 0 0] t)) where
  cnt := new_count W t
  kb := ⟨0, _, fun _ => .slice none 0 0, fun _ => 0, fun _ => 0, fun _ => [], Nat.le_refl _, Hd.new S W t 1 _ _ _ (by decide) (by decide) _ _ _ _, fun _ h => absurd h (Nat.not_lt_zero _), fun _ h => absurd h (Nat.not_lt_zero _), fun _ h => absurd h (Nat.not_lt_zero _), fun _ h => absurd h (Nat.not_lt_zero _), fun _ e => by cases e⟩
  kr := ⟨0, _, fun _ => .slice none 0 0, fun _ => 0, fun _ => 0, fun _ => [], Nat.le_refl _, Hd.new S W t 6 _ _ _ (by decide) (by decide) _ _ _ _, fun _ h => absurd h (Nat.not_lt_zero _), fun _ h => absurd h (Nat.not_lt_zero _), fun _ h => absurd h (Nat.not_lt_zero _), fun _ h => absurd h (Nat.not_lt_zero _), fun _ e => by cases e⟩
  kf := ⟨0, _, fun _ => .slice none 0 0, fun _ => 0, fun _ => 0, fun _ => [], Nat.le_refl _, Hd.new S W t 7 _ _ _ (by decide) (by decide) _ _ _ _, fun _ h => absurd h (Nat.not_lt_zero _), fun _ h => absurd h (Nat.not_lt_zero _), fun _ h => absurd h (Nat.not_lt_zero _), fun _ h => absurd h (Nat.not_lt_zero _), fun _ e => by cases e⟩
  em := fun j h1 h2 _ _ _ => new_cell W t j h1 h2
  fz := new_frozen W t
  SB := hS
  lt := by simp
  bel := hb.alloc hS _
  hH := by simp
section
variable {S B nn Mb Mr Mf H : Nat} {w0 W : World}
/-- What is told of one kind: what becomes of the others. -/
theorem Kd.tell {j HT T z M M' n' : Nat} {X : List Value → Prop} {W' : World} {m : Nat} {V l : Value} {E : Nat → Value} {nu N : Nat → Nat} {F : Nat → List Value} {g c nl : Nat} {xl : List Value}
    (h1 : m ≤ nn) (h2 : Hd S B j HT T z m V E nu N F W) (h3 : ∀ i, i < m → nu i ≤ nn) (h4 : ∀ i, i < m → N i ≤ 5000000) (h5 : ∀ i, i < m → ∀ k, (E i).ownBlock = some k → k < M) (h6 : ∀ i, i < m → X (F i))
    (hbB : B < W.heap.size) (t : Told S B j HT nn m V l (entsN E nu m) W W' g c) (hl : W.ownsRow S T z l nl xl) (hlB : ∀ k, l.ownBlock = some k → M ≤ k ∧ k < M' ∧ k < B) (hM : M ≤ M') (hnl : nl ≤ 5000000) (hx : X xl) (hn : n' = nn + 1) : Kd S B j HT T z n' M' W'.heap.size X W' := by
  subst hn
  refine ⟨m + 1, _, _, _, _, _, by omega, h2.told hbB t hl (fun k e => (hlB k e).2.2) (fun i hi => ?_), fun i hi => ?_, fun i hi => ?_, fun i hi k e => ?_, fun i hi => ?_, fun k e => (t.ent.lt k e).2⟩
  · cases hE : (E i).ownBlock with
    | none => exact .inl rfl
    | some k => exact .inr (fun q => by have := h5 i hi k hE; have := (hlB k q.symm).1; omega)
  · by_cases c : i = m
    · rw [c, upd_at]; exact Nat.le_refl _
    · rw [upd_lt _ _ (show i < m by omega)]; have := h3 i (by omega); omega
  · by_cases c : i = m
    · rw [c, upd_at]; exact hnl
    · rw [upd_lt _ _ (show i < m by omega)]; exact h4 i (by omega)
  · by_cases c : i = m
    · rw [c, upd_at] at e; exact (hlB k e).2.1
    · rw [upd_lt _ _ (show i < m by omega)] at e; have := h5 i (by omega) k e; omega
  · by_cases c : i = m
    · rw [c, upd_at]; exact hx
    · rw [upd_lt _ _ (show i < m by omega)]; exact h6 i (by omega)
theorem Kd.stay {j HT T z M : Nat} {X : List Value → Prop} {W' : World} {j' HT' m' : Nat} {V' l' : Value} {es' : List Value} {g c : Nat} (h : Kd S B j HT T z nn M H X W) (hH : H ≤ W.heap.size) (hj : j ≠ 0) (hjj : j ≠ j') (hHT : HT ≠ HT') (hent : W.ownsRow S HT' 3 V' m' es') (hV' : ∀ k, V'.ownBlock = some k → B < k) (t : Told S B j' HT' nn m' V' l' es' W W' g c) : Kd S B j HT T z (nn + 1) M W'.heap.size X W' := by
  obtain ⟨m, V, E, nu, N, F, h1, h2, h3, h4, h5, h6, h7⟩ := h
  have hz := t.keep.size
  exact ⟨m, V, E, nu, N, F, by omega, h2.other hj hjj (kind_ne h2.ent hent hHT) hV' t, fun i hi => Nat.le_succ_of_le (h3 i hi), h4, h5, h6, fun k e => by have := h7 k e; omega⟩
theorem told_old {j HT m : Nat} {V l : Value} {es : List Value} {W' : World} {g c : Nat} (t : Told S B j HT nn m V l es W W' g c) (hBH : B < H) (hV : ∀ k, V.ownBlock = some k → B < k) (hVH : ∀ k, V.ownBlock = some k → k < H) : Old B H W W' :=
  ⟨t.keep.size, fun b hb hc => t.keep.block b hb (fun e => by
    rcases e with e | e
    · omega
    · have := hV b e; have := hVH b e; omega)⟩
theorem K3.bytes (h : K3 S B w0 nn Mb Mr Mf H W) (hBH : B < H) (al : Option Addr) (nl cl Mb' : Nat) (xl : List Value) (hnn : nn ≤ 2900000) (hl : W.ownsRow S 5 1 (.slice al nl cl) nl xl) (hlB : ∀ k, (Value.slice al nl cl).ownBlock = some k → Mb ≤ k ∧ k < Mb' ∧ k < B) (hM : Mb ≤ Mb') (hnl : nl ≤ 5000000) :
    Calls Tryz.prog 15 #[.pointer (some ⟨B, 0, none⟩), .slice al nl cl] W fun e w' => e = .returned (.tuple #[]) ∧ K3 S B w0 (nn + 1) Mb' Mr Mf w'.heap.size w' ∧ Old B H W w' := by
  obtain ⟨m, V, E, nu, N, F, h1, h2, h3, h4, h5, h6, h7⟩ := h.kb
  refine (toldBytes S B nn m V _ W al nl cl (by omega) (by omega) h.cnt h2.b h.fz h.lt (Nat.le_trans h.SB (Nat.le_of_lt h.lt)) h2.ent h2.vB).mono ?_
  rintro e w' ⟨rfl, g, c, t⟩
  refine ⟨rfl, ⟨t.n, Kd.tell h1 h2 h3 h4 h5 h6 h.lt t hl hlB hM hnl trivial rfl, h.kr.stay h.hH (by decide) (by decide) (by decide) h2.ent h2.vB t, h.kf.stay h.hH (by decide) (by decide) (by decide) h2.ent h2.vB t, fun q q1 q2 q3 q4 q5 => (t.oth q (by omega) q3).trans (h.em q q1 q2 q3 q4 q5), fun q => (t.fz q).trans (h.fz q), h.SB, Nat.lt_of_lt_of_le h.lt t.keep.size, below_keepP h.bel t.keep (Nat.le_trans h.SB (Nat.le_of_lt h.lt)) (fun b e => ?_), Nat.le_refl _⟩, told_old t hBH h2.vB h7⟩
  rcases e with e | e
  · have := h.SB; omega
  · have := h.SB; have := h2.vB b e; omega
theorem K3.ranges (h : K3 S B w0 nn Mb Mr Mf H W) (hBH : B < H) (al : Option Addr) (nl cl Mr' : Nat) (xl : List (Nat × Nat)) (hnn : nn ≤ 2900000) (hl : W.ownsRow S 114 2 (.slice al nl cl) nl (vr xl)) (hlB : ∀ k, (Value.slice al nl cl).ownBlock = some k → Mr ≤ k ∧ k < Mr' ∧ k < B) (hM : Mr ≤ Mr') (hnl : nl ≤ 5000000) :
    Calls Tryz.prog 89 #[.pointer (some ⟨B, 0, none⟩), .slice al nl cl] W fun e w' => e = .returned (.tuple #[]) ∧ K3 S B w0 (nn + 1) Mb Mr' Mf w'.heap.size w' ∧ Old B H W w' := by
  obtain ⟨m, V, E, nu, N, F, h1, h2, h3, h4, h5, h6, h7⟩ := h.kr
  refine (toldRanges S B nn m V _ W al nl cl (by omega) (by omega) h.cnt h2.b h.fz h.lt (Nat.le_trans h.SB (Nat.le_of_lt h.lt)) h2.ent h2.vB).mono ?_
  rintro e w' ⟨rfl, g, c, t⟩
  refine ⟨rfl, ⟨t.n, h.kb.stay h.hH (by decide) (by decide) (by decide) h2.ent h2.vB t, Kd.tell h1 h2 h3 h4 h5 h6 h.lt t hl hlB hM hnl ⟨xl, rfl⟩ rfl, h.kf.stay h.hH (by decide) (by decide) (by decide) h2.ent h2.vB t, fun q q1 q2 q3 q4 q5 => (t.oth q (by omega) q4).trans (h.em q q1 q2 q3 q4 q5), fun q => (t.fz q).trans (h.fz q), h.SB, Nat.lt_of_lt_of_le h.lt t.keep.size, below_keepP h.bel t.keep (Nat.le_trans h.SB (Nat.le_of_lt h.lt)) (fun b e => ?_), Nat.le_refl _⟩, told_old t hBH h2.vB h7⟩
  rcases e with e | e
  · have := h.SB; omega
  · have := h.SB; have := h2.vB b e; omega
theorem K3.keepFrame (h : K3 S B w0 nn Mb Mr Mf H W) (hBH : B < H) (al : Option Addr) (nl cl Mf' : Nat) (xl : List (Nat → Value)) (hnn : nn ≤ 2900000) (hl : W.ownsRow S 37 8 (.slice al nl cl) nl (Bf.vo xl)) (hlB : ∀ k, (Value.slice al nl cl).ownBlock = some k → Mf ≤ k ∧ k < Mf' ∧ k < B) (hM : Mf ≤ Mf') (hnl : nl ≤ 5000000) :
    Calls Tryz.prog 31 #[.pointer (some ⟨B, 0, none⟩), .slice al nl cl] W fun e w' => e = .returned (.tuple #[]) ∧ K3 S B w0 (nn + 1) Mb Mr Mf' w'.heap.size w' ∧ Old B H W w' := by
  obtain ⟨m, V, E, nu, N, F, h1, h2, h3, h4, h5, h6, h7⟩ := h.kf
  refine (tellFrame S B nn m V _ W al nl cl (by omega) (by omega) h.cnt h2.b h.fz h.lt (Nat.le_trans h.SB (Nat.le_of_lt h.lt)) h2.ent h2.vB).mono ?_
  rintro e w' ⟨rfl, g, c, t⟩
  refine ⟨rfl, ⟨t.n, h.kb.stay h.hH (by decide) (by decide) (by decide) h2.ent h2.vB t, h.kr.stay h.hH (by decide) (by decide) (by decide) h2.ent h2.vB t, Kd.tell h1 h2 h3 h4 h5 h6 h.lt t hl hlB hM hnl ⟨xl, rfl⟩ rfl, fun q q1 q2 q3 q4 q5 => (t.oth q (by omega) q5).trans (h.em q q1 q2 q3 q4 q5), fun q => (t.fz q).trans (h.fz q), h.SB, Nat.lt_of_lt_of_le h.lt t.keep.size, below_keepP h.bel t.keep (Nat.le_trans h.SB (Nat.le_of_lt h.lt)) (fun b e => ?_), Nat.le_refl _⟩, told_old t hBH h2.vB h7⟩
  rcases e with e | e
  · have := h.SB; omega
  · have := h.SB; have := h2.vB b e; omega
/-- All that the book was told is apart. -/
theorem K3.apart (h : K3 S B w0 nn Mb Mr Mf H W) (hnn : nn ≤ 2900000) :
    Calls Tryz.prog 16 #[.pointer (some ⟨B, 0, none⟩)] W fun e w' => e = .returned (.bool true) ∧ Below S w0 w' := by
  obtain ⟨mb, Vb, Eb, nub, Nb, Fb, b1, b2, b3, b4, b5, b6, _⟩ := h.kb
  obtain ⟨mr, Vr, Er, nur, Nr, Fr, r1, r2, r3, r4, r5, r6, _⟩ := h.kr
  obtain ⟨mf, Vf, Ef, nuf, Nf, Ff, f1, f2, f3, f4, f5, f6, _⟩ := h.kf
  obtain ⟨Xr, hXr⟩ : ∃ X : Nat → List (Nat × Nat), ∀ i, i < mr → Fr i = vr (X i) := ⟨fun i => if q : i < mr then (r6 i q).choose else [], fun i q => by simp only [dif_pos q]; exact (r6 i q).choose_spec⟩
  obtain ⟨Xf, hXf⟩ : ∃ X : Nat → List (Nat → Value), ∀ i, i < mf → Ff i = Bf.vo (X i) := ⟨fun i => if q : i < mf then (f6 i q).choose else [], fun i q => by simp only [dif_pos q]; exact (f6 i q).choose_spec⟩
  have r2' : Hd S B 6 112 114 2 mr Vr Er nur Nr (fun i => vr (Xr i)) W := ⟨r2.b, r2.nil, r2.ent, r2.vB, fun i hi => by rw [← hXr i hi]; exact r2.rows i hi, r2.eB, r2.ee⟩
  have f2' : Hd S B 7 93 37 8 mf Vf Ef nuf Nf (fun i => Bf.vo (Xf i)) W := ⟨f2.b, f2.nil, f2.ent, f2.vB, fun i hi => by rw [← hXf i hi]; exact f2.rows i hi, f2.eB, f2.ee⟩
  exact apart_held b2 r2' f2' h.em h.SB h.lt h.bel (by omega) (by omega) (by omega) (fun i hi => by have := b3 i hi; omega) (fun i hi => by have := r3 i hi; omega) (fun i hi => by have := f3 i hi; omega) b4 r4 f4
    (fun i k hi hk => kind_ne (b2.rows i hi) (r2.rows k hk) (by decide)) (fun i k hi hk => kind_ne (b2.rows i hi) (f2.rows k hk) (by decide)) (fun i k hi hk => kind_ne (r2.rows i hi) (f2.rows k hk) (by decide))
    (kind_ne b2.ent r2.ent (by decide)) (kind_ne b2.ent f2.ent (by decide)) (kind_ne r2.ent f2.ent (by decide))
theorem K3.below {W' : World} (h : K3 S B w0 nn Mb Mr Mf H W) (hb : Below W.heap.size W W') : K3 S B w0 nn Mb Mr Mf H W' :=
  ⟨(hb.cell (p := ⟨B, 0, none⟩) h.lt).trans h.cnt, h.kb.below h.lt hb, h.kr.below h.lt hb, h.kf.below h.lt hb, fun j a1 a2 a3 a4 a5 => (hb.cell (p := ⟨B, j, none⟩) h.lt).trans (h.em j a1 a2 a3 a4 a5), fun q => (hb.frozen (p := ⟨B, q, none⟩) h.lt).trans (h.fz q), h.SB, Nat.lt_of_lt_of_le h.lt hb.size, h.bel.trans (hb.mono (Nat.le_trans h.SB (Nat.le_of_lt h.lt))), Nat.le_trans h.hH hb.size⟩
set_option maxRecDepth 20000 in
set_option maxHeartbeats 1000000 in
/-- A frame's data and ranges are told. -/
theorem K3.frame (h : K3 S B w0 nn Mb Mr Mf H W) (hBH : B < H) (f : FrM) (g1 g2 S0 : Nat) (hnn : nn ≤ 2800000) (d1 : TwD S0 W g1 f.data) (d2 : TwG S0 W g2 f.ranges) (hS : S ≤ S0) (m1 : Mb ≤ g1) (b1 : g1 < B) (m2 : Mr ≤ g2) (b2 : g2 < B) (ld : f.data.len ≤ 5000000) (lr : f.ranges.len ≤ 5000000) :
    Calls Tryz.prog 30 #[.pointer (some ⟨B, 0, none⟩), .agg (f.twin g1 g2).cells] W fun e w' => e = .returned (.tuple #[]) ∧ (∃ H', B < H' ∧ K3 S B w0 (nn + 2) (g1 + 1) (g2 + 1) Mf H' w') ∧ W.heap.size ≤ w'.heap.size ∧ ∀ b, b < B → w'.heap[b]? = W.heap[b]? := by
  obtain ⟨W0, hW0⟩ : ∃ X, X = W.alloc (.cells (f.twin g1 g2).cells 37) := ⟨_, rfl⟩
  have r0 : Row W0 W.heap.size 37 (f.twin g1 g2).cells := by rw [hW0]; exact Row.new _ _ _
  have q0 : Below W.heap.size W W0 := by rw [hW0]; exact (Below.refl _ W).alloc (Nat.le_refl _) _
  obtain ⟨_, _, _, _, _, _, c6, c7⟩ := fr_cells r0
  simp only [FrM.twin, twinS, twinRS] at c6 c7
  have HC := veil (h.below q0)
  have o1 := own_lowK (own_belowK d1.own q0) hS
  have o2 := own_lowK (own_belowK d2.own q0) hS
  have hHH := h.hH
  have hBW := h.lt
  have HT := veil (HC.out.bytes hBH (some ⟨g1, 0, none⟩) f.data.len (f.data.len + 1) (g1 + 1) _ (by omega) o1 (fun k e => by cases e; exact ⟨m1, Nat.lt_succ_self _, b1⟩) (by omega) ld)
  have HO2 := veil o2
  have HR := veil r0
  have HQ := veil q0
  clear h d1 d2 o1 o2 r0 q0
  rw [hW0] at c6
  go_enter Tryz.func30, Tryz.ntmps30
  go_wp2_with fail
  rw [← hW0]
  refine HT.out.mono ?_
  rintro e1 w1 ⟨rfl, k1, old1⟩
  have r1 : w1.heap[W.heap.size]? = W0.heap[W.heap.size]? := old1.block W.heap.size HR.out.lt (.inr hHH)
  have c71 : w1.cell? ⟨W.heap.size, 7, none⟩ = some (.slice (some ⟨g2, 0, none⟩) f.ranges.len (f.ranges.len + 1)) := (World.cell?_of_block (a := ⟨W.heap.size, 7, none⟩) r1).trans c7
  have o21 := old1.own HO2.out (fun k e => by cases e; exact .inl b2)
  have K1 := veil k1
  have hB1 := k1.lt
  have HT2 := veil (k1.ranges hB1 (some ⟨g2, 0, none⟩) f.ranges.len (f.ranges.len + 1) (g2 + 1) _ (by omega) o21 (fun k e => by cases e; exact ⟨m2, Nat.lt_succ_self _, b2⟩) (by omega) lr)
  have OL1 := veil old1
  clear k1 old1 r1 o21 c6 c7 HT hW0
  go_wp2_with fail
  refine HT2.out.mono ?_
  rintro e2 w2 ⟨rfl, k2, old2⟩
  have K2 := veil k2
  have OL2 := veil old2
  clear k2 old2 HT2 c71
  go_wp2_with fail
  go_end0
  refine ⟨rfl, ⟨_, K2.out.lt, K2.out⟩, Nat.le_trans HQ.out.size (Nat.le_trans OL1.out.size OL2.out.size), fun b hb => ?_⟩
  have s1 := OL1.out.size
  have s0 := HQ.out.size
  rw [OL2.out.block b (by omega) (.inl hb), OL1.out.block b (by omega) (.inl hb), HQ.out.block b (by omega)]
end
end Go.Proofs.YtimhbjlmpojhoaaGreatDoor.Ba

/-! Book.Frame, Book.Frames: frames that were read are told. -/
namespace Go.Proofs.YtimhbjlmpojhoaaGreatDoor.Ba
open Go Go.RowKit

theorem vf_vo (l : List FrM) : vf l = Bf.vo (l.map cO) := by
  induction l with
  | nil => rfl
  | cons f l ih =>
    show f.cells.toList ++ vf l = _
    rw [ih]
    rfl
theorem bound_of : ∀ (L : List Nat) (M Z : Nat), M ≤ Z → (∀ p ∈ L, p < Z) → ∃ M', M ≤ M' ∧ M' ≤ Z ∧ (∀ p ∈ L, p < M') ∧ ∀ q, M ≤ q → (∀ p ∈ L, p < q) → M' ≤ q
  | [], M, _, h, _ => ⟨M, Nat.le_refl _, h, (fun p hp => by cases hp), fun _ hq _ => hq⟩
  | a :: L, M, Z, h, hL => by
    obtain ⟨M', h1, h2, h3, h4⟩ := bound_of L M Z h (fun p hp => hL p (List.mem_cons_of_mem _ hp))
    have ha := hL a (List.mem_cons_self ..)
    refine ⟨max M' (a + 1), by omega, by omega, fun p hp => ?_, fun q hq hp => ?_⟩
    · rcases List.mem_cons.1 hp with e | e
      · omega
      · have := h3 p e; omega
    · have h5 := h4 q hq (fun p hp' => hp p (List.mem_cons_of_mem _ hp'))
      have h6 := hp a (List.mem_cons_self ..)
      omega
theorem blks_d {F : FrM} {p : Nat} (h : (Value.slice F.data.a F.data.len F.data.cap).ownBlock = some p) : p ∈ blks F := List.mem_append.2 (.inl (Option.mem_toList.2 h))
theorem blks_r {F : FrM} {p : Nat} (h : (Value.slice F.ranges.a F.ranges.len F.ranges.cap).ownBlock = some p) : p ∈ blks F := List.mem_append.2 (.inr (Option.mem_toList.2 h))
section
variable {S B nn Mb Mr Mf H : Nat} {w0 W : World}
set_option maxRecDepth 20000 in
set_option maxHeartbeats 1000000 in
theorem K3.frameN (h : K3 S B w0 nn Mb Mr Mf H W) (hBH : B < H) (f : FrM) (Z : Nat) (hnn : nn ≤ 2800000) (d1 : W.ownsRow S 5 1 (.slice f.data.a f.data.len f.data.cap) f.data.len (vb f.data.b)) (d2 : W.ownsRow S 114 2 (.slice f.ranges.a f.ranges.len f.ranges.cap) f.ranges.len (vr f.ranges.l)) (hM : ∀ p ∈ blks f, Mb ≤ p ∧ Mr ≤ p ∧ p < Z ∧ p < B) (hb : Mb ≤ Z) (hr : Mr ≤ Z) (ld : f.data.len ≤ 5000000) (lr : f.ranges.len ≤ 5000000) :
    Calls Tryz.prog 30 #[.pointer (some ⟨B, 0, none⟩), .agg f.cells] W fun e w' => e = .returned (.tuple #[]) ∧ (∃ H', B < H' ∧ K3 S B w0 (nn + 2) Z Z Mf H' w') ∧ W.heap.size ≤ w'.heap.size ∧ ∀ b, b < B → w'.heap[b]? = W.heap[b]? := by
  obtain ⟨W0, hW0⟩ : ∃ X, X = W.alloc (.cells f.cells 37) := ⟨_, rfl⟩
  have r0 : Row W0 W.heap.size 37 f.cells := by rw [hW0]; exact Row.new _ _ _
  have q0 : Below W.heap.size W W0 := by rw [hW0]; exact (Below.refl _ W).alloc (Nat.le_refl _) _
  obtain ⟨_, _, _, _, _, _, c6, c7⟩ := fr_cells r0
  have HC := veil (h.below q0)
  have o1 := own_belowK d1 q0
  have o2 := own_belowK d2 q0
  have hHH := h.hH
  have hBW := h.lt
  have HT := veil (HC.out.bytes hBH f.data.a f.data.len f.data.cap Z _ (by omega) o1 (fun k e => by have := hM k (blks_d e); omega) hb ld)
  have HO2 := veil o2
  have HR := veil r0
  have HQ := veil q0
  have HM := veil hM
  clear h d1 d2 o1 o2 r0 q0 hM
  rw [hW0] at c6
  go_enter Tryz.func30, Tryz.ntmps30
  unfold FrM.cells at *
  go_wp2_with fail
  rw [← hW0]
  refine HT.out.mono ?_
  rintro e1 w1 ⟨rfl, k1, old1⟩
  have r1 : w1.heap[W.heap.size]? = W0.heap[W.heap.size]? := old1.block W.heap.size HR.out.lt (.inr hHH)
  have c71 : w1.cell? ⟨W.heap.size, 7, none⟩ = some (.slice f.ranges.a f.ranges.len f.ranges.cap) := (World.cell?_of_block (a := ⟨W.heap.size, 7, none⟩) r1).trans c7
  have o21 := old1.own HO2.out (fun k e => .inl (HM.out k (blks_r e)).2.2.2)
  have K1 := veil k1
  have hB1 := k1.lt
  have HT2 := veil (k1.ranges hB1 f.ranges.a f.ranges.len f.ranges.cap Z _ (by omega) o21 (fun k e => by have := HM.out k (blks_r e); omega) hr lr)
  have OL1 := veil old1
  clear k1 old1 r1 o21 c6 c7 HT hW0
  go_wp2_with fail
  refine HT2.out.mono ?_
  rintro e2 w2 ⟨rfl, k2, old2⟩
  have K2 := veil k2
  have OL2 := veil old2
  clear k2 old2 HT2 c71
  go_wp2_with fail
  go_end0
  refine ⟨rfl, ⟨_, K2.out.lt, K2.out⟩, Nat.le_trans HQ.out.size (Nat.le_trans OL1.out.size OL2.out.size), fun b hb => ?_⟩
  have s1 := OL1.out.size
  have s0 := HQ.out.size
  rw [OL2.out.block b (by omega) (.inl hb), OL1.out.block b (by omega) (.inl hb), HQ.out.block b (by omega)]
end
end Go.Proofs.YtimhbjlmpojhoaaGreatDoor.Ba

/-! Book.Frames: copies of frames are told. -/
namespace Go.Proofs.YtimhbjlmpojhoaaGreatDoor.Ba
open Go Go.RowKit

theorem Kd.up {S B j HT T z nn M M' H : Nat} {X : List Value → Prop} {W : World} (h : Kd S B j HT T z nn M H X W) (hM : M ≤ M') : Kd S B j HT T z nn M' H X W := by
  obtain ⟨m, V, E, nu, N, F, h1, h2, h3, h4, h5, h6, h7⟩ := h
  exact ⟨m, V, E, nu, N, F, h1, h2, h3, h4, fun i hi k e => Nat.lt_of_lt_of_le (h5 i hi k e) hM, h6, h7⟩
theorem K3.up {S B nn Mb Mr Mf H Mb' Mr' Mf' : Nat} {w0 W : World} (h : K3 S B w0 nn Mb Mr Mf H W) (h1 : Mb ≤ Mb') (h2 : Mr ≤ Mr') (h3 : Mf ≤ Mf') : K3 S B w0 nn Mb' Mr' Mf' H W :=
  ⟨h.cnt, h.kb.up h1, h.kr.up h2, h.kf.up h3, h.em, h.fz, h.SB, h.lt, h.bel, h.hH⟩
/-- Copies stand while all that is older than the book does. -/
theorem twF_old {B0 B T n : Nat} {w w' : World} {l : List FrM} {G : List (Nat × Nat)} (h : TwF B0 w T n l G) (hw : w.heap.size = B) (hs : ∀ b, b < B → w'.heap[b]? = w.heap[b]?) (hz : B ≤ w'.heap.size) : TwF B0 w' T n l G :=
  ⟨h.len, own_keepK h.own (fun g e => hs g (by rw [← hw]; exact (h.own.lt g e).2)), h.all.same (fun b _ hb => hs b (by omega)) (by omega)⟩

set_option maxRecDepth 20000 in
set_option maxHeartbeats 1000000 in
theorem K3.frames {S B nn H : Nat} {w0 W Wb : World} (h : K3 S B w0 nn 0 0 0 H W) (hBH : B < H) (S0 T n : Nat) (l : List FrM) (G : List (Nat × Nat)) (ht : TwF S0 Wb T n l G) (hWb : Wb.heap.size = B) (hold : ∀ b, b < B → W.heap[b]? = Wb.heap[b]?) (hS : S ≤ S0) (hST : S0 ≤ T)
    (hn : nn + 2 * n ≤ 2700000) (hd : ∀ j, j < n → (gf l j).data.len ≤ 1048576 ∧ (gf l j).ranges.len ≤ 1048576) (Z : Nat) (hZ : ∀ j, j < n → (G[j]?.getD (0, 0)).1 < Z) :
    Calls Tryz.prog 14 #[.pointer (some ⟨B, 0, none⟩), .slice (some ⟨T, 0, none⟩) n (n + 1)] W fun e w' => e = .returned (.tuple #[]) ∧ (∃ H', B < H' ∧ K3 S B w0 (nn + 2 * n + 1) Z B B H' w') ∧ W.heap.size ≤ w'.heap.size ∧ ∀ b, b < B → w'.heap[b]? = W.heap[b]? := by
  have HH := veil h
  have HTW := veil ht
  have HOLD := veil hold
  have HD := veil hd
  have HZ := veil hZ
  have HWB := veil hWb
  have hBW := h.lt
  clear h ht hold hd hZ
  go_enter Tryz.func14, Tryz.ntmps14
  go_wp2_with fail
  go_loopw [4] (fun iv wr => ∃ (k Mb Mr H' : Nat), k ≤ n ∧ iv = .int .i64 (k : Int) ∧ B < H' ∧ K3 S B w0 (nn + 2 * k) Mb Mr 0 H' wr ∧ (∀ j, k ≤ j → j < n → Mb ≤ (G[j]?.getD (0, 0)).1 ∧ Mr ≤ (G[j]?.getD (0, 0)).2) ∧ Mb ≤ Z ∧ Mr ≤ B ∧ W.heap.size ≤ wr.heap.size ∧ ∀ b, b < B → wr.heap[b]? = W.heap[b]?)
    (fun iv _ => n - (intOf iv).toNat)
  case atStart => exact ⟨0, 0, 0, H, Nat.zero_le _, rfl, hBH, HH.out, fun _ _ _ => ⟨Nat.zero_le _, Nat.zero_le _⟩, Nat.zero_le _, Nat.zero_le _, Nat.le_refl _, fun _ _ => rfl⟩
  case round =>
    obtain ⟨k, Mb, Mr, H', hk, rfl, hBH', hk3, hMM, hMZ, hMB, hsz, hsame⟩ := hrel
    have K0 := veil hk3
    have HMM := veil hMM
    have HSM := veil hsame
    have htw := twF_old HTW.out HWB.out (fun b hb => (hsame b hb).trans (HOLD.out b hb)) (by omega)
    have HT := veil htw
    clear hk3 hMM hsame HH
    by_cases hlt : k < n
    · have cT := htw.row k hlt
      have hG : k < G.length := by rw [htw.len]; exact hlt
      have D1 := veil (htw.all.dat k hG)
      have D2 := veil (htw.all.rng k hG)
      have DB1 := veil (show (G[k]?.getD (0, 0)).1 < B by have := (HTW.out.all.dat k hG).lt; have := HWB.out; omega)
      have DB2 := veil (show (G[k]?.getD (0, 0)).2 < B by have := (HTW.out.all.rng k hG).lt; have := HWB.out; omega)
      have HDK := veil (HD.out k hlt)
      have hmm := HMM.out k (Nat.le_refl _) hlt
      have NX := veil (show ∀ j, k + 1 ≤ j → j < n → (G[k]?.getD (0, 0)).1 + 1 ≤ (G[j]?.getD (0, 0)).1 ∧ (G[k]?.getD (0, 0)).2 + 1 ≤ (G[j]?.getD (0, 0)).2 from fun j h1 h2 => by
        have := htw.all.ord k j (by omega) (by rw [htw.len]; exact h2)
        exact ⟨this.1, this.2.2.2⟩)
      have hzk := HZ.out k hlt
      generalize (G[k]?.getD (0, 0)).1 = g1 at *
      generalize (G[k]?.getD (0, 0)).2 = g2 at *
      have HF := veil (K0.out.frame hBH' (gf l k) g1 g2 (T + 1) (by omega) D1.out D2.out (by omega) hmm.1 DB1.out hmm.2 DB2.out (by have := HDK.out.1; omega) (by have := HDK.out.2; omega))
      obtain ⟨K, ek⟩ : ∃ K, K = gf l k := ⟨_, rfl⟩
      rw [← ek] at cT HF
      obtain ⟨kk, st, of, li, co, fi, da, ra⟩ := K
      have x0 := cT 0 _ rfl
      have x1 := cT 1 _ rfl
      have x2 := cT 2 _ rfl
      have x3 := cT 3 _ rfl
      have x4 := cT 4 _ rfl
      have x5 := cT 5 _ rfl
      have x6 := cT 6 _ rfl
      have x7 := cT 7 _ rfl
      simp only [Nat.add_zero] at x0 x1 x2 x3 x4 x5 x6 x7
      clear cT ek htw hG
      go_wp2_with fail
      refine HF.out.mono ?_
      rintro e2 w2 ⟨rfl, ⟨H2, hBH2, hk2⟩, hs2, hsame2⟩
      have K2 := veil hk2
      have SM2 := veil (show ∀ b, b < B → w2.heap[b]? = W.heap[b]? from fun b hb => (hsame2 b hb).trans (HSM.out b hb))
      have S2 := veil (show W.heap.size ≤ w2.heap.size by omega)
      clear hk2 hsame2 hs2 x0 x1 x2 x3 x4 x5 x6 x7 HF
      go_wp2_with fail
      go_roundw
      case rel => exact ⟨k + 1, g1 + 1, g2 + 1, H2, by omega, by go_num, hBH2, by rw [show nn + 2 * (k + 1) = nn + 2 * k + 2 by omega]; exact K2.out, NX.out, by omega, by have := DB2.out; omega, S2.out, SM2.out⟩
      case measure => simp [intOf]; omega
    · obtain rfl : k = n := by omega
      have o1 : wr.ownsRow S0 37 8 (.slice (some ⟨T, 0, none⟩) k (k + 1)) k (Bf.vo ((twl l G).map cO)) := by
        have := htw.own
        rw [List.map_append, Bf.vo_append] at this
        exact own_cutK this (by rw [Bf.vo_length, List.length_map, twl_length, htw.len]; omega)
      have hTB : T < B := by have := HTW.out.lt; have := HWB.out; omega
      have HF := veil (K0.out.keepFrame hBH' (some ⟨T, 0, none⟩) k (k + 1) B _ (by omega) (own_lowK o1 hS) (fun q e => by cases e; exact ⟨Nat.zero_le _, hTB, hTB⟩) (Nat.zero_le _) (by omega))
      clear htw o1
      go_wp2_with fail
      refine HF.out.mono ?_
      rintro e2 w2 ⟨rfl, hk2, old2⟩
      have K2 := veil hk2
      have hs2 := old2.size
      have SM2 := veil (show ∀ b, b < B → w2.heap[b]? = W.heap[b]? from fun b hb => (old2.block b (by omega) (.inl hb)).trans (HSM.out b hb))
      clear hk2 old2 HF
      go_wp2_with fail
      go_end0
      exact ⟨rfl, ⟨_, K2.out.lt, K2.out.up hMZ hMB (Nat.le_refl _)⟩, by omega, SM2.out⟩
end Go.Proofs.YtimhbjlmpojhoaaGreatDoor.Ba

/-! Book.Frames: frames that were read are told. -/
namespace Go.Proofs.YtimhbjlmpojhoaaGreatDoor.Ba
open Go Go.RowKit

set_option maxRecDepth 20000 in
set_option maxHeartbeats 1000000 in
theorem K3.framesN {S B nn M Mf H : Nat} {w0 W Wb : World} (h : K3 S B w0 nn M M Mf H W) (hBH : B < H) (a : Option Addr) (n c : Nat) (l : List FrM) (ho : Wb.ownsRow S 37 8 (.slice a n c) n (vf l)) (he : ∀ F ∈ l, FrNew S Wb F) (ha : l.Pairwise aptR) (hWb : Wb.heap.size = B) (hold : ∀ b, b < B → W.heap[b]? = Wb.heap[b]?)
    (Z : Nat) (hZB : Z ≤ B) (hM : ∀ F ∈ l, ∀ p ∈ blks F, M ≤ p ∧ p < Z) (hMZ : M ≤ Z) (hf : ∀ k, (Value.slice a n c).ownBlock = some k → Mf ≤ k ∧ k < Z) (hFZ : Mf ≤ Z) (hn : nn + 2 * n ≤ 2700000) (hd : ∀ j, j < n → (gf l j).data.len ≤ 5000000 ∧ (gf l j).ranges.len ≤ 5000000) :
    Calls Tryz.prog 14 #[.pointer (some ⟨B, 0, none⟩), .slice a n c] W fun e w' => e = .returned (.tuple #[]) ∧ (∃ H', B < H' ∧ K3 S B w0 (nn + 2 * n + 1) Z Z Z H' w') ∧ W.heap.size ≤ w'.heap.size ∧ ∀ b, b < B → w'.heap[b]? = W.heap[b]? := by
  have hlen : l.length = n := by have := ho.1; rw [vf_length] at this; omega
  have HH := veil h
  have HO := veil ho
  have HE := veil he
  have HA := veil ha
  have HOLD := veil hold
  have HD := veil hd
  have HMM := veil hM
  have HF := veil hf
  have HWB := veil hWb
  have HL := veil hlen
  have hBW := h.lt
  have OWN : Hid (∀ (wr : World), (∀ b, b < B → wr.heap[b]? = W.heap[b]?) → ∀ (S' e z m : Nat) (v : Value) (xs : List Value), Wb.ownsRow S' e z v m xs → wr.ownsRow S' e z v m xs) := fun wr hs S' e z m v xs o => own_keepK o (fun g q => by have h1 := (o.lt g q).2; have h2 := HWB.out; exact (hs g (by omega)).trans (HOLD.out g (by omega)))
  clear h ho he ha hold hd hM hf hlen
  go_enter Tryz.func14, Tryz.ntmps14
  go_wp2_with fail
  go_loopw [4] (fun iv wr => ∃ (k N H' : Nat), k ≤ n ∧ iv = .int .i64 (k : Int) ∧ B < H' ∧ K3 S B w0 (nn + 2 * k) N N Mf H' wr ∧ (∀ j, k ≤ j → j < n → ∀ p ∈ blks (gf l j), N ≤ p) ∧ N ≤ Z ∧ W.heap.size ≤ wr.heap.size ∧ ∀ b, b < B → wr.heap[b]? = W.heap[b]?)
    (fun iv _ => n - (intOf iv).toNat)
  case atStart => exact ⟨0, M, H, Nat.zero_le _, rfl, hBH, HH.out, fun j _ hj p hp => (HMM.out (gf l j) (by unfold gf; rw [List.getElem?_eq_getElem (by rw [HL.out]; exact hj)]; exact List.getElem_mem _) p hp).1, hMZ, Nat.le_refl _, fun _ _ => rfl⟩
  case round =>
    obtain ⟨k, N, H', hk, rfl, hBH', hk3, hNN, hNZ, hsz, hsame⟩ := hrel
    have K0 := veil hk3
    have HNN := veil hNN
    have HSM := veil hsame
    have own := OWN.out wr hsame _ _ _ _ _ _ HO.out
    clear hk3 hNN hsame HH
    by_cases hlt : k < n
    · have hkl : k < l.length := by rw [HL.out]; exact hlt
      have hmem : gf l k ∈ l := by unfold gf; rw [List.getElem?_eq_getElem hkl]; exact List.getElem_mem _
      have fn := HE.out _ hmem
      have o1 : wr.ownsRow S 5 1 (.slice (gf l k).data.a (gf l k).data.len (gf l k).data.cap) (gf l k).data.len (vb (gf l k).data.b) := by
        have := OWN.out wr HSM.out _ _ _ _ _ _ fn.data
        rw [fn.dok.hb] at this
        exact this
      have o2 := OWN.out wr HSM.out _ _ _ _ _ _ fn.ranges
      obtain ⟨N', n1, n2, n3, n4⟩ := bound_of (blks (gf l k)) N Z hNZ (fun p hp => (HMM.out _ hmem p hp).2)
      have NX := veil (show ∀ j, k + 1 ≤ j → j < n → ∀ p ∈ blks (gf l j), N' ≤ p from fun j h1 h2 p hp => by
        refine n4 p (HNN.out j (by omega) h2 p hp) (fun q hq => ?_)
        have hjl : j < l.length := by rw [HL.out]; exact h2
        have := List.pairwise_iff_getElem.1 HA.out k j hkl hjl (by omega)
        refine this q ?_ p ?_
        · unfold gf at hq; rw [List.getElem?_eq_getElem hkl] at hq; exact hq
        · unfold gf at hp; rw [List.getElem?_eq_getElem hjl] at hp; exact hp)
      have HF2 := veil (K0.out.frameN hBH' (gf l k) N' (by omega) o1 o2 (fun p hp => ⟨HNN.out k (Nat.le_refl _) hlt p hp, HNN.out k (Nat.le_refl _) hlt p hp, n3 p hp, by have := (HMM.out _ hmem p hp).2; omega⟩) n1 n1 (HD.out k hlt).1 (HD.out k hlt).2)
      obtain ⟨G, rfl⟩ : ∃ G, a = some ⟨G, 0, none⟩ := by
        rcases own.2 with ⟨h1, h2⟩ | ⟨g, c, _, h1, _⟩
        · omega
        · injection h1 with h1 _ _
          exact ⟨g, h1⟩
      have cT : ∀ (i : Nat) (u : Value), (gf l k).cells.toList[i]? = some u → wr.cell? ⟨G, k * 8 + i, none⟩ = some u := by
        intro i u hu
        have := own.cells (g := G) rfl (k * 8 + i) u (vf_at l k i u hkl hu)
        rw [add_at, Nat.zero_add] at this
        exact this
      obtain ⟨K, ek⟩ : ∃ K, K = gf l k := ⟨_, rfl⟩
      rw [← ek] at cT HF2
      obtain ⟨kk, st, of, li, co, fi, da, ra⟩ := K
      have x0 := cT 0 _ rfl
      have x1 := cT 1 _ rfl
      have x2 := cT 2 _ rfl
      have x3 := cT 3 _ rfl
      have x4 := cT 4 _ rfl
      have x5 := cT 5 _ rfl
      have x6 := cT 6 _ rfl
      have x7 := cT 7 _ rfl
      simp only [Nat.add_zero] at x0 x1 x2 x3 x4 x5 x6 x7
      clear cT ek own hkl hmem fn o1 o2 n3 n4
      go_wp2_with fail
      refine HF2.out.mono ?_
      rintro e2 w2 ⟨rfl, ⟨H2, hBH2, hk2⟩, hs2, hsame2⟩
      have K2 := veil hk2
      have SM2 := veil (show ∀ b, b < B → w2.heap[b]? = W.heap[b]? from fun b hb => (hsame2 b hb).trans (HSM.out b hb))
      have S2 := veil (show W.heap.size ≤ w2.heap.size by omega)
      clear hk2 hsame2 hs2 x0 x1 x2 x3 x4 x5 x6 x7 HF2
      go_wp2_with fail
      go_roundw
      case rel => exact ⟨k + 1, N', H2, by omega, by go_num, hBH2, by rw [show nn + 2 * (k + 1) = nn + 2 * k + 2 by omega]; exact K2.out, NX.out, n2, S2.out, SM2.out⟩
      case measure => simp [intOf]; omega
    · obtain rfl : k = n := by omega
      rw [vf_vo] at own
      have HF2 := veil (K0.out.keepFrame hBH' a k c Z _ (by omega) own (fun q e => ⟨(HF.out q e).1, (HF.out q e).2, by have := (HF.out q e).2; omega⟩) hFZ (by omega))
      clear own
      go_wp2_with fail
      refine HF2.out.mono ?_
      rintro e2 w2 ⟨rfl, hk2, old2⟩
      have K2 := veil hk2
      have hs2 := old2.size
      have SM2 := veil (show ∀ b, b < B → w2.heap[b]? = W.heap[b]? from fun b hb => (old2.block b (by omega) (.inl hb)).trans (HSM.out b hb))
      clear hk2 old2 HF2
      go_wp2_with fail
      go_end0
      exact ⟨rfl, ⟨_, K2.out.lt, K2.out.up hNZ hNZ (Nat.le_refl _)⟩, by omega, SM2.out⟩
end Go.Proofs.YtimhbjlmpojhoaaGreatDoor.Ba
