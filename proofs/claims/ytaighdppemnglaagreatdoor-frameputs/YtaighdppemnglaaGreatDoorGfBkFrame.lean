/-
  A Book of bytes, ranges and frames while it is told lists one behind the other: Book.Frame, Book.Frames.
-/
import Derived.Test.YtaighdppemnglaaGreatDoorGfBkNew
import Derived.Test.YtaighdppemnglaaGreatDoorGfFrLeftF
namespace Go.Proofs.YtaighdppemnglaaGreatDoor.Ba
open Go Go.RowKit
open Go.Proofs.YtaighdppemnglaaGreatDoor.Bq (own_keepP below_keepP)

/-- Rows of unlike elements lie in unlike blocks. -/
theorem kind_ne {W : World} {B B' e e' z z' n n' : Nat} {v v' : Value} {xs xs' : List Value} (h : W.ownsRow B e z v n xs) (h' : W.ownsRow B' e' z' v' n' xs') (he : e ≠ e') : v.ownBlock = none ∨ v.ownBlock ≠ v'.ownBlock := by
  rcases h.2 with ⟨rfl, _⟩ | ⟨g, c, cur, rfl, _, hh, _⟩
  · exact .inl rfl
  · rcases h'.2 with ⟨rfl, _⟩ | ⟨g', c', cur', rfl, _, hh', _⟩
    · exact .inr (fun q => by cases q)
    · refine .inr (fun q => ?_)
      have q' : g = g' := Option.some.inj q
      subst q'
      rw [hh] at hh'
      injection hh' with hh'
      injection hh' with _ hh'
      exact he hh'
/-- What a book holds of one kind, with bounds. -/
def Kd (S B j HT T z nn M H : Nat) (X : List Value → Prop) (W : World) : Prop :=
  ∃ (m : Nat) (V : Value) (E : Nat → Value) (nu N : Nat → Nat) (F : Nat → List Value), m ≤ nn ∧ Hd S B j HT T z m V E nu N F W ∧ (∀ i, i < m → nu i ≤ nn) ∧ (∀ i, i < m → N i ≤ 5000000) ∧ (∀ i, i < m → ∀ k, (E i).ownBlock = some k → k < M) ∧ (∀ i, i < m → X (F i)) ∧ (∀ k, V.ownBlock = some k → k < H)
theorem Kd.below {S B j HT T z nn M H : Nat} {X : List Value → Prop} {W W' : World} (h : Kd S B j HT T z nn M H X W) (hB : B < W.heap.size) (hb : Below W.heap.size W W') : Kd S B j HT T z nn M H X W' := by
  obtain ⟨m, V, E, nu, N, F, h1, h2, h3, h4, h5, h6, h7⟩ := h
  exact ⟨m, V, E, nu, N, F, h1, ⟨(hb.cell (p := ⟨B, j, none⟩) hB).trans h2.b, h2.nil, own_belowK h2.ent hb, h2.vB, fun i hi => own_belowK (h2.rows i hi) hb, h2.eB, h2.ee⟩, h3, h4, h5, h6, h7⟩
/-- A book that was told nn lists; those of a kind lie below M. -/
structure K3 (S B : Nat) (w0 : World) (nn Mb Mr Mf H : Nat) (W : World) : Prop where
  cnt : W.cell? ⟨B, 0, none⟩ = some (.int .i64 (nn : Int))
  kb : Kd S B 1 95 5 1 nn Mb H (fun _ => True) W
  kr : Kd S B 6 112 114 2 nn Mr H (fun x => ∃ l, x = vr l) W
  kf : Kd S B 7 93 37 8 nn Mf H (fun x => ∃ l, x = Bf.vo l) W
  em : ∀ j, 1 ≤ j → j < 13 → j ≠ 1 → j ≠ 6 → j ≠ 7 → W.cell? ⟨B, j, none⟩ = some (.slice none 0 0)
  fz : ∀ q, W.frozen? ⟨B, q, none⟩ = false
  SB : S ≤ B
  lt : B < W.heap.size
  bel : Below S w0 W
  hH : H ≤ W.heap.size
/-- What telling leaves alone: what is older than the book. -/
structure Old (B H : Nat) (W W' : World) : Prop where
  size : W.heap.size ≤ W'.heap.size
  block : ∀ b, b < W.heap.size → b < B ∨ H ≤ b → W'.heap[b]? = W.heap[b]?
theorem Old.own {B H S e z n : Nat} {W W' : World} {v : Value} {xs : List Value} (h : Old B H W W') (o : W.ownsRow S e z v n xs) (hB : ∀ k, v.ownBlock = some k → k < B ∨ H ≤ k) : W'.ownsRow S e z v n xs := own_keepK o (fun g q => h.block g (o.lt g q).2 (hB g q))
theorem K3.new (S : Nat) (w0 W : World) (t : TypeId) (hS : S ≤ W.heap.size) (hb : Below S w0 W) : K3 S W.heap.size w0 0 0 0 0 (W.heap.size + 1) (W.alloc (.cells #[.int .i64 0, .slice none 0 0, .slice none 0 0, .slice none 0 0, .slice none 0 0, .slice none 0 0, .slice none 0 0, .slice none 0 0, .slice none 0 0, .slice none 0 0, .slice none 0 0, .slice none 0 0, .slice none 0 0] t)) where
  cnt := new_count W t
  kb := ⟨0, _, fun _ => .slice none 0 0, fun _ => 0, fun _ => 0, fun _ => [], Nat.le_refl _, Hd.new S W t 1 _ _ _ (by decide) (by decide) _ _ _ _, fun _ h => absurd h (Nat.not_lt_zero _), fun _ h => absurd h (Nat.not_lt_zero _), fun _ h => absurd h (Nat.not_lt_zero _), fun _ h => absurd h (Nat.not_lt_zero _), fun _ e => by cases e⟩
  kr := ⟨0, _, fun _ => .slice none 0 0, fun _ => 0, fun _ => 0, fun _ => [], Nat.le_refl _, Hd.new S W t 6 _ _ _ (by decide) (by decide) _ _ _ _, fun _ h => absurd h (Nat.not_lt_zero _), fun _ h => absurd h (Nat.not_lt_zero _), fun _ h => absurd h (Nat.not_lt_zero _), fun _ h => absurd h (Nat.not_lt_zero _), fun _ e => by cases e⟩
  kf := ⟨0, _, fun _ => .slice none 0 0, fun _ => 0, fun _ => 0, fun _ => [], Nat.le_refl _, Hd.new S W t 7 _ _ _ (by decide) (by decide) _ _ _ _, fun _ h => absurd h (Nat.not_lt_zero _), fun _ h => absurd h (Nat.not_lt_zero _), fun _ h => absurd h (Nat.not_lt_zero _), fun _ h => absurd h (Nat.not_lt_zero _), fun _ e => by cases e⟩
  em := fun j h1 h2 _ _ _ => new_cell W t j h1 h2
  fz := new_frozen W t
  SB := hS
  lt := by simp
  bel := hb.alloc hS _
  hH := by simp
section
variable {S B nn Mb Mr Mf H : Nat} {w0 W : World}
/-- What is told of one kind: what becomes of the others. -/
theorem Kd.tell {j HT T z M M' n' : Nat} {X : List Value → Prop} {W' : World} {m : Nat} {V l : Value} {E : Nat → Value} {nu N : Nat → Nat} {F : Nat → List Value} {g c nl : Nat} {xl : List Value}
    (h1 : m ≤ nn) (h2 : Hd S B j HT T z m V E nu N F W) (h3 : ∀ i, i < m → nu i ≤ nn) (h4 : ∀ i, i < m → N i ≤ 5000000) (h5 : ∀ i, i < m → ∀ k, (E i).ownBlock = some k → k < M) (h6 : ∀ i, i < m → X (F i))
    (hbB : B < W.heap.size) (t : Told S B j HT nn m V l (entsN E nu m) W W' g c) (hl : W.ownsRow S T z l nl xl) (hlB : ∀ k, l.ownBlock = some k → M ≤ k ∧ k < M' ∧ k < B) (hM : M ≤ M') (hnl : nl ≤ 5000000) (hx : X xl) (hn : n' = nn + 1) : Kd S B j HT T z n' M' W'.heap.size X W' := by
  subst hn
  refine ⟨m + 1, _, _, _, _, _, by omega, h2.told hbB t hl (fun k e => (hlB k e).2.2) (fun i hi => ?_), fun i hi => ?_, fun i hi => ?_, fun i hi k e => ?_, fun i hi => ?_, fun k e => (t.ent.lt k e).2⟩
  · cases hE : (E i).ownBlock with
    | none => exact .inl rfl
    | some k => exact .inr (fun q => by have := h5 i hi k hE; have := (hlB k q.symm).1; omega)
  · by_cases c : i = m
    · rw [c, upd_at]; exact Nat.le_refl _
    · rw [upd_lt _ _ (show i < m by omega)]; have := h3 i (by omega); omega
  · by_cases c : i = m
    · rw [c, upd_at]; exact hnl
    · rw [upd_lt _ _ (show i < m by omega)]; exact h4 i (by omega)
  · by_cases c : i = m
    · rw [c, upd_at] at e; exact (hlB k e).2.1
    · rw [upd_lt _ _ (show i < m by omega)] at e; have := h5 i (by omega) k e; omega
  · by_cases c : i = m
    · rw [c, upd_at]; exact hx
    · rw [upd_lt _ _ (show i < m by omega)]; exact h6 i (by omega)
theorem Kd.stay {j HT T z M : Nat} {X : List Value → Prop} {W' : World} {j' HT' m' : Nat} {V' l' : Value} {es' : List Value} {g c : Nat} (h : Kd S B j HT T z nn M H X W) (hH : H ≤ W.heap.size) (hj : j ≠ 0) (hjj : j ≠ j') (hHT : HT ≠ HT') (hent : W.ownsRow S HT' 3 V' m' es') (hV' : ∀ k, V'.ownBlock = some k → B < k) (t : Told S B j' HT' nn m' V' l' es' W W' g c) : Kd S B j HT T z (nn + 1) M W'.heap.size X W' := by
  obtain ⟨m, V, E, nu, N, F, h1, h2, h3, h4, h5, h6, h7⟩ := h
  have hz := t.keep.size
  exact ⟨m, V, E, nu, N, F, by omega, h2.other hj hjj (kind_ne h2.ent hent hHT) hV' t, fun i hi => Nat.le_succ_of_le (h3 i hi), h4, h5, h6, fun k e => by have := h7 k e; omega⟩
theorem told_old {j HT m : Nat} {V l : Value} {es : List Value} {W' : World} {g c : Nat} (t : Told S B j HT nn m V l es W W' g c) (hBH : B < H) (hV : ∀ k, V.ownBlock = some k → B < k) (hVH : ∀ k, V.ownBlock = some k → k < H) : Old B H W W' :=
  ⟨t.keep.size, fun b hb hc => t.keep.block b hb (fun e => by
    rcases e with e | e
    · omega
    · have := hV b e; have := hVH b e; omega)⟩
theorem K3.bytes (h : K3 S B w0 nn Mb Mr Mf H W) (hBH : B < H) (al : Option Addr) (nl cl Mb' : Nat) (xl : List Value) (hnn : nn ≤ 2900000) (hl : W.ownsRow S 5 1 (.slice al nl cl) nl xl) (hlB : ∀ k, (Value.slice al nl cl).ownBlock = some k → Mb ≤ k ∧ k < Mb' ∧ k < B) (hM : Mb ≤ Mb') (hnl : nl ≤ 5000000) :
    Calls Tryz.prog 15 #[.pointer (some ⟨B, 0, none⟩), .slice al nl cl] W fun e w' => e = .returned (.tuple #[]) ∧ K3 S B w0 (nn + 1) Mb' Mr Mf w'.heap.size w' ∧ Old B H W w' := by
  obtain ⟨m, V, E, nu, N, F, h1, h2, h3, h4, h5, h6, h7⟩ := h.kb
  refine (toldBytes S B nn m V _ W al nl cl (by omega) (by omega) h.cnt h2.b h.fz h.lt (Nat.le_trans h.SB (Nat.le_of_lt h.lt)) h2.ent h2.vB).mono ?_
  rintro e w' ⟨rfl, g, c, t⟩
  refine ⟨rfl, ⟨t.n, Kd.tell h1 h2 h3 h4 h5 h6 h.lt t hl hlB hM hnl trivial rfl, h.kr.stay h.hH (by decide) (by decide) (by decide) h2.ent h2.vB t, h.kf.stay h.hH (by decide) (by decide) (by decide) h2.ent h2.vB t, fun q q1 q2 q3 q4 q5 => (t.oth q (by omega) q3).trans (h.em q q1 q2 q3 q4 q5), fun q => (t.fz q).trans (h.fz q), h.SB, Nat.lt_of_lt_of_le h.lt t.keep.size, below_keepP h.bel t.keep (Nat.le_trans h.SB (Nat.le_of_lt h.lt)) (fun b e => ?_), Nat.le_refl _⟩, told_old t hBH h2.vB h7⟩
  rcases e with e | e
  · have := h.SB; omega
  · have := h.SB; have := h2.vB b e; omega
theorem K3.ranges (h : K3 S B w0 nn Mb Mr Mf H W) (hBH : B < H) (al : Option Addr) (nl cl Mr' : Nat) (xl : List (Nat × Nat)) (hnn : nn ≤ 2900000) (hl : W.ownsRow S 114 2 (.slice al nl cl) nl (vr xl)) (hlB : ∀ k, (Value.slice al nl cl).ownBlock = some k → Mr ≤ k ∧ k < Mr' ∧ k < B) (hM : Mr ≤ Mr') (hnl : nl ≤ 5000000) :
    Calls Tryz.prog 89 #[.pointer (some ⟨B, 0, none⟩), .slice al nl cl] W fun e w' => e = .returned (.tuple #[]) ∧ K3 S B w0 (nn + 1) Mb Mr' Mf w'.heap.size w' ∧ Old B H W w' := by
  obtain ⟨m, V, E, nu, N, F, h1, h2, h3, h4, h5, h6, h7⟩ := h.kr
  refine (toldRanges S B nn m V _ W al nl cl (by omega) (by omega) h.cnt h2.b h.fz h.lt (Nat.le_trans h.SB (Nat.le_of_lt h.lt)) h2.ent h2.vB).mono ?_
  rintro e w' ⟨rfl, g, c, t⟩
  refine ⟨rfl, ⟨t.n, h.kb.stay h.hH (by decide) (by decide) (by decide) h2.ent h2.vB t, Kd.tell h1 h2 h3 h4 h5 h6 h.lt t hl hlB hM hnl ⟨xl, rfl⟩ rfl, h.kf.stay h.hH (by decide) (by decide) (by decide) h2.ent h2.vB t, fun q q1 q2 q3 q4 q5 => (t.oth q (by omega) q4).trans (h.em q q1 q2 q3 q4 q5), fun q => (t.fz q).trans (h.fz q), h.SB, Nat.lt_of_lt_of_le h.lt t.keep.size, below_keepP h.bel t.keep (Nat.le_trans h.SB (Nat.le_of_lt h.lt)) (fun b e => ?_), Nat.le_refl _⟩, told_old t hBH h2.vB h7⟩
  rcases e with e | e
  · have := h.SB; omega
  · have := h.SB; have := h2.vB b e; omega
theorem K3.keepFrame (h : K3 S B w0 nn Mb Mr Mf H W) (hBH : B < H) (al : Option Addr) (nl cl Mf' : Nat) (xl : List (Nat → Value)) (hnn : nn ≤ 2900000) (hl : W.ownsRow S 37 8 (.slice al nl cl) nl (Bf.vo xl)) (hlB : ∀ k, (Value.slice al nl cl).ownBlock = some k → Mf ≤ k ∧ k < Mf' ∧ k < B) (hM : Mf ≤ Mf') (hnl : nl ≤ 5000000) :
    Calls Tryz.prog 31 #[.pointer (some ⟨B, 0, none⟩), .slice al nl cl] W fun e w' => e = .returned (.tuple #[]) ∧ K3 S B w0 (nn + 1) Mb Mr Mf' w'.heap.size w' ∧ Old B H W w' := by
  obtain ⟨m, V, E, nu, N, F, h1, h2, h3, h4, h5, h6, h7⟩ := h.kf
  refine (tellFrame S B nn m V _ W al nl cl (by omega) (by omega) h.cnt h2.b h.fz h.lt (Nat.le_trans h.SB (Nat.le_of_lt h.lt)) h2.ent h2.vB).mono ?_
  rintro e w' ⟨rfl, g, c, t⟩
  refine ⟨rfl, ⟨t.n, h.kb.stay h.hH (by decide) (by decide) (by decide) h2.ent h2.vB t, h.kr.stay h.hH (by decide) (by decide) (by decide) h2.ent h2.vB t, Kd.tell h1 h2 h3 h4 h5 h6 h.lt t hl hlB hM hnl ⟨xl, rfl⟩ rfl, fun q q1 q2 q3 q4 q5 => (t.oth q (by omega) q5).trans (h.em q q1 q2 q3 q4 q5), fun q => (t.fz q).trans (h.fz q), h.SB, Nat.lt_of_lt_of_le h.lt t.keep.size, below_keepP h.bel t.keep (Nat.le_trans h.SB (Nat.le_of_lt h.lt)) (fun b e => ?_), Nat.le_refl _⟩, told_old t hBH h2.vB h7⟩
  rcases e with e | e
  · have := h.SB; omega
  · have := h.SB; have := h2.vB b e; omega
/-- All that the book was told is apart. -/
theorem K3.apart (h : K3 S B w0 nn Mb Mr Mf H W) (hnn : nn ≤ 2900000) :
    Calls Tryz.prog 16 #[.pointer (some ⟨B, 0, none⟩)] W fun e w' => e = .returned (.bool true) ∧ Below S w0 w' := by
  obtain ⟨mb, Vb, Eb, nub, Nb, Fb, b1, b2, b3, b4, b5, b6, _⟩ := h.kb
  obtain ⟨mr, Vr, Er, nur, Nr, Fr, r1, r2, r3, r4, r5, r6, _⟩ := h.kr
  obtain ⟨mf, Vf, Ef, nuf, Nf, Ff, f1, f2, f3, f4, f5, f6, _⟩ := h.kf
  obtain ⟨Xr, hXr⟩ : ∃ X : Nat → List (Nat × Nat), ∀ i, i < mr → Fr i = vr (X i) := ⟨fun i => if q : i < mr then (r6 i q).choose else [], fun i q => by simp only [dif_pos q]; exact (r6 i q).choose_spec⟩
  obtain ⟨Xf, hXf⟩ : ∃ X : Nat → List (Nat → Value), ∀ i, i < mf → Ff i = Bf.vo (X i) := ⟨fun i => if q : i < mf then (f6 i q).choose else [], fun i q => by simp only [dif_pos q]; exact (f6 i q).choose_spec⟩
  have r2' : Hd S B 6 112 114 2 mr Vr Er nur Nr (fun i => vr (Xr i)) W := ⟨r2.b, r2.nil, r2.ent, r2.vB, fun i hi => by rw [← hXr i hi]; exact r2.rows i hi, r2.eB, r2.ee⟩
  have f2' : Hd S B 7 93 37 8 mf Vf Ef nuf Nf (fun i => Bf.vo (Xf i)) W := ⟨f2.b, f2.nil, f2.ent, f2.vB, fun i hi => by rw [← hXf i hi]; exact f2.rows i hi, f2.eB, f2.ee⟩
  exact apart_held b2 r2' f2' h.em h.SB h.lt h.bel (by omega) (by omega) (by omega) (fun i hi => by have := b3 i hi; omega) (fun i hi => by have := r3 i hi; omega) (fun i hi => by have := f3 i hi; omega) b4 r4 f4
    (fun i k hi hk => kind_ne (b2.rows i hi) (r2.rows k hk) (by decide)) (fun i k hi hk => kind_ne (b2.rows i hi) (f2.rows k hk) (by decide)) (fun i k hi hk => kind_ne (r2.rows i hi) (f2.rows k hk) (by decide))
    (kind_ne b2.ent r2.ent (by decide)) (kind_ne b2.ent f2.ent (by decide)) (kind_ne r2.ent f2.ent (by decide))
theorem K3.below {W' : World} (h : K3 S B w0 nn Mb Mr Mf H W) (hb : Below W.heap.size W W') : K3 S B w0 nn Mb Mr Mf H W' :=
  ⟨(hb.cell (p := ⟨B, 0, none⟩) h.lt).trans h.cnt, h.kb.below h.lt hb, h.kr.below h.lt hb, h.kf.below h.lt hb, fun j a1 a2 a3 a4 a5 => (hb.cell (p := ⟨B, j, none⟩) h.lt).trans (h.em j a1 a2 a3 a4 a5), fun q => (hb.frozen (p := ⟨B, q, none⟩) h.lt).trans (h.fz q), h.SB, Nat.lt_of_lt_of_le h.lt hb.size, h.bel.trans (hb.mono (Nat.le_trans h.SB (Nat.le_of_lt h.lt))), Nat.le_trans h.hH hb.size⟩
set_option maxRecDepth 20000 in
set_option maxHeartbeats 1000000 in
/-- A frame's data and ranges are told. -/
theorem K3.frame (h : K3 S B w0 nn Mb Mr Mf H W) (hBH : B < H) (f : FrM) (g1 g2 S0 : Nat) (hnn : nn ≤ 2800000) (d1 : TwD S0 W g1 f.data) (d2 : TwG S0 W g2 f.ranges) (hS : S ≤ S0) (m1 : Mb ≤ g1) (b1 : g1 < B) (m2 : Mr ≤ g2) (b2 : g2 < B) (ld : f.data.len ≤ 5000000) (lr : f.ranges.len ≤ 5000000) :
    Calls Tryz.prog 30 #[.pointer (some ⟨B, 0, none⟩), .agg (f.twin g1 g2).cells] W fun e w' => e = .returned (.tuple #[]) ∧ (∃ H', B < H' ∧ K3 S B w0 (nn + 2) (g1 + 1) (g2 + 1) Mf H' w') ∧ W.heap.size ≤ w'.heap.size ∧ ∀ b, b < B → w'.heap[b]? = W.heap[b]? := by
  obtain ⟨W0, hW0⟩ : ∃ X, X = W.alloc (.cells (f.twin g1 g2).cells 37) := ⟨_, rfl⟩
  have r0 : Row W0 W.heap.size 37 (f.twin g1 g2).cells := by rw [hW0]; exact Row.new _ _ _
  have q0 : Below W.heap.size W W0 := by rw [hW0]; exact (Below.refl _ W).alloc (Nat.le_refl _) _
  obtain ⟨_, _, _, _, _, _, c6, c7⟩ := fr_cells r0
  simp only [FrM.twin, twinS, twinRS] at c6 c7
  have HC := veil (h.below q0)
  have o1 := own_lowK (own_belowK d1.own q0) hS
  have o2 := own_lowK (own_belowK d2.own q0) hS
  have hHH := h.hH
  have hBW := h.lt
  have HT := veil (HC.out.bytes hBH (some ⟨g1, 0, none⟩) f.data.len (f.data.len + 1) (g1 + 1) _ (by omega) o1 (fun k e => by cases e; exact ⟨m1, Nat.lt_succ_self _, b1⟩) (by omega) ld)
  have HO2 := veil o2
  have HR := veil r0
  have HQ := veil q0
  clear h d1 d2 o1 o2 r0 q0
  rw [hW0] at c6
  go_enter Tryz.func30, Tryz.ntmps30
  go_wp2_with fail
  rw [← hW0]
  refine HT.out.mono ?_
  rintro e1 w1 ⟨rfl, k1, old1⟩
  have r1 : w1.heap[W.heap.size]? = W0.heap[W.heap.size]? := old1.block W.heap.size HR.out.lt (.inr hHH)
  have c71 : w1.cell? ⟨W.heap.size, 7, none⟩ = some (.slice (some ⟨g2, 0, none⟩) f.ranges.len (f.ranges.len + 1)) := (World.cell?_of_block (a := ⟨W.heap.size, 7, none⟩) r1).trans c7
  have o21 := old1.own HO2.out (fun k e => by cases e; exact .inl b2)
  have K1 := veil k1
  have hB1 := k1.lt
  have HT2 := veil (k1.ranges hB1 (some ⟨g2, 0, none⟩) f.ranges.len (f.ranges.len + 1) (g2 + 1) _ (by omega) o21 (fun k e => by cases e; exact ⟨m2, Nat.lt_succ_self _, b2⟩) (by omega) lr)
  have OL1 := veil old1
  clear k1 old1 r1 o21 c6 c7 HT hW0
  go_wp2_with fail
  refine HT2.out.mono ?_
  rintro e2 w2 ⟨rfl, k2, old2⟩
  have K2 := veil k2
  have OL2 := veil old2
  clear k2 old2 HT2 c71
  go_wp2_with fail
  go_end0
  refine ⟨rfl, ⟨_, K2.out.lt, K2.out⟩, Nat.le_trans HQ.out.size (Nat.le_trans OL1.out.size OL2.out.size), fun b hb => ?_⟩
  have s1 := OL1.out.size
  have s0 := HQ.out.size
  rw [OL2.out.block b (by omega) (.inl hb), OL1.out.block b (by omega) (.inl hb), HQ.out.block b (by omega)]
end
end Go.Proofs.YtaighdppemnglaaGreatDoor.Ba
