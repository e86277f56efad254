/-
  frame's reader: frames, and frame.Get.
-/
import Derived.Test.YtjhgelhdhdcmfaaDoorGfFrCatch
namespace Go.Proofs.YtjhgelhdhdcmfaaDoor
open Go Go.RowKit

def vf (Fs : List FrM) : List Value := Fs.flatMap fun F => F.cells.toList
theorem vf_append (a b : List FrM) : vf (a ++ b) = vf a ++ vf b := by unfold vf; rw [List.flatMap_append]
theorem vf_length (Fs : List FrM) : (vf Fs).length = Fs.length * 8 := by
  induction Fs with
  | nil => rfl
  | cons F Fs ih =>
    have e : vf (F :: Fs) = F.cells.toList ++ vf Fs := rfl
    rw [e, List.length_append, ih, List.length_cons]
    have : F.cells.toList.length = 8 := rfl
    omega
theorem Tryd.infoFrameV : (Tryd.prog.info? 39).map (fun i => (i.zero, i.size, i.bytes)) = some (some (.agg zF), 8, 96) := by kernel_rfl
theorem frame_info : ∃ i0, Tryd.prog.info? 39 = some i0 ∧ i0.zero = some (.agg zF) ∧ i0.size = 8 ∧ i0.bytes = 96 := by
  have h := Tryd.infoFrameV
  cases hq : Tryd.prog.info? 39 with
  | none => rw [hq] at h; cases h
  | some i =>
    rw [hq] at h
    simp only [Option.map_some, Option.some.injEq, Prod.mk.injEq] at h
    exact ⟨i, rfl, h.1, h.2.1, h.2.2⟩
/-- What is no row of frames stays. -/
def Others (base : Nat) (W W' : World) : Prop := W.heap.size ≤ W'.heap.size ∧ ∀ k, base ≤ k → k < W.heap.size → (∀ cs fr, W.heap[k]? ≠ some (.cells cs 39 fr)) → W'.heap[k]? = W.heap[k]?
theorem own_others {base n z : Nat} {e : TypeId} {v : Value} {xs : List Value} {W W' : World} (h : W.ownsRow base e z v n xs) (he : e ≠ 39) (ho : Others base W W') : W'.ownsRow base e z v n xs := by
  obtain ⟨h1, h2⟩ := h
  refine ⟨h1, ?_⟩
  rcases h2 with h2 | ⟨g, c, cur, h3, h4, h5, h6⟩
  · exact .inl h2
  · refine .inr ⟨g, c, cur, h3, h4, (ho.2 g h4 (Array.getElem?_eq_some_iff.1 h5).1 ?_).trans h5, h6⟩
    intro cs fr q
    rw [h5] at q
    injection q with q
    injection q with _ q _
    exact he q
theorem FrNew.keep {base : Nat} {W W' : World} {F : FrM} (h : FrNew base W F) (ho : Others base W W') : FrNew base W' F := by
  have hd := own_others h.data (by decide) ho
  have hr := own_others h.ranges (by decide) ho
  refine ⟨hd, ?_, hr, ?_, h.k8, h.st, h.of, h.li, h.co⟩
  · refine h.dok.same (fun p => ?_) ho.1
    have ha := h.dok.at_ p
    rcases h.data.2 with ⟨q, _⟩ | ⟨g, c, cur, h3, h4, h5, _⟩
    · rw [ha] at q; cases q
    · rw [ha] at h3
      injection h3 with h3
      injection h3 with h3
      injection h3 with h3
      subst h3
      refine ho.2 _ h4 (Array.getElem?_eq_some_iff.1 h5).1 ?_
      intro cs fr q
      rw [h5] at q
      injection q with q
      injection q with _ q _
      exact absurd q (by decide)
  · refine h.rok.same (fun p => ?_) ho.1
    have ha := h.rok.at_ p
    rcases h.ranges.2 with ⟨q, _⟩ | ⟨g, c, cur, h3, h4, h5, _⟩
    · rw [ha] at q; cases q
    · rw [ha] at h3
      injection h3 with h3
      injection h3 with h3
      injection h3 with h3
      subst h3
      refine ho.2 _ h4 (Array.getElem?_eq_some_iff.1 h5).1 ?_
      intro cs fr q
      rw [h5] at q
      injection q with q
      injection q with _ q _
      exact absurd q (by decide)
theorem FrNew.low {base base' : Nat} {W : World} {F : FrM} (h : FrNew base W F) (hb : base' ≤ base) : FrNew base' W F :=
  ⟨own_low2 h.data hb, h.dok, own_low2 h.ranges hb, h.rok, h.k8, h.st, h.of, h.li, h.co⟩
theorem FrNew.ok {base : Nat} {W : World} {F : FrM} (h : FrNew base W F) : F.Ok W := by
  have h1 := h.st
  have h2 := h.of
  have h3 := h.li
  have h4 := h.co
  exact ⟨h.dok, h.rok, h.k8, by omega, by omega, by omega, by omega⟩
theorem others_grown {base g : Nat} {W W' : World} (h : W.grownBy W' (some g)) (hg : g < base) : Others base W W' := ⟨h.size, fun k hk hl _ => h.block k hl (fun e => by have := Option.some.inj e; omega)⟩
theorem others_below {base : Nat} {W W' : World} (h : Below W.heap.size W W') : Others base W W' := ⟨h.size, fun k _ hl _ => h.block k hl⟩
/-- While frames are read: the reader, what is handed back, and the table. -/
structure Lp (w : World) (g : Nat) (s s' : SL) (tb : Nat) (lv : Value) (Fs : List FrM) (Y : World) : Prop where
  rd : Rd Y g s' tb
  sg : s'.g = s.g
  sl : s'.len ≤ s.len
  rl : Row Y w.heap.size 22 #[lv]
  re : Row Y (w.heap.size + 1) 27 #[.int .i64 0]
  mp : MapIs Y (w.heap.size + 2) g (rowsL 8)
  each : ∀ F ∈ Fs, FrNew (w.heap.size + 3) Y F
  gro : w.grownBy Y (some g)
  ord : g < w.heap.size ∧ 1 < w.heap.size ∧ (0 < s.len → s.g < w.heap.size)
theorem Lp.top {w Y : World} {g tb : Nat} {s s' : SL} {lv : Value} {Fs : List FrM} (h : Lp w g s s' tb lv Fs Y) : w.heap.size + 3 ≤ Y.heap.size := h.mp.lt
theorem Lp.call {w Y Y' : World} {g tb tb2 : Nat} {s s' s2 : SL} {lv : Value} {Fs : List FrM} (h : Lp w g s s' tb lv Fs Y) (hr : Rd Y' g s2 tb2) (hsg : s2.g = s'.g) (hsl : s2.len ≤ s'.len) (hg : Y.grownBy Y' (some g)) : Lp w g s s2 tb2 lv Fs Y' := by
  obtain ⟨o1, o2, o3⟩ := h.ord
  exact ⟨hr, hsg.trans h.sg, Nat.le_trans hsl h.sl, h.rl.grown hg (by omega), h.re.grown hg (by omega), h.mp.keep (hg.block _ h.mp.lt (fun e => by have := Option.some.inj e; omega)), fun F hF => (h.each F hF).keep (others_grown hg (by omega)), grown_trans h.gro hg, h.ord⟩
theorem Lp.keep {w Y Y' : World} {g tb : Nat} {s s' : SL} {lv : Value} {Fs : List FrM} (h : Lp w g s s' tb lv Fs Y) (hb : Below (w.heap.size + 3) Y Y') (ho : Others (w.heap.size + 3) Y Y') : Lp w g s s' tb lv Fs Y' := by
  obtain ⟨o1, o2, o3⟩ := h.ord
  refine ⟨h.rd.same (hb.block g (by omega)) (fun p => hb.block _ (by rw [h.sg]; have := o3 (Nat.lt_of_lt_of_le p h.sl); omega)) (hb.block _ (by omega)) hb.size, h.sg, h.sl, h.rl.below hb (by omega), h.re.below hb (by omega), h.mp.keep (hb.block _ (by omega)), fun F hF => (h.each F hF).keep ho, ?_, h.ord⟩
  exact ⟨hb.os.trans h.gro.os, hb.tape.trans h.gro.tape, hb.output.trans h.gro.output, Nat.le_trans h.gro.size hb.size, fun k hk hn => (hb.block k (by omega)).trans (h.gro.block k hk hn)⟩
theorem Lp.store {w Y : World} {g tb : Nat} {s s' : SL} {lv : Value} {Fs : List FrM} (h : Lp w g s s' tb lv Fs Y) (v : Value) : Lp w g s s' tb v Fs (Y.setCell ⟨w.heap.size, 0, none⟩ v) := by
  obtain ⟨o1, o2, o3⟩ := h.ord
  refine ⟨h.rd.setc (by omega) (fun p => by rw [h.sg]; have := o3 (Nat.lt_of_lt_of_le p h.sl); omega) (by omega) _, h.sg, h.sl, h.rl.set 0 _, h.re.other (a := ⟨w.heap.size, 0, none⟩) (show w.heap.size + 1 ≠ w.heap.size by omega) _, h.mp.keep (Below.heap_setCell _ _ _ _ (fun e => by have e : w.heap.size + 2 = w.heap.size := e; omega)), fun F hF => (h.each F hF).keep ⟨by simp [World.setCell], fun k hk _ _ => Below.heap_setCell _ _ _ _ (fun e => by have e : k = w.heap.size := e; omega)⟩, grown_setc h.gro (Nat.le_refl _) _, h.ord⟩
theorem progLoop_fuel : ∀ (fuel fuel' : Nat) (b : List By) (acc : List Fr.Frame), b.length ≤ fuel → b.length ≤ fuel' → Fr.progLoop fuel b acc = Fr.progLoop fuel' b acc
  | _, _, [], _, _, _ => by rw [Fr.progLoop, Fr.progLoop]
  | 0, _, _ :: _, _, h, _ => by simp at h
  | _, 0, _ :: _, _, _, h => by simp at h
  | fuel + 1, fuel' + 1, c :: b, acc, h, h' => by
    rw [Fr.progLoop, Fr.progLoop]
    by_cases hl : acc.length = 1024
    · rw [if_pos hl, if_pos hl]
    · rw [if_neg hl, if_neg hl]
      cases hf : Fr.frameP (c :: b) with
      | error e => rfl
      | ok x =>
        obtain ⟨f, b'⟩ := x
        have := Fr.frameP_less hf
        simp only [List.length_cons] at h h' this
        exact progLoop_fuel fuel fuel' b' _ (by omega) (by omega)
/-- What is read of bytes, behind frames that were read. -/
def allP (b : List By) (acc : List Fr.Frame) : Except Nat (List Fr.Frame) := Fr.progLoop b.length b acc
theorem allP_nil (acc : List Fr.Frame) : allP [] acc = .ok acc := rfl
theorem allP_full {b : List By} {acc : List Fr.Frame} (hb : b ≠ []) (h : acc.length = 1024) : allP b acc = .error 3 := by
  cases b with
  | nil => exact absurd rfl hb
  | cons c b =>
    show (if acc.length = 1024 then _ else _) = _
    rw [if_pos h]
theorem allP_err {b : List By} {acc : List Fr.Frame} {e : Nat} (hb : b ≠ []) (h : acc.length ≠ 1024) (hf : Fr.frameP b = .error e) : allP b acc = .error e := by
  cases b with
  | nil => exact absurd rfl hb
  | cons c b =>
    show (if acc.length = 1024 then _ else _) = _
    rw [if_neg h, hf]
theorem allP_ok {b b' : List By} {acc : List Fr.Frame} {f : Fr.Frame} (hb : b ≠ []) (h : acc.length ≠ 1024) (hf : Fr.frameP b = .ok (f, b')) : allP b acc = allP b' (f :: acc) := by
  have hl := Fr.frameP_less hf
  cases b with
  | nil => exact absurd rfl hb
  | cons c b =>
    show (if acc.length = 1024 then _ else _) = _
    rw [if_neg h, hf]
    simp only [List.length_cons] at hl
    exact progLoop_fuel _ _ _ _ (by omega) (by omega)
end Go.Proofs.YtjhgelhdhdcmfaaDoor
