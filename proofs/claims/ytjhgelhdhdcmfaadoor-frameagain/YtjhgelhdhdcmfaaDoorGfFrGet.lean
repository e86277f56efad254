/-
  frame.Get, at any bytes.
-/
import Derived.Test.YtjhgelhdhdcmfaaDoorGfFrFramesW
import Derived.Test.YtjhgelhdhdcmfaaDoorGf7
namespace Go.Proofs.YtjhgelhdhdcmfaaDoor
open Go Go.RowKit

theorem vf_at : ∀ (Fs : List FrM) (j i : Nat) (v : Value), j < Fs.length → (gf Fs j).cells.toList[i]? = some v → (vf Fs)[j * 8 + i]? = some v
  | [], _, _, _, h, _ => absurd h (Nat.not_lt_zero _)
  | F :: Fs, 0, i, v, _, hv => by
    have e : vf (F :: Fs) = F.cells.toList ++ vf Fs := rfl
    have hi : i < F.cells.toList.length := (List.getElem?_eq_some_iff.1 hv).1
    rw [e, Nat.zero_mul, Nat.zero_add, List.getElem?_append_left hi]
    exact hv
  | F :: Fs, j + 1, i, v, h, hv => by
    have e : vf (F :: Fs) = F.cells.toList ++ vf Fs := rfl
    have hl : F.cells.toList.length = 8 := rfl
    rw [e, List.getElem?_append_right (by omega), hl, show (j + 1) * 8 + i - 8 = j * 8 + i by omega]
    exact vf_at Fs j i v (by simpa using h) (by rw [gf_succ] at hv; exact hv)
theorem fs_own {w : World} {base n : Nat} {v : Value} {Fs : List FrM} (hn : Fs.length = n) (h : w.ownsRow base 39 8 v n (vf Fs)) (he : ∀ F ∈ Fs, FrNew base w F) : ∃ fs : FS, v = .slice fs.a fs.len fs.cap ∧ fs.Ok w ∧ fs.l = Fs := by
  have each : ∀ j, j < Fs.length → (gf Fs j).Ok w := by
    intro j hj
    refine (he _ ?_).ok
    unfold gf
    rw [List.getElem?_eq_getElem hj]
    exact List.getElem_mem hj
  rcases h.2 with ⟨rfl, h0⟩ | ⟨g, c, cur, rfl, hb, hh, hc, hm, hsz, htk⟩
  · exact ⟨⟨none, 0, 0, 0, 0, Fs⟩, rfl, ⟨by rw [hn]; exact h0, Nat.le_refl _, fun _ => ⟨rfl, rfl⟩, fun p => absurd p (Nat.lt_irrefl _), fun p => absurd p (Nat.lt_irrefl _), fun j hj => absurd hj (Nat.not_lt_zero _), fun j hj => absurd hj (Nat.not_lt_zero _)⟩, rfl⟩
  · refine ⟨⟨some ⟨g, 0, none⟩, n, c, g, 0, Fs⟩, rfl, ⟨hn, hc, (fun e => by cases e), fun _ => rfl, fun _ => (Array.getElem?_eq_some_iff.1 hh).1, fun j hj => ?_, fun j hj => each j (by rw [hn]; exact hj)⟩, rfl⟩
    intro i u hu
    have := h.cells (g := g) rfl (j * 8 + i) u (vf_at Fs j i u (by rw [hn]; exact hj) hu)
    rw [add_at, Nat.zero_add] at this
    show w.cell? ⟨g, 0 + j * 8 + i, none⟩ = _
    rw [Nat.zero_add]
    exact this
theorem data_le (f : Fr.Frame) (h : Fr.mayF f) : f.data.length ≤ (Fr.putF f).length := by
  have hk := may_kind h
  have nod : ∀ k, f.kind = k → k < 15 → tb k 5 = false → f.data = [] := by
    intro k hk1 hk2 hk3
    have hm := h.2
    have hb : bareK f := by
      rw [bare_k f k hk1 hk2]
      have hq : k = 1 ∨ k = 2 ∨ k = 3 ∨ k = 4 ∨ k = 5 ∨ k = 6 ∨ k = 7 ∨ k = 8 ∨ k = 9 ∨ k = 10 ∨ k = 11 ∨ k = 12 ∨ k = 13 ∨ k = 14 := by omega
      rw [hk1] at hm
      rcases hq with rfl | rfl | rfl | rfl | rfl | rfl | rfl | rfl | rfl | rfl | rfl | rfl | rfl | rfl <;> first | exact hm.1 | exact hm
    have := (bare_k f k hk1 hk2).1 hb
    unfold Fr.bareF at this
    rcases this.2.2.2.2.2.1 with q | q
    · rw [hk3] at q; cases q
    · exact q
  have hq : f.kind = 1 ∨ f.kind = 2 ∨ f.kind = 3 ∨ f.kind = 4 ∨ f.kind = 5 ∨ f.kind = 6 ∨ f.kind = 7 ∨ f.kind = 8 ∨ f.kind = 9 ∨ f.kind = 10 ∨ f.kind = 11 ∨ f.kind = 12 ∨ f.kind = 13 ∨ f.kind = 14 := by omega
  rcases hq with q | q | q | q | q | q | q | q | q | q | q | q | q | q
  case inr.inr.inr.inr.inr.inl => unfold Fr.putF; rw [q]; simp only [Fr.sizedL, List.length_append]; omega
  case inr.inr.inr.inr.inr.inr.inl => unfold Fr.putF; rw [q]; simp only [Fr.sizedL, List.length_append]; omega
  case inr.inr.inr.inr.inr.inr.inr.inr.inr.inr.inr.inr.inl => unfold Fr.putF; rw [q]; simp only [Fr.sizedL, List.length_append]; omega
  all_goals
    rw [nod _ q (by decide) rfl]
    exact Nat.zero_le _
theorem putF_le {l : List Fr.Frame} {f : Fr.Frame} (h : f ∈ l) : (Fr.putF f).length ≤ (Fr.putAll l).length := by
  induction l with
  | nil => cases h
  | cons g l ih =>
    rw [Fr.putAll, List.length_append]
    rcases List.mem_cons.1 h with rfl | h
    · omega
    · have := ih h
      omega
/-- How great what was read can be. -/
theorem told_le {b : List By} {l : List Fr.Frame} (h : Fr.getAll b = .ok l) {f : Fr.Frame} (hf : f ∈ l) : f.data.length ≤ 1048584 ∧ f.ranges.length ≤ 64 := by
  obtain ⟨h1, _, _, h4, h5⟩ := Fr.get_told h
  have hm := h1 f hf
  refine ⟨by have := data_le f hm; have := putF_le hf; omega, ?_⟩
  have hk := may_kind hm
  by_cases k3 : f.kind = 3
  · have := hm.2
    rw [k3] at this
    exact this.2.2.1
  · have hb : f.ranges = [] := by
      have hm2 := hm.2
      have hq : f.kind = 1 ∨ f.kind = 2 ∨ f.kind = 4 ∨ f.kind = 5 ∨ f.kind = 6 ∨ f.kind = 7 ∨ f.kind = 8 ∨ f.kind = 9 ∨ f.kind = 10 ∨ f.kind = 11 ∨ f.kind = 12 ∨ f.kind = 13 ∨ f.kind = 14 := by omega
      rcases hq with q | q | q | q | q | q | q | q | q | q | q | q | q <;> rw [q] at hm2
      · exact hm2.1.2.2.2.2.2.2.resolve_left (by decide)
      · exact hm2.2.2.2.2.2.2.resolve_left (by decide)
      · exact hm2.2.2.2.2.2.2.resolve_left (by decide)
      · exact hm2.2.2.2.2.2.2.resolve_left (by decide)
      · exact hm2.2.2.2.2.2.2.resolve_left (by decide)
      · exact hm2.2.2.2.2.2.2.resolve_left (by decide)
      · exact hm2.2.2.2.2.2.2.resolve_left (by decide)
      · exact hm2.2.2.2.2.2.2.resolve_left (by decide)
      · exact hm2.1.2.2.2.2.2.2.resolve_left (by decide)
      · exact hm2.2.2.2.2.2.2.resolve_left (by decide)
      · exact hm2.2.2.2.2.2.2.resolve_left (by decide)
      · exact hm2.2.2.2.2.2.2.resolve_left (by decide)
      · exact hm2.2.2.2.2.2.2.resolve_left (by decide)
    rw [hb]
    exact Nat.zero_le _
/-- What Get answers. -/
def GetPost (w : World) (b : List By) (x : Ending) (w' : World) : Prop :=
  (∃ e, Fr.getAll b = .error e ∧ x = .returned (.tuple #[.slice none 0 0, .int .i64 (e : Int)])) ∨ (∃ fs : FS, Fr.getAll b = .ok fs.fr ∧ x = .returned (.tuple #[.slice fs.a fs.len fs.cap, .int .i64 0]) ∧ fs.Ok w' ∧ (fs.len ≤ 1024 ∧ ∀ j, j < fs.len → (gf fs.l j).data.len ≤ 1048584 ∧ (gf fs.l j).ranges.len ≤ 64) ∧ w'.ownsRow w.heap.size 39 8 (.slice fs.a fs.len fs.cap) fs.len (vf fs.l) ∧ ∀ F ∈ fs.l, FrNew w.heap.size w' F)

set_option maxRecDepth 20000 in
set_option maxHeartbeats 2000000 in
theorem frame_get (s : SL) (w : World) (hs : s.Ok w) (ht : s.Told) (hL : Lens w) :
    Calls Tryd.prog 11 #[.slice s.a s.len s.cap] w fun x w' => GetPost w s.b x w' ∧ Below w.heap.size w w' := by
  have hbl := hs.hb
  by_cases hl : 1048576 < s.len
  · have f1 : decide ((1048576 : Int) < (s.len : Int)) = true := by simp; omega
    have f1n : decide (1048576 < s.len) = true := by simp; omega
    have E := veil (show Fr.getAll s.b = .error 3 by unfold Fr.getAll; rw [if_pos (by omega)])
    clear hl hbl hs ht hL
    go_enter Tryd.func11, Tryd.ntmps11
    go_wp2_with fail
    go_ret2
    exact ⟨.inl ⟨3, E.out, rfl⟩, Below.refl _ _⟩
  have f1 : decide ((1048576 : Int) < (s.len : Int)) = false := by simp; omega
  have f1n : decide (1048576 < s.len) = false := by simp; omega
  have hLl := hL.lt
  have b0 : Below w.heap.size w (w.alloc (.cells (rrC s 0) 52)) := (Below.refl _ w).alloc (Nat.le_refl _) _
  have RD := veil (show Rd (w.alloc (.cells (rrC s 0) 52)) w.heap.size s 0 from ⟨Row.new _ _ _, hs.below b0, ht, fun p => by have := hs.lt p; omega, hL.step b0, by omega, by omega⟩)
  have HA := veil (show Fr.getAll s.b = match allP s.b [] with | .error e => .error e | .ok l => .ok l.reverse from Fr.prog_all s.b (by omega))
  have B0 := veil b0
  have hs0 : (w.alloc (.cells (rrC s 0) 52)).heap.size = w.heap.size + 1 := by simp
  clear hl hbl hs ht hL b0
  go_enter Tryd.func11, Tryd.ntmps11
  go_wp2_with fail
  refine (fr_frames w.heap.size s 0 _ RD.out).mono ?_
  rintro x1 w1 ⟨hp, hg⟩
  have B1 := veil (show Below w.heap.size w w1 from B0.out.trans ⟨hg.os, hg.tape, hg.output, hg.size, fun k hk => hg.block k (by rw [hs0]; omega) (fun e => by have := Option.some.inj e; omega)⟩)
  clear hg
  rcases hp with ⟨e, he, rfl⟩ | ⟨Fs, lv, he, rfl, hO, hF⟩
  · have E := veil (show Fr.getAll s.b = .error e by rw [HA.out, he])
    clear he
    go_wp2_with fail
    go_ret2
    exact ⟨.inl ⟨e, E.out, rfl⟩, B1.out⟩
  · have hge : Fr.getAll s.b = .ok (Fs.map FrM.fr) := by rw [HA.out, he]; simp only [List.reverse_reverse]
    have hO2 := own_low2 hO (show w.heap.size ≤ (w.alloc (.cells (rrC s 0) 52)).heap.size + 3 by omega)
    have hF2 : ∀ F ∈ Fs, FrNew w.heap.size w1 F := fun F hf => (hF F hf).low (by omega)
    obtain ⟨fs, rfl, hok, hfl⟩ := fs_own rfl hO2 hF2
    have RES := veil (show GetPost w s.b (.returned (.tuple #[.slice fs.a fs.len fs.cap, .int .i64 0])) w1 from .inr ⟨fs, by show _ = Except.ok (fs.l.map FrM.fr); rw [hfl]; exact hge, rfl, hok, ⟨by
        have := (Fr.get_told hge).2.2.1
        rw [List.length_map] at this
        rw [← hok.hb, hfl]
        exact this, fun j hj => by
        have hj' : j < Fs.length := by rw [← hfl, hok.hb]; exact hj
        have hmem : gf Fs j ∈ Fs := by unfold gf; rw [List.getElem?_eq_getElem hj']; exact List.getElem_mem hj'
        have := told_le hge (List.mem_map.2 ⟨gf Fs j, hmem, rfl⟩)
        rw [hfl]
        have h1 := (hF2 _ hmem).dok.hb
        have h2 := (hF2 _ hmem).rok.hb
        have h3 : (gf Fs j).data.b.length ≤ 1048584 ∧ (gf Fs j).ranges.l.length ≤ 64 := this
        omega⟩, by
        have hll := hok.hb
        rw [hfl] at hll
        rw [hfl, ← hll]
        rw [← hll] at hO2
        exact hO2, by rw [hfl]; exact hF2⟩)
    clear he hO hF hge hO2 hF2 hok hfl
    go_wp2_with fail
    go_ret2
    exact ⟨RES.out, B1.out⟩
end Go.Proofs.YtjhgelhdhdcmfaaDoor
