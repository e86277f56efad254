/-
  What becomes of a frame is put down, if it is the sender's own: Got, Lost.
-/
import Derived.Test.YtnlckmopgkabpaaGsSnLost
namespace Go.Proofs.Ytnlckmopgkabpaa
open Go Go.RowKit

namespace Sr
open Sd
theorem its_mine {s : Snd} {f : FrM} (h : itsB s f = true) : Mine s f.offset f.data.b f.fin := by
  unfold itsB at h
  rw [Bool.and_eq_true, decide_eq_true_eq] at h
  exact h.2
theorem plF_le (p n : Nat) (fin : Bool) : (plF p n fin).1 ≤ (plF p n fin).2 := by
  unfold plF
  show p ≤ if fin = true then p + n + 1 else p + n
  split <;> omega
set_option maxHeartbeats 1000000 in
theorem heard_any {w : World} {g bs : Nat} {wr cm ls : Value} {s : Snd} {C L : List Rn} (h : SnOk w g wr cm ls s C L) (f : FrM) (hf : f.Ok w) (hdl : f.data.len < 140737488355328)
    (dof : Nat) (eg : ∀ args w, (callFunc dof args).run Try.prog w = .ok (.enter dof args) w) (K : World → World → Prop)
    (hdo : itsB s f = true → s.reset = false → ∀ W, Below w.heap.size w W → Calls Try.prog dof #[rcA (plF f.offset f.data.b.length f.fin), .pointer (some ⟨bs, 0, none⟩)] W fun e w' => (∃ v, e = .returned v) ∧ K W w') :
    Calls Try.prog 24 #[.pointer (some ⟨g, 0, none⟩), .agg f.cells, .func (.func dof) #[] #[.pointer (some ⟨bs, 0, none⟩)]] w fun e w' =>
      (itsB s f = false ∧ e = .returned (.int .i64 1) ∧ Below w.heap.size w w') ∨ (itsB s f = true ∧ e = .returned (.int .i64 0) ∧ ((s.reset = true ∧ Below w.heap.size w w') ∨ (s.reset = false ∧ ∃ W, Below w.heap.size w W ∧ K W w'))) := by
  have hba := (Below.refl _ w).alloc (Nat.le_refl _) (.cells f.cells 37)
  have HBA := veil hba
  have OK0 := veil (h.below hba)
  have HF := veil (hf.below hba)
  have RF := veil (Row.new w 37 f.cells)
  have HDO := veil hdo
  have T1 := veil (there_yes (h.below hba))
  clear h hf hdo hba
  go_enter Try.func24, Try.ntmps24
  go_wp2_with fail
  generalize w.alloc (.cells f.cells 37) = w0 at *
  refine T1.out.mono ?_
  rintro e1 w1 ⟨rfl, rfl⟩
  obtain ⟨k0, k1, k2, k3, k4, k5, k6, k7⟩ := fr_cells RF.out
  have OF := veil (of_any OK0.out f HF.out hdl)
  unfold FrM.cells at OF
  clear T1
  go_wp2_with fail
  refine OF.out.mono ?_
  rintro e2 w2 ⟨⟨⟨p, t⟩, rfl, hr⟩, hb2⟩
  have HR := veil hr
  have HB2 := veil (HBA.out.trans (hb2.mono HBA.out.size))
  have OK2 := OK0.out.below hb2
  clear hr OF
  have hb3 : Below w2.heap.size w2 (w2.alloc (.cells #[.int .u64 (p : Int), .int .u64 (t : Int)] 60)) := (Below.refl _ w2).alloc (Nat.le_refl _) _
  have HB3 := veil (HB2.out.trans (hb3.mono HB2.out.size))
  have OK3 := OK2.below hb3
  have c8 := OK3.row.cell 8
  have R3 := Row.new w2 60 #[.int .u64 (p : Int), .int .u64 (t : Int)]
  have x0 := R3.cell 0
  have x1 := R3.cell 1
  unfold snC at c8
  unfold rcA
  simp only
  obtain ⟨D, hD⟩ : ∃ D, itsB s f = D := ⟨_, rfl⟩
  obtain ⟨Z, hZ⟩ : ∃ Z, s.reset = Z := ⟨_, rfl⟩
  rw [hD]
  rw [hZ] at c8
  rw [hD] at HR
  have HDO := veil (fun h1 h2 => HDO.out (by rw [hD]; exact h1) (by rw [hZ]; exact h2))
  have HD := veil hD
  have HZ := veil hZ
  clear hD hZ hb2 hb3 OK2 OK3 R3 OK0 HF RF k0 k1 k2 k3 k4 k5 k6 k7
  cases D with
  | false =>
    clear HDO HR
    go_wp2_with fail
    go_ret
    exact .inl ⟨HD.out, rfl, HB3.out⟩
  | true =>
    have hpt := HR.out rfl
    cases Z with
    | true =>
      clear HDO HR
      go_wp2_with fail
      go_ret
      exact .inr ⟨HD.out, rfl, .inl ⟨HZ.out, HB3.out⟩⟩
    | false =>
      have HDW := veil (HDO.out rfl rfl _ HB3.out)
      rw [← hpt] at HDW
      unfold rcA at HDW
      simp only at HDW
      clear HDO HR
      go_wp2_with fail
      refine HDW.out.mono ?_
      rintro e4 w4 ⟨⟨v, rfl⟩, hK⟩
      have HK := veil hK
      clear hK
      go_wp2_with fail
      go_ret
      exact .inr ⟨HD.out, rfl, .inr ⟨HZ.out, _, HB3.out, HK.out⟩⟩
/-- What Got and Lost answer, and what becomes of the sender. -/
def HeardP (w w' : World) (g : Nat) (s s' : Snd) (own : Nat → Prop) (f : FrM) (e : Ending) : Prop :=
  (itsB s f = false ∧ e = .returned (.int .i64 1) ∧ SnS w' g s own ∧ Below w.heap.size w w') ∨
  (itsB s f = true ∧ e = .returned (.int .i64 0) ∧ ∃ own', SnS w' g s' own' ∧ After own w w' own')
def gotF (s : Snd) (f : FrM) : Snd := got s f.offset f.data.b.length f.fin
def lostF (s : Snd) (f : FrM) : Snd := lost s f.offset f.data.b.length f.fin
theorem snS_of {w w' : World} {g : Nat} {s' : Snd} {own : Nat → Prop} {wr cm ls wr' cm' ls' : Value} {C L : List Rn} {W3 : World} (h2 : ∀ k, OwnS g wr cm ls k → own k)
    (a : SnOk W3 g wr' cm' ls' s' C L) (b : ∀ k, OwnS g wr' cm' ls' k → OwnS g wr cm ls k ∨ w.heap.size ≤ k) (e : w'.heap = W3.heap) (kp : KeepP (OwnS g wr cm ls) w w') : ∃ own', SnS w' g s' own' ∧ After own w w' own' := by
  refine ⟨fun k => (own k ∨ w.heap.size ≤ k) ∧ k < w'.heap.size, ⟨wr', cm', ls', C, L, a.same (fun k _ => by rw [e]), fun k hk => ⟨(b k hk).imp_left (h2 k), by have := a.lt k hk; rw [e]; exact this⟩, fun k hk => hk.2⟩, kp.mono h2, fun k hk => hk.1⟩
set_option maxHeartbeats 1000000 in
theorem got_any (w : World) (g : Nat) (s : Snd) (own : Nat → Prop) (h : SnS w g s own) (f : FrM) (hf : f.Ok w) (hdl : f.data.len < 140737488355328) :
    Calls Try.prog 12 #[.pointer (some ⟨g, 0, none⟩), .agg f.cells] w fun e w' => HeardP w w' g s (gotF s f) own f e := by
  obtain ⟨wr, cm, ls, C, L, h1, h2, h3⟩ := h
  have hb1 := (Below.refl _ w).alloc (Nat.le_refl _) (.cells #[.pointer (some ⟨g, 0, none⟩)] 24)
  have hb2 := hb1.alloc hb1.size (.cells f.cells 37)
  have B1 := (Row.new w 24 #[.pointer (some ⟨g, 0, none⟩)]).alloc (.cells f.cells 37)
  have RF := Row.new (w.alloc (.cells #[.pointer (some ⟨g, 0, none⟩)] 24)) 37 f.cells
  rw [show (w.alloc (.cells #[.pointer (some ⟨g, 0, none⟩)] 24)).heap.size = w.heap.size + 1 by simp] at RF
  have HB := veil hb2
  have OK := veil (h1.below hb2)
  have HSO := veil (show SnOk w g wr cm ls s C L ∧ (∀ k, OwnS g wr cm ls k → own k) ∧ (∀ k, own k → k < w.heap.size) from ⟨h1, h2, h3⟩)
  have HF := veil (hf.below hb2)
  have b0 := B1.cell 0
  obtain ⟨k0, k1, k2, k3, k4, k5, k6, k7⟩ := fr_cells RF
  have HB1 := veil B1
  clear h1 h2 h3 hf hb1 hb2 B1 RF
  obtain ⟨w0, hw0⟩ : ∃ w0, (w.alloc (.cells #[.pointer (some ⟨g, 0, none⟩)] 24)).alloc (.cells f.cells 37) = w0 := ⟨_, rfl⟩
  rw [hw0] at HB OK HF HB1 b0 k0 k1 k2 k3 k4 k5 k6 k7
  have HA := veil (heard_any OK.out f HF.out hdl (bs := w.heap.size) 25 (enters_of Try.func25 (by kernel_rfl) rfl)
    (fun W w' => ∃ w1 W1 W2 W3 u1 u2, Below W.heap.size W w1 ∧ Sr.Done w1 W1 cm u1 (add C (plF f.offset f.data.b.length f.fin)) ∧ W2.heap = (W1.setCell ⟨g, 6, none⟩ u1).heap ∧ Sr.Done W2 W3 ls u2 (cut L (plF f.offset f.data.b.length f.fin)) ∧ w'.heap = (W3.setCell ⟨g, 7, none⟩ u2).heap ∧ KeepP (OwnS g wr cm ls) W w')
    (fun _ _ W hW => got1_any (OK.out.below hW) (HB1.out.below hW HB1.out.lt) (plF_le _ _ _)))
  unfold FrM.cells at HA
  go_enter Try.func12, Try.ntmps12
  go_wp2_with fail
  refine HA.out.mono ?_
  rintro e1 w1 hp
  rcases hp with ⟨hi, rfl, hb⟩ | ⟨hi, rfl, hp⟩
  · have HB9 := veil (HB.out.trans (hb.mono HB.out.size))
    have HI := veil hi
    clear hb hi
    go_wp2_with fail
    go_ret
    exact .inl ⟨HI.out, rfl, ⟨wr, cm, ls, C, L, HSO.out.1.below HB9.out, HSO.out.2.1, fun k hk => Nat.lt_of_lt_of_le (HSO.out.2.2 k hk) HB9.out.size⟩, HB9.out⟩
  · have HI := veil hi
    have HP := veil hp
    clear hp hi
    go_wp2_with fail
    go_ret
    refine .inr ⟨HI.out, rfl, ?_⟩
    rcases HP.out with ⟨hr, hb⟩ | ⟨hr, W, hbW, wA, W1, W2, W3, u1, u2, hA, hD, hh2, hE, hh, kp⟩
    · have hb9 := HB.out.trans (hb.mono HB.out.size)
      have hg : gotF s f = s := by unfold gotF got; rw [if_pos hr]
      rw [hg]
      exact ⟨own, ⟨wr, cm, ls, C, L, HSO.out.1.below hb9, HSO.out.2.1, fun k hk => Nat.lt_of_lt_of_le (HSO.out.2.2 k hk) hb9.size⟩, After.same hb9⟩
    · have hbz := HB.out.trans (hbW.mono HB.out.size)
      have hba := hbz.trans (hA.mono hbz.size)
      obtain ⟨z1, z2⟩ := got_ok (HSO.out.1.below hba) hr (its_mine HI.out) hD hh2 hE
      exact snS_of HSO.out.2.1 z1 (fun k hk => (z2 k hk).imp_right (fun q => Nat.le_trans hba.size q)) hh (onto (KeepP.of_below hbz) kp (fun _ _ q => q))
set_option maxHeartbeats 1000000 in
theorem lost_any (w : World) (g : Nat) (s : Snd) (own : Nat → Prop) (h : SnS w g s own) (f : FrM) (hf : f.Ok w) (hdl : f.data.len < 140737488355328) :
    Calls Try.prog 13 #[.pointer (some ⟨g, 0, none⟩), .agg f.cells] w fun e w' => HeardP w w' g s (lostF s f) own f e := by
  obtain ⟨wr, cm, ls, C, L, h1, h2, h3⟩ := h
  have hb1 := (Below.refl _ w).alloc (Nat.le_refl _) (.cells #[.pointer (some ⟨g, 0, none⟩)] 24)
  have hb2 := hb1.alloc hb1.size (.cells f.cells 37)
  have B1 := (Row.new w 24 #[.pointer (some ⟨g, 0, none⟩)]).alloc (.cells f.cells 37)
  have RF := Row.new (w.alloc (.cells #[.pointer (some ⟨g, 0, none⟩)] 24)) 37 f.cells
  rw [show (w.alloc (.cells #[.pointer (some ⟨g, 0, none⟩)] 24)).heap.size = w.heap.size + 1 by simp] at RF
  have HB := veil hb2
  have OK := veil (h1.below hb2)
  have HSO := veil (show SnOk w g wr cm ls s C L ∧ (∀ k, OwnS g wr cm ls k → own k) ∧ (∀ k, own k → k < w.heap.size) from ⟨h1, h2, h3⟩)
  have HF := veil (hf.below hb2)
  have b0 := B1.cell 0
  obtain ⟨k0, k1, k2, k3, k4, k5, k6, k7⟩ := fr_cells RF
  have HB1 := veil B1
  clear h1 h2 h3 hf hb1 hb2 B1 RF
  obtain ⟨w0, hw0⟩ : ∃ w0, (w.alloc (.cells #[.pointer (some ⟨g, 0, none⟩)] 24)).alloc (.cells f.cells 37) = w0 := ⟨_, rfl⟩
  rw [hw0] at HB OK HF HB1 b0 k0 k1 k2 k3 k4 k5 k6 k7
  have HA := veil (heard_any OK.out f HF.out hdl (bs := w.heap.size) 27 (enters_of Try.func27 (by kernel_rfl) rfl)
    (fun W w' => ∃ W3 u2, Sr.Done W W3 ls u2 (each add L (missing C (plF f.offset f.data.b.length f.fin))) ∧ w'.heap = (W3.setCell ⟨g, 7, none⟩ u2).heap ∧ KeepP (OwnS g wr cm ls) W w')
    (fun _ _ W hW => lost1_any (OK.out.below hW) (HB1.out.below hW HB1.out.lt) (plF_le _ _ _)))
  unfold FrM.cells at HA
  go_enter Try.func13, Try.ntmps13
  go_wp2_with fail
  refine HA.out.mono ?_
  rintro e1 w1 hp
  rcases hp with ⟨hi, rfl, hb⟩ | ⟨hi, rfl, hp⟩
  · have HB9 := veil (HB.out.trans (hb.mono HB.out.size))
    have HI := veil hi
    clear hb hi
    go_wp2_with fail
    go_ret
    exact .inl ⟨HI.out, rfl, ⟨wr, cm, ls, C, L, HSO.out.1.below HB9.out, HSO.out.2.1, fun k hk => Nat.lt_of_lt_of_le (HSO.out.2.2 k hk) HB9.out.size⟩, HB9.out⟩
  · have HI := veil hi
    have HP := veil hp
    clear hp hi
    go_wp2_with fail
    go_ret
    refine .inr ⟨HI.out, rfl, ?_⟩
    rcases HP.out with ⟨hr, hb⟩ | ⟨hr, W, hbW, W3, u2, hE, hh, kp⟩
    · have hb9 := HB.out.trans (hb.mono HB.out.size)
      have hg : lostF s f = s := by unfold lostF lost; rw [if_pos hr]
      rw [hg]
      exact ⟨own, ⟨wr, cm, ls, C, L, HSO.out.1.below hb9, HSO.out.2.1, fun k hk => Nat.lt_of_lt_of_le (HSO.out.2.2 k hk) hb9.size⟩, After.same hb9⟩
    · have hbz := HB.out.trans (hbW.mono HB.out.size)
      obtain ⟨r1, r2⟩ := lost_rep (HSO.out.1.below hbz).rep hr (its_mine HI.out)
      have hg : lost s f.offset f.data.b.length f.fin = { s with how := fun i => if (f.offset ≤ i ∧ i < f.offset + f.data.b.length) ∧ s.how i ≠ 3 then 2 else s.how i, fin := if f.fin = true ∧ s.fin ≠ 3 then 2 else s.fin } := by
        unfold lost; rw [if_neg (by rw [hr]; simp)]
      obtain ⟨z1, z2⟩ := lost_ok (HSO.out.1.below hbz) hE r1 (by rw [hg]) (by unfold snC; rw [r2, hg]; rfl)
      exact snS_of HSO.out.2.1 z1 (fun k hk => (z2 k hk).imp_right (fun q => Nat.le_trans hbz.size q)) hh (onto (KeepP.of_below hbz) kp (fun _ _ q => q))
end Sr
end Go.Proofs.Ytnlckmopgkabpaa
