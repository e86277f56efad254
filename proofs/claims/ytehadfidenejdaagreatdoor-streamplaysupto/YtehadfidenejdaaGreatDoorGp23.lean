/-
  Out of SnHeard, SnFr, SdLives.
-/
import Derived.Test.YtehadfidenejdaaGreatDoorGp22
import Derived.Test.YtehadfidenejdaaGreatDoorGp14

/-! What becomes of a frame is put down, if it is the sender's own: Got, Lost. -/
namespace Go.Proofs.YtehadfidenejdaaGreatDoor
open Go Go.RowKit

namespace Sr
open Sd
theorem its_mine {s : Snd} {f : FrM} (h : itsB s f = true) : Mine s f.offset f.data.b f.fin := by
  unfold itsB at h
  rw [Bool.and_eq_true, decide_eq_true_eq] at h
  exact h.2
theorem plF_le (p n : Nat) (fin : Bool) : (plF p n fin).1 ≤ (plF p n fin).2 := by
  unfold plF
  show p ≤ if fin = true then p + n + 1 else p + n
  split <;> omega
set_option maxHeartbeats 1000000 in
theorem heard_any {w : World} {g bs : Nat} {wr cm ls : Value} {s : Snd} {C L : List Rn} (h : SnOk w g wr cm ls s C L) (f : FrM) (hf : f.Ok w) (hdl : f.data.len < 140737488355328)
    (dof : Nat) (eg : ∀ args w, (callFunc dof args).run Tryz.prog w = .ok (.enter dof args) w) (K : World → World → Prop)
    (hdo : itsB s f = true → s.reset = false → ∀ W, Below w.heap.size w W → Calls Tryz.prog dof #[rcA (plF f.offset f.data.b.length f.fin), .pointer (some ⟨bs, 0, none⟩)] W fun e w' => (∃ v, e = .returned v) ∧ K W w') :
    Calls Tryz.prog 44 #[.pointer (some ⟨g, 0, none⟩), .agg f.cells, .func (.func dof) #[] #[.pointer (some ⟨bs, 0, none⟩)]] w fun e w' =>
      (itsB s f = false ∧ e = .returned (.int .i64 1) ∧ Below w.heap.size w w') ∨ (itsB s f = true ∧ e = .returned (.int .i64 0) ∧ ((s.reset = true ∧ Below w.heap.size w w') ∨ (s.reset = false ∧ ∃ W, Below w.heap.size w W ∧ K W w'))) := by
  have hba := (Below.refl _ w).alloc (Nat.le_refl _) (.cells f.cells 28)
  have HBA := veil hba
  have OK0 := veil (h.below hba)
  have HF := veil (hf.below hba)
  have RF := veil (Row.new w 28 f.cells)
  have HDO := veil hdo
  have T1 := veil (there_yes (h.below hba))
  clear h hf hdo hba
  go_enter Tryz.func44, Tryz.ntmps44
  go_wp2_with fail
  generalize w.alloc (.cells f.cells 28) = w0 at *
  refine T1.out.mono ?_
  rintro e1 w1 ⟨rfl, rfl⟩
  obtain ⟨k0, k1, k2, k3, k4, k5, k6, k7⟩ := fr_cells RF.out
  have OF := veil (of_any OK0.out f HF.out hdl)
  unfold FrM.cells at OF
  clear T1
  go_wp2_with fail
  refine OF.out.mono ?_
  rintro e2 w2 ⟨⟨⟨p, t⟩, rfl, hr⟩, hb2⟩
  have HR := veil hr
  have HB2 := veil (HBA.out.trans (hb2.mono HBA.out.size))
  have OK2 := OK0.out.below hb2
  clear hr OF
  have hb3 : Below w2.heap.size w2 (w2.alloc (.cells #[.int .u64 (p : Int), .int .u64 (t : Int)] 77)) := (Below.refl _ w2).alloc (Nat.le_refl _) _
  have HB3 := veil (HB2.out.trans (hb3.mono HB2.out.size))
  have OK3 := OK2.below hb3
  have c8 := OK3.row.cell 8
  have R3 := Row.new w2 77 #[.int .u64 (p : Int), .int .u64 (t : Int)]
  have x0 := R3.cell 0
  have x1 := R3.cell 1
  unfold snC at c8
  unfold rcA
  simp only
  obtain ⟨D, hD⟩ : ∃ D, itsB s f = D := ⟨_, rfl⟩
  obtain ⟨Z, hZ⟩ : ∃ Z, s.reset = Z := ⟨_, rfl⟩
  rw [hD]
  rw [hZ] at c8
  rw [hD] at HR
  have HDO := veil (fun h1 h2 => HDO.out (by rw [hD]; exact h1) (by rw [hZ]; exact h2))
  have HD := veil hD
  have HZ := veil hZ
  clear hD hZ hb2 hb3 OK2 OK3 R3 OK0 HF RF k0 k1 k2 k3 k4 k5 k6 k7
  cases D with
  | false =>
    clear HDO HR
    go_wp2_with fail
    go_ret
    exact .inl ⟨HD.out, rfl, HB3.out⟩
  | true =>
    have hpt := HR.out rfl
    cases Z with
    | true =>
      clear HDO HR
      go_wp2_with fail
      go_ret
      exact .inr ⟨HD.out, rfl, .inl ⟨HZ.out, HB3.out⟩⟩
    | false =>
      have HDW := veil (HDO.out rfl rfl _ HB3.out)
      rw [← hpt] at HDW
      unfold rcA at HDW
      simp only at HDW
      clear HDO HR
      go_wp2_with fail
      refine HDW.out.mono ?_
      rintro e4 w4 ⟨⟨v, rfl⟩, hK⟩
      have HK := veil hK
      clear hK
      go_wp2_with fail
      go_ret
      exact .inr ⟨HD.out, rfl, .inr ⟨HZ.out, _, HB3.out, HK.out⟩⟩
/-- What Got and Lost answer, and what becomes of the sender. -/
def HeardP (w w' : World) (g : Nat) (s s' : Snd) (own : Nat → Prop) (f : FrM) (e : Ending) : Prop :=
  (itsB s f = false ∧ e = .returned (.int .i64 1) ∧ SnS w' g s own ∧ Below w.heap.size w w') ∨
  (itsB s f = true ∧ e = .returned (.int .i64 0) ∧ ∃ own', SnS w' g s' own' ∧ After own w w' own')
def gotF (s : Snd) (f : FrM) : Snd := got s f.offset f.data.b.length f.fin
def lostF (s : Snd) (f : FrM) : Snd := lost s f.offset f.data.b.length f.fin
theorem snS_of {w w' : World} {g : Nat} {s' : Snd} {own : Nat → Prop} {wr cm ls wr' cm' ls' : Value} {C L : List Rn} {W3 : World} (h2 : ∀ k, OwnS g wr cm ls k → own k)
    (a : SnOk W3 g wr' cm' ls' s' C L) (b : ∀ k, OwnS g wr' cm' ls' k → OwnS g wr cm ls k ∨ w.heap.size ≤ k) (e : w'.heap = W3.heap) (kp : KeepP (OwnS g wr cm ls) w w') : ∃ own', SnS w' g s' own' ∧ After own w w' own' := by
  refine ⟨fun k => (own k ∨ w.heap.size ≤ k) ∧ k < w'.heap.size, ⟨wr', cm', ls', C, L, a.same (fun k _ => by rw [e]), fun k hk => ⟨(b k hk).imp_left (h2 k), by have := a.lt k hk; rw [e]; exact this⟩, fun k hk => hk.2⟩, kp.mono h2, fun k hk => hk.1⟩
set_option maxHeartbeats 1000000 in
theorem got_any (w : World) (g : Nat) (s : Snd) (own : Nat → Prop) (h : SnS w g s own) (f : FrM) (hf : f.Ok w) (hdl : f.data.len < 140737488355328) :
    Calls Tryz.prog 19 #[.pointer (some ⟨g, 0, none⟩), .agg f.cells] w fun e w' => HeardP w w' g s (gotF s f) own f e := by
  obtain ⟨wr, cm, ls, C, L, h1, h2, h3⟩ := h
  have hb1 := (Below.refl _ w).alloc (Nat.le_refl _) (.cells #[.pointer (some ⟨g, 0, none⟩)] 32)
  have hb2 := hb1.alloc hb1.size (.cells f.cells 28)
  have B1 := (Row.new w 32 #[.pointer (some ⟨g, 0, none⟩)]).alloc (.cells f.cells 28)
  have RF := Row.new (w.alloc (.cells #[.pointer (some ⟨g, 0, none⟩)] 32)) 28 f.cells
  rw [show (w.alloc (.cells #[.pointer (some ⟨g, 0, none⟩)] 32)).heap.size = w.heap.size + 1 by simp] at RF
  have HB := veil hb2
  have OK := veil (h1.below hb2)
  have HSO := veil (show SnOk w g wr cm ls s C L ∧ (∀ k, OwnS g wr cm ls k → own k) ∧ (∀ k, own k → k < w.heap.size) from ⟨h1, h2, h3⟩)
  have HF := veil (hf.below hb2)
  have b0 := B1.cell 0
  obtain ⟨k0, k1, k2, k3, k4, k5, k6, k7⟩ := fr_cells RF
  have HB1 := veil B1
  clear h1 h2 h3 hf hb1 hb2 B1 RF
  obtain ⟨w0, hw0⟩ : ∃ w0, (w.alloc (.cells #[.pointer (some ⟨g, 0, none⟩)] 32)).alloc (.cells f.cells 28) = w0 := ⟨_, rfl⟩
  rw [hw0] at HB OK HF HB1 b0 k0 k1 k2 k3 k4 k5 k6 k7
  have HA := veil (heard_any OK.out f HF.out hdl (bs := w.heap.size) 45 (enters_of Tryz.func45 (by kernel_rfl) rfl)
    (fun W w' => ∃ w1 W1 W2 W3 u1 u2, Below W.heap.size W w1 ∧ Sr.Done w1 W1 cm u1 (add C (plF f.offset f.data.b.length f.fin)) ∧ W2.heap = (W1.setCell ⟨g, 6, none⟩ u1).heap ∧ Sr.Done W2 W3 ls u2 (cut L (plF f.offset f.data.b.length f.fin)) ∧ w'.heap = (W3.setCell ⟨g, 7, none⟩ u2).heap ∧ KeepP (OwnS g wr cm ls) W w')
    (fun _ _ W hW => got1_any (OK.out.below hW) (HB1.out.below hW HB1.out.lt) (plF_le _ _ _)))
  unfold FrM.cells at HA
  go_enter Tryz.func19, Tryz.ntmps19
  go_wp2_with fail
  refine HA.out.mono ?_
  rintro e1 w1 hp
  rcases hp with ⟨hi, rfl, hb⟩ | ⟨hi, rfl, hp⟩
  · have HB9 := veil (HB.out.trans (hb.mono HB.out.size))
    have HI := veil hi
    clear hb hi
    go_wp2_with fail
    go_ret
    exact .inl ⟨HI.out, rfl, ⟨wr, cm, ls, C, L, HSO.out.1.below HB9.out, HSO.out.2.1, fun k hk => Nat.lt_of_lt_of_le (HSO.out.2.2 k hk) HB9.out.size⟩, HB9.out⟩
  · have HI := veil hi
    have HP := veil hp
    clear hp hi
    go_wp2_with fail
    go_ret
    refine .inr ⟨HI.out, rfl, ?_⟩
    rcases HP.out with ⟨hr, hb⟩ | ⟨hr, W, hbW, wA, W1, W2, W3, u1, u2, hA, hD, hh2, hE, hh, kp⟩
    · have hb9 := HB.out.trans (hb.mono HB.out.size)
      have hg : gotF s f = s := by unfold gotF got; rw [if_pos hr]
      rw [hg]
      exact ⟨own, ⟨wr, cm, ls, C, L, HSO.out.1.below hb9, HSO.out.2.1, fun k hk => Nat.lt_of_lt_of_le (HSO.out.2.2 k hk) hb9.size⟩, After.same hb9⟩
    · have hbz := HB.out.trans (hbW.mono HB.out.size)
      have hba := hbz.trans (hA.mono hbz.size)
      obtain ⟨z1, z2⟩ := got_ok (HSO.out.1.below hba) hr (its_mine HI.out) hD hh2 hE
      exact snS_of HSO.out.2.1 z1 (fun k hk => (z2 k hk).imp_right (fun q => Nat.le_trans hba.size q)) hh (onto (KeepP.of_below hbz) kp (fun _ _ q => q))
set_option maxHeartbeats 1000000 in
theorem lost_any (w : World) (g : Nat) (s : Snd) (own : Nat → Prop) (h : SnS w g s own) (f : FrM) (hf : f.Ok w) (hdl : f.data.len < 140737488355328) :
    Calls Tryz.prog 21 #[.pointer (some ⟨g, 0, none⟩), .agg f.cells] w fun e w' => HeardP w w' g s (lostF s f) own f e := by
  obtain ⟨wr, cm, ls, C, L, h1, h2, h3⟩ := h
  have hb1 := (Below.refl _ w).alloc (Nat.le_refl _) (.cells #[.pointer (some ⟨g, 0, none⟩)] 32)
  have hb2 := hb1.alloc hb1.size (.cells f.cells 28)
  have B1 := (Row.new w 32 #[.pointer (some ⟨g, 0, none⟩)]).alloc (.cells f.cells 28)
  have RF := Row.new (w.alloc (.cells #[.pointer (some ⟨g, 0, none⟩)] 32)) 28 f.cells
  rw [show (w.alloc (.cells #[.pointer (some ⟨g, 0, none⟩)] 32)).heap.size = w.heap.size + 1 by simp] at RF
  have HB := veil hb2
  have OK := veil (h1.below hb2)
  have HSO := veil (show SnOk w g wr cm ls s C L ∧ (∀ k, OwnS g wr cm ls k → own k) ∧ (∀ k, own k → k < w.heap.size) from ⟨h1, h2, h3⟩)
  have HF := veil (hf.below hb2)
  have b0 := B1.cell 0
  obtain ⟨k0, k1, k2, k3, k4, k5, k6, k7⟩ := fr_cells RF
  have HB1 := veil B1
  clear h1 h2 h3 hf hb1 hb2 B1 RF
  obtain ⟨w0, hw0⟩ : ∃ w0, (w.alloc (.cells #[.pointer (some ⟨g, 0, none⟩)] 32)).alloc (.cells f.cells 28) = w0 := ⟨_, rfl⟩
  rw [hw0] at HB OK HF HB1 b0 k0 k1 k2 k3 k4 k5 k6 k7
  have HA := veil (heard_any OK.out f HF.out hdl (bs := w.heap.size) 48 (enters_of Tryz.func48 (by kernel_rfl) rfl)
    (fun W w' => ∃ W3 u2, Sr.Done W W3 ls u2 (each add L (missing C (plF f.offset f.data.b.length f.fin))) ∧ w'.heap = (W3.setCell ⟨g, 7, none⟩ u2).heap ∧ KeepP (OwnS g wr cm ls) W w')
    (fun _ _ W hW => lost1_any (OK.out.below hW) (HB1.out.below hW HB1.out.lt) (plF_le _ _ _)))
  unfold FrM.cells at HA
  go_enter Tryz.func21, Tryz.ntmps21
  go_wp2_with fail
  refine HA.out.mono ?_
  rintro e1 w1 hp
  rcases hp with ⟨hi, rfl, hb⟩ | ⟨hi, rfl, hp⟩
  · have HB9 := veil (HB.out.trans (hb.mono HB.out.size))
    have HI := veil hi
    clear hb hi
    go_wp2_with fail
    go_ret
    exact .inl ⟨HI.out, rfl, ⟨wr, cm, ls, C, L, HSO.out.1.below HB9.out, HSO.out.2.1, fun k hk => Nat.lt_of_lt_of_le (HSO.out.2.2 k hk) HB9.out.size⟩, HB9.out⟩
  · have HI := veil hi
    have HP := veil hp
    clear hp hi
    go_wp2_with fail
    go_ret
    refine .inr ⟨HI.out, rfl, ?_⟩
    rcases HP.out with ⟨hr, hb⟩ | ⟨hr, W, hbW, W3, u2, hE, hh, kp⟩
    · have hb9 := HB.out.trans (hb.mono HB.out.size)
      have hg : lostF s f = s := by unfold lostF lost; rw [if_pos hr]
      rw [hg]
      exact ⟨own, ⟨wr, cm, ls, C, L, HSO.out.1.below hb9, HSO.out.2.1, fun k hk => Nat.lt_of_lt_of_le (HSO.out.2.2 k hk) hb9.size⟩, After.same hb9⟩
    · have hbz := HB.out.trans (hbW.mono HB.out.size)
      obtain ⟨r1, r2⟩ := lost_rep (HSO.out.1.below hbz).rep hr (its_mine HI.out)
      have hg : lost s f.offset f.data.b.length f.fin = { s with how := fun i => if (f.offset ≤ i ∧ i < f.offset + f.data.b.length) ∧ s.how i ≠ 3 then 2 else s.how i, fin := if f.fin = true ∧ s.fin ≠ 3 then 2 else s.fin } := by
        unfold lost; rw [if_neg (by rw [hr]; simp)]
      obtain ⟨z1, z2⟩ := lost_ok (HSO.out.1.below hbz) hE r1 (by rw [hg]) (by unfold snC; rw [r2, hg]; rfl)
      exact snS_of HSO.out.2.1 z1 (fun k hk => (z2 k hk).imp_right (fun q => Nat.le_trans hbz.size q)) hh (onto (KeepP.of_below hbz) kp (fun _ _ q => q))
end Sr
end Go.Proofs.YtehadfidenejdaaGreatDoor

/-! Frames that a sender told: as frames in memory, and what keeps them. -/
namespace Go.Proofs.YtehadfidenejdaaGreatDoor
open Go Go.RowKit

namespace Sr
open Sd
theorem sl_keepP {w w' : World} {s : SL} {st : Nat → Prop} (h : s.Ok w) (k : KeepP st w w') (hs : 0 < s.len → ¬ st s.g) : s.Ok w' := h.same (fun p => k.block _ (h.lt p) (hs p)) k.size
/-- A frame that was told. -/
def frT (id p : Nat) (fn : Bool) (d : List By) (b : Nat) : FrM := ⟨7, id, p, 0, 0, fn, ⟨some ⟨b, 0, none⟩, d.length, d.length, b, 0, d⟩, ⟨none, 0, 0, 0, 0, []⟩⟩
theorem frT_ok {w : World} {B id p b n : Nat} {fn : Bool} {d : List By} (hid : id ≤ 4611686018427387903) (hp : p ≤ 4611686018427387903) (hd : d.length = n) (h : w.ownsRow B 5 1 (.slice (some ⟨b, 0, none⟩) n n) n (vb d)) : (frT id p fn d b).Ok w := by
  subst hd
  obtain ⟨s, e1, e2, e3, e4, _⟩ := SL.of_own h
  refine ⟨⟨rfl, Nat.le_refl _, (fun e => by cases e), fun _ => rfl, fun _ => (h.lt b rfl).2, fun j hj => ?_⟩, ⟨rfl, Nat.le_refl _, fun _ => ⟨rfl, rfl⟩, fun q => absurd q (Nat.lt_irrefl _), fun q => absurd q (Nat.lt_irrefl _), fun _ q => absurd q (Nat.not_lt_zero _), fun j => ⟨by show (gr [] j).1 < _; simp [gr], by show (gr [] j).2 < _; simp [gr]⟩⟩, by show (7 : Nat) < 256; decide, by show id < _; omega, by show p < _; omega, by show (0 : Nat) < _; decide, by show (0 : Nat) < _; decide⟩
  have hj' : j < d.length := hj
  have h4 := e4.cell j (by omega)
  have h5 := e4.at_ (by omega)
  have e6 : s.a = some ⟨b, 0, none⟩ := by
    have e1 : Value.slice s.a s.len s.cap = _ := e1
    injection e1
  rw [e6] at h5
  injection h5 with h5
  injection h5 with h5 h6
  rw [e3, ← h5, ← h6] at h4
  exact h4
theorem frD_cells (id p : Nat) (fn : Bool) (d : List By) (b n : Nat) (hd : d.length = n) : frD id p fn (.slice (some ⟨b, 0, none⟩) n n) = (frT id p fn d b).cells := by
  subst hd
  rfl
/-- What Take answers, told by frames. -/
def TakeF (w w' : World) (g : Nat) (s : Snd) (own : Nat → Prop) (n : Int) (fr : Nat) (e : Ending) : Prop :=
  match span s n fr with
  | none => e = .returned (.tuple #[.agg fr0, .bool false]) ∧ SnS w' g s own ∧ Below w.heap.size w w'
  | some (p, q) => ∃ b own', e = .returned (.tuple #[.agg (frT s.id p (finB s q) (Sd.cut s.b p q) b).cells, .bool true]) ∧
      (frT s.id p (finB s q) (Sd.cut s.b p q) b).Ok w' ∧ SnS w' g (tell s p q) own' ∧ After own w w' own' ∧ ¬ own' b ∧ w.heap.size ≤ b ∧ b < w'.heap.size
theorem snS_fine {w : World} {g : Nat} {s : Snd} {own : Nat → Prop} (h : SnS w g s own) : Fine s := by
  obtain ⟨_, _, _, _, _, h1, _⟩ := h
  exact h1.rep.fine
theorem take_fr (w : World) (g : Nat) (s : Snd) (own : Nat → Prop) (h : SnS w g s own) (n : Int) (fr : Nat) (hn : n ≤ 9223372036854775807) (hfr : fr ≤ 18446744073709551615) :
    Calls Tryz.prog 15 #[.pointer (some ⟨g, 0, none⟩), .int .i64 n, .int .u64 (fr : Int)] w fun e w' => TakeF w w' g s own n fr e := by
  refine (take_any w g s own h n fr hn hfr).mono ?_
  intro e w' hp
  have hf := snS_fine h
  unfold TakeP at hp
  unfold TakeF
  cases hs : span s n fr with
  | none => rw [hs] at hp; exact hp
  | some pq =>
    obtain ⟨p, q⟩ := pq
    rw [hs] at hp
    obtain ⟨b, own', rfl, h1, h2, h3, h4⟩ := hp
    have sp := span_some hf hs
    have hl := Sd.cut_length sp.le sp.top
    have h5 := h1.lt b rfl
    refine ⟨b, own', by rw [frD_cells _ _ _ _ _ _ hl], frT_ok hf.id (by have := sp.le; have := sp.top; have := hf.len; omega) hl h1, h2, h3, h4, h5.1, h5.2⟩
theorem head_frT {s : Snd} {id p : Nat} {fn : Bool} {d : List By} {b : Nat} (h : s.id = id) : headB s (frT id p fn d b) = true := by
  subst h
  unfold headB frT
  simp
theorem its_frT {s : Snd} {id p : Nat} {fn : Bool} {d : List By} {b : Nat} (h : s.id = id) : itsB s (frT id p fn d b) = decide (Mine s p d fn) := by
  unfold itsB
  rw [head_frT h, Bool.true_and]
  rfl
/-- A sender that is made behind a world. -/
structure SnA (w W : World) (g : Nat) (s : Snd) (own : Nat → Prop) : Prop where
  sn : SnS W g s own
  bel : Below w.heap.size w W
  ow : ∀ k, own k → w.heap.size ≤ k
theorem SnA.after {w W W' : World} {g : Nat} {s s' : Snd} {own own' : Nat → Prop} (x : SnA w W g s own) (h : SnS W' g s' own') (a : After own W W' own') : SnA w W' g s' own' :=
  ⟨h, x.bel.trans (a.1.below x.ow x.bel.size), fun k hk => (a.2 k hk).elim (x.ow k) (fun q => Nat.le_trans x.bel.size q)⟩
theorem SnA.below {w W W' : World} {g : Nat} {s : Snd} {own : Nat → Prop} (x : SnA w W g s own) (hb : Below W.heap.size W W') : SnA w W' g s own :=
  ⟨x.sn.below hb, x.bel.trans (hb.mono x.bel.size), x.ow⟩
/-- A frame that lies beside a sender. -/
structure FrH (W : World) (own : Nat → Prop) (f : FrM) : Prop where
  ok : f.Ok W
  nd : 0 < f.data.len → ¬ own f.data.g
  nil : f.ranges.len = 0
theorem FrH.keep {W W' : World} {own : Nat → Prop} {f : FrM} (x : FrH W own f) (k : KeepP own W W') : f.Ok W' :=
  ⟨sl_keepP x.ok.data k x.nd, x.ok.ranges.same (fun p => absurd p (by rw [x.nil]; decide)) k.size, x.ok.k8, x.ok.st, x.ok.of, x.ok.li, x.ok.co⟩
theorem FrH.after {W W' : World} {own own' : Nat → Prop} {f : FrM} (x : FrH W own f) (a : After own W W' own') : FrH W' own' f :=
  ⟨x.keep a.1, fun p e => (a.2 _ e).elim (x.nd p) (fun q => by have := x.ok.data.lt p; omega), x.nil⟩
theorem FrH.below {W W' : World} {own : Nat → Prop} {f : FrM} (x : FrH W own f) (hb : Below W.heap.size W W') : FrH W' own f := ⟨x.ok.below hb, x.nd, x.nil⟩
/-- And a variable that holds it. -/
structure FrV (W : World) (own : Nat → Prop) (r : Nat) (f : FrM) : Prop where
  row : Row W r 28 f.cells
  nr : ¬ own r
  hf : FrH W own f
theorem FrV.after {W W' : World} {own own' : Nat → Prop} {r : Nat} {f : FrM} (x : FrV W own r f) (a : After own W W' own') : FrV W' own' r f :=
  ⟨(a.1.block r x.row.lt x.nr).trans x.row, fun e => (a.2 _ e).elim x.nr (fun q => by have := x.row.lt; omega), x.hf.after a⟩
theorem FrV.below {W W' : World} {own : Nat → Prop} {r : Nat} {f : FrM} (x : FrV W own r f) (hb : Below W.heap.size W W') : FrV W' own r f := ⟨x.row.below hb x.row.lt, x.nr, x.hf.below hb⟩
theorem FrV.new {W : World} {g : Nat} {s : Snd} {own : Nat → Prop} {f : FrM} (h : SnS W g s own) (x : FrH W own f) : FrV (W.alloc (.cells f.cells 28)) own W.heap.size f := by
  refine ⟨Row.new _ _ _, fun e => ?_, x.below ((Below.refl _ W).alloc (Nat.le_refl _) _)⟩
  obtain ⟨_, _, _, _, _, _, _, h3⟩ := h
  exact Nat.lt_irrefl _ (h3 _ e)
theorem snS_lt {W : World} {g : Nat} {s : Snd} {own : Nat → Prop} (h : SnS W g s own) : ∀ k, own k → k < W.heap.size := by
  obtain ⟨_, _, _, _, _, _, _, h3⟩ := h
  exact h3
/-- A frame is taken. -/
theorem take_to {w : World} {g : Nat} {s : Snd} {own : Nat → Prop} (h : SnS w g s own) {n : Int} {fr p q id : Nat} {d : List By} {fn : Bool} (hn : n ≤ 9223372036854775807) (hfr : fr ≤ 18446744073709551615) (hs : span s n fr = some (p, q)) (hid : s.id = id) (hd : Sd.cut s.b p q = d) (hf : finB s q = fn) :
    Calls Tryz.prog 15 #[.pointer (some ⟨g, 0, none⟩), .int .i64 n, .int .u64 (fr : Int)] w fun e w' => ∃ b own', e = .returned (.tuple #[.agg (frT id p fn d b).cells, .bool true]) ∧ SnS w' g (tell s p q) own' ∧ After own w w' own' ∧ FrH w' own' (frT id p fn d b) := by
  subst hid hd hf
  refine (take_fr w g s own h n fr hn hfr).mono ?_
  intro e w' hp
  unfold TakeF at hp
  rw [hs] at hp
  obtain ⟨b, own', he, h1, h2, h3, h4, h5, h6⟩ := hp
  exact ⟨b, own', he, h2, h3, h1, fun _ => h4, rfl⟩
theorem take_none {w : World} {g : Nat} {s : Snd} {own : Nat → Prop} (h : SnS w g s own) {n : Int} {fr : Nat} (hn : n ≤ 9223372036854775807) (hfr : fr ≤ 18446744073709551615) (hs : span s n fr = none) :
    Calls Tryz.prog 15 #[.pointer (some ⟨g, 0, none⟩), .int .i64 n, .int .u64 (fr : Int)] w fun e w' => e = .returned (.tuple #[.agg fr0, .bool false]) ∧ Below w.heap.size w w' := by
  refine (take_fr w g s own h n fr hn hfr).mono ?_
  intro e w' hp
  unfold TakeF at hp
  rw [hs] at hp
  exact ⟨hp.1, hp.2.2⟩
/-- A frame of its own came in, or was lost. -/
theorem got_to {w : World} {g : Nat} {s : Snd} {own : Nat → Prop} (h : SnS w g s own) {f : FrM} (hf : f.Ok w) (hdl : f.data.len < 140737488355328) (hi : itsB s f = true) :
    Calls Tryz.prog 19 #[.pointer (some ⟨g, 0, none⟩), .agg f.cells] w fun e w' => e = .returned (.int .i64 0) ∧ ∃ own', SnS w' g (gotF s f) own' ∧ After own w w' own' := by
  refine (got_any w g s own h f hf hdl).mono ?_
  rintro e w' (⟨h1, _⟩ | ⟨_, h2, h3⟩)
  · rw [hi] at h1; cases h1
  · exact ⟨h2, h3⟩
theorem lost_to {w : World} {g : Nat} {s : Snd} {own : Nat → Prop} (h : SnS w g s own) {f : FrM} (hf : f.Ok w) (hdl : f.data.len < 140737488355328) (hi : itsB s f = true) :
    Calls Tryz.prog 21 #[.pointer (some ⟨g, 0, none⟩), .agg f.cells] w fun e w' => e = .returned (.int .i64 0) ∧ ∃ own', SnS w' g (lostF s f) own' ∧ After own w w' own' := by
  refine (lost_any w g s own h f hf hdl).mono ?_
  rintro e w' (⟨h1, _⟩ | ⟨_, h2, h3⟩)
  · rw [hi] at h1; cases h1
  · exact ⟨h2, h3⟩
end Sr
end Go.Proofs.YtehadfidenejdaaGreatDoor

/-! The chapter's stream, plainly. -/
namespace Go.Proofs.YtehadfidenejdaaGreatDoor.Sd
open Go

def lvB : List By := [97, 98, 99, 100, 101, 102, 103, 104]
def lv0 : Snd := write (new 4 5) lvB true
def lv1 : Snd := tell lv0 0 3
def lv2 : Snd := tell lv1 3 5
def lv3 : Snd := lost lv2 0 3 false
def lv4 : Snd := raise lv3 20
def lv5 : Snd := tell lv4 0 3
def lv6 : Snd := tell lv5 5 8
def lv7 : Snd := got lv6 3 2 false
def lv8 : Snd := got lv7 0 3 false
def lv9 : Snd := got lv8 5 3 true
theorem lw : writeE (new 4 5) lvB.length = 0 := by decide +kernel
theorem ls0 : span lv0 3 9 = some (0, 3) := by decide +kernel
theorem ls1 : span lv1 9 9 = some (3, 5) := by decide +kernel
theorem ls2 : span lv2 9 9 = none := by decide +kernel
theorem lm2 : Mine lv2 0 [97, 98, 99] false := by decide +kernel
theorem ls4 : span lv4 9 0 = some (0, 3) := by decide +kernel
theorem ls5 : span lv5 9 9 = some (5, 8) := by decide +kernel
theorem lm6 : Mine lv6 3 [100, 101] false := by decide +kernel
theorem lm7 : Mine lv7 0 [97, 98, 99] false := by decide +kernel
theorem lm8 : Mine lv8 5 [102, 103, 104] true := by decide +kernel
theorem ld8 : done lv8 = false := by decide +kernel
theorem ld9 : done lv9 = true := by decide +kernel
theorem lc0 : cut lv0.b 0 3 = [97, 98, 99] := by decide +kernel
theorem lc1 : cut lv1.b 3 5 = [100, 101] := by decide +kernel
theorem lc4 : cut lv4.b 0 3 = [97, 98, 99] := by decide +kernel
theorem lc5 : cut lv5.b 5 8 = [102, 103, 104] := by decide +kernel
theorem lf : finB lv0 3 = false ∧ finB lv1 5 = false ∧ finB lv4 3 = false ∧ finB lv5 8 = true := by decide +kernel
theorem lx : lv0.id = 4 ∧ lv1.id = 4 ∧ lv4.id = 4 ∧ lv5.id = 4 ∧ lv2.reset = false ∧ lv6.reset = false ∧ lv7.reset = false ∧ lv8.reset = false := by decide +kernel
end Go.Proofs.YtehadfidenejdaaGreatDoor.Sd
