/-
  Out of FrGetRP, FrGetR, FrGetR0, FrGetsP.
-/
import Derived.Test.YtimhbjlmpojhoaaGreatDoorGgFrFrmD
import Derived.Test.YtimhbjlmpojhoaaGreatDoorGg6

/-! The document's Get: what holds between two rounds. -/
namespace Go.Proofs.YtimhbjlmpojhoaaGreatDoor
open Go Go.RowKit

def measG (g : Nat) (W : World) : Nat := match W.cell? ⟨g, 1, none⟩ with
  | some (.int .i64 n) => if n = 0 then measL g W + 1 else 0
  | _ => 0
theorem measG_is {base g e : Nat} {b : List By} {W : World} (h : Rr base g b e W) : measG g W = if e = 0 then b.length + 1 else 0 := by
  obtain ⟨s, hr, hs, _, _, _, hb, _⟩ := h
  have c0 : W.cell? ⟨g, 0, none⟩ = some (.slice s.a s.len s.cap) := hr.cell 0
  have c1 : W.cell? ⟨g, 1, none⟩ = some (.int .i64 (e : Int)) := hr.cell 1
  unfold measG
  rw [c1]
  show (if (e : Int) = 0 then measL g W + 1 else 0) = _
  by_cases q : e = 0
  · rw [if_pos q, if_pos (by omega)]
    unfold measL
    rw [c0, ← hb, hs.hb]
  · rw [if_neg q, if_neg (by omega)]
/-- The frames so far. -/
structure GrS (w : World) (Fs : List FrM) (v : Value) (W : World) : Prop where
  ow : W.ownsRow (w.heap.size + 1) 37 8 v Fs.length (vf Fs)
  each : ∀ F ∈ Fs, FrNew (w.heap.size + 1) W F
  bel : Below w.heap.size w W
  top : w.heap.size + 1 ≤ W.heap.size
theorem GrS.grown {w W W' : World} {Fs : List FrM} {v : Value} (h : GrS w Fs v W) (hg : W.grownBy W' (some w.heap.size)) : GrS w Fs v W' :=
  ⟨own_grown h.ow hg (Nat.lt_succ_self _), fun F hF => (h.each F hF).keep (others_grown hg (Nat.lt_succ_self _)), h.bel.grown hg h.bel.size (fun p e => by cases e; exact Nat.le_refl _), Nat.le_trans h.top hg.size⟩
theorem GrS.add {w W W' : World} {Fs : List FrM} {v v' : Value} {F : FrM} (h : GrS w Fs v W) (hF : FrNew (w.heap.size + 1) W F) (ho : W'.ownsRow (w.heap.size + 1) 37 8 v' (Fs.length + 1) (vf (Fs ++ [F]))) (hg : (W.alloc (.cells F.cells 37)).grownBy W' v.ownBlock) : GrS w (Fs ++ [F]) v' W' ∧ Below (w.heap.size + 1) W W' := by
  have b0 : Below W.heap.size W (W.alloc (.cells F.cells 37)) := (Below.refl _ _).alloc (Nat.le_refl _) _
  have b1 : Below (w.heap.size + 1) W W' := (b0.mono h.top).grown hg (by have := h.top; simp; omega) (fun p e => (h.ow.lt p e).1)
  have oth : Others (w.heap.size + 1) W W' := by
    refine ⟨Nat.le_trans b0.size hg.size, fun k hk hl hno => (hg.block k (by simp; omega) (fun e => ?_)).trans (b0.block k hl)⟩
    rcases h.ow.2 with ⟨q, _⟩ | ⟨gL, c, cur, q, _, q5, _⟩
    · rw [q] at e; cases e
    · rw [q] at e
      have e2 : k = gL := Option.some.inj e
      subst e2
      exact hno _ _ q5
  refine ⟨⟨by rw [List.length_append]; exact ho, fun G hG => ?_, h.bel.trans (b1.mono (Nat.le_succ _)), Nat.le_trans h.top b1.size⟩, b1⟩
  rcases List.mem_append.1 hG with q | q
  · exact (h.each G q).keep oth
  · rw [List.mem_singleton.1 q]; exact hF.keep oth
def incF (F : FrM) : FrM := ⟨F.kind, F.stream, F.offset, F.limit + 1, F.code, F.fin, F.data, F.ranges⟩
theorem vf_inc (Gs : List FrM) (F : FrM) : vf (Gs ++ [incF F]) = (vf (Gs ++ [F])).set (Gs.length * 8 + 3) (.int .u64 ((F.limit + 1 : Nat) : Int)) := by
  rw [vf_append, vf_append, List.set_append_right _ _ (by rw [vf_length]; omega), vf_length, show Gs.length * 8 + 3 - Gs.length * 8 = 3 by omega]
  rfl
/-- One more byte of padding. -/
theorem GrS.inc {w W : World} {Gs : List FrM} {F : FrM} {G c : Nat} (h : GrS w (Gs ++ [F]) (.slice (some ⟨G, 0, none⟩) (Gs ++ [F]).length c) W) (hl : F.limit ≤ 65536) : GrS w (Gs ++ [incF F]) (.slice (some ⟨G, 0, none⟩) (Gs ++ [F]).length c) (W.setCell ⟨G, Gs.length * 8 + 3, none⟩ (.int .u64 ((F.limit + 1 : Nat) : Int))) ∧ Below (w.heap.size + 1) W (W.setCell ⟨G, Gs.length * 8 + 3, none⟩ (.int .u64 ((F.limit + 1 : Nat) : Int))) := by
  have hG := (h.ow.lt G rfl).1
  have b1 : Below (w.heap.size + 1) W (W.setCell ⟨G, Gs.length * 8 + 3, none⟩ (.int .u64 ((F.limit + 1 : Nat) : Int))) := (Below.refl _ W).setCell (p := ⟨G, Gs.length * 8 + 3, none⟩) hG _
  have oth : Others (w.heap.size + 1) W (W.setCell ⟨G, Gs.length * 8 + 3, none⟩ (.int .u64 ((F.limit + 1 : Nat) : Int))) := by
    refine ⟨by simp, fun k hk hl hno => Below.heap_setCell _ _ _ k (fun e => ?_)⟩
    have e' : k = G := e
    subst e'
    rcases h.ow.2 with ⟨q, _⟩ | ⟨gL, c, cur, q, _, q5, _⟩
    · cases q
    · injection q with q _ _
      injection q with q
      injection q with q _ _
      subst q
      exact hno _ _ q5
  refine ⟨⟨?_, fun X hX => ?_, h.bel.trans (b1.mono (Nat.le_succ _)), Nat.le_trans h.top b1.size⟩, b1⟩
  · rw [vf_inc, show (Gs ++ [incF F]).length = (Gs ++ [F]).length by simp]
    exact own_cellS h.ow _
  · rcases List.mem_append.1 hX with q | q
    · exact (h.each X (List.mem_append.2 (.inl q))).keep oth
    · rw [List.mem_singleton.1 q]
      have := (h.each F (List.mem_append.2 (.inr (List.mem_singleton.2 rfl)))).keep oth
      exact ⟨this.data, this.dok, this.ranges, this.rok, this.k8, this.st, this.of, by show F.limit + 1 ≤ _; omega, this.co⟩

/-- What is left to answer. -/
def GrR (RES : Except Nat (List Fr.Frame)) (b : List By) (e : Nat) (Fs : List FrM) : Prop :=
  (e = 0 ∧ Fr.getLoop b.length b (Fs.map FrM.fr).reverse = RES ∧ ∀ F ∈ Fs, F.kind = 1 → F.limit ≤ 65536) ∨ (e ≠ 0 ∧ RES = .error e)
theorem GrR.err {RES : Except Nat (List Fr.Frame)} {b : List By} {e : Nat} {Fs : List FrM} (h : GrR RES b e Fs) (he : e ≠ 0) : RES = .error e := h.elim (fun q => absurd q.1 he) (·.2)
theorem GrR.live {RES : Except Nat (List Fr.Frame)} {b : List By} {Fs : List FrM} (h : GrR RES b 0 Fs) : Fr.getLoop b.length b (Fs.map FrM.fr).reverse = RES ∧ ∀ F ∈ Fs, F.kind = 1 → F.limit ≤ 65536 := h.elim (fun q => q.2) (fun q => absurd rfl q.1)
theorem padded_snoc (Gs : List FrM) (F : FrM) : Fr.padded ((Gs ++ [F]).map FrM.fr).reverse = (F.kind == 1) := by
  rw [List.map_append, List.reverse_append]
  rfl
theorem GrR.full {RES : Except Nat (List Fr.Frame)} {c : By} {t : List By} {Fs Gs : List FrM} {b' : List By} (h : GrR RES (c :: t) 0 Fs) (hc : ¬ (c = 0 ∧ Fr.padded (Fs.map FrM.fr).reverse = true)) (hn : Fs.length = 1024) : GrR RES b' 3 Gs := by
  have := h.live.1
  rw [List.length_cons, Fr.getLoop, if_neg hc, if_pos (by rw [List.length_reverse, List.length_map]; exact hn)] at this
  exact .inr ⟨by decide, this.symm⟩
theorem GrR.next {RES : Except Nat (List Fr.Frame)} {c : By} {t : List By} {Fs : List FrM} {F : FrM} {b2 : List By} {e2 : Nat} (h : GrR RES (c :: t) 0 Fs) (hc : ¬ (c = 0 ∧ Fr.padded (Fs.map FrM.fr).reverse = true)) (hn : Fs.length ≠ 1024) (hs : Fr.Sim Fr.frameR (c :: t) 0 F.fr b2 e2) : GrR RES b2 e2 (Fs ++ [F]) ∧ (e2 = 0 → b2.length < (c :: t).length) := by
  obtain ⟨h1, h2⟩ := h.live
  rw [List.length_cons, Fr.getLoop, if_neg hc, if_neg (by rw [List.length_reverse, List.length_map]; exact hn)] at h1
  rcases hs.1 rfl with ⟨q1, q2⟩ | ⟨q1, q2⟩
  · rw [q2] at h1
    have hl := Fr.frameR_less q2
    refine ⟨.inl ⟨q1, ?_, fun X hX hk => ?_⟩, fun _ => hl⟩
    · rw [← h1, List.map_append, List.reverse_append]
      exact Fr.getLoop_fuel _ _ _ _ (Nat.le_refl _) (by rw [List.length_cons] at hl; omega)
    · rcases List.mem_append.1 hX with q | q
      · exact h2 X q hk
      · have e := List.mem_singleton.1 q
        rw [e] at hk ⊢
        have hm := (Fr.frame_told q2).1
        unfold Fr.mayF at hm
        have hk' : F.fr.kind = 1 := hk
        have hm2 := hm.2
        rw [hk'] at hm2
        show F.fr.limit ≤ 65536
        simp only at hm2
        omega
  · rw [q2] at h1
    exact ⟨.inr ⟨q1, h1.symm⟩, fun z => absurd z q1⟩
theorem GrR.pad {RES : Except Nat (List Fr.Frame)} {t : List By} {Gs : List FrM} {F : FrM} (h : GrR RES ((0 : By) :: t) 0 (Gs ++ [F])) (hk : F.kind = 1) (so : Bool) (hso : so = true ↔ F.limit = 65536) : GrR RES t (if so = true ∧ 0 = 0 then 3 else 0) (Gs ++ [incF F]) := by
  obtain ⟨h1, h2⟩ := h.live
  rw [List.length_cons, Fr.getLoop, if_pos ⟨rfl, by rw [padded_snoc, hk]; rfl⟩, List.map_append, List.reverse_append] at h1
  have h1' : (if F.limit = 65536 then .error 3 else Fr.getLoop t.length t ((incF F).fr :: (Gs.map FrM.fr).reverse)) = RES := h1
  by_cases q : F.limit = 65536
  · rw [if_pos q] at h1'
    rw [if_pos ⟨hso.2 q, rfl⟩]
    exact .inr ⟨by decide, h1'.symm⟩
  · rw [if_neg q] at h1'
    rw [if_neg (fun z => q (hso.1 z.1))]
    refine .inl ⟨rfl, by rw [List.map_append, List.reverse_append]; exact h1', fun X hX hkX => ?_⟩
    rcases List.mem_append.1 hX with z | z
    · exact h2 X (List.mem_append.2 (.inl z)) hkX
    · rw [List.mem_singleton.1 z]
      have := h2 F (List.mem_append.2 (.inr (List.mem_singleton.2 rfl))) hk
      show F.limit + 1 ≤ 65536
      omega
theorem pad_done {w W : World} {Gs : List FrM} {F : FrM} {G c e : Nat} {y : SL} {x : By} {t : List By} (h : GrS w (Gs ++ [F]) (.slice (some ⟨G, 0, none⟩) (Gs ++ [F]).length c) W) (hl : F.limit ≤ 65536) (hr : Row W w.heap.size 75 (rdC y e)) (hy : y.Ok W) (ht : y.Told) (hn : 0 < y.len → y.g ≠ w.heap.size ∧ y.g < w.heap.size + 1) (hlen : y.len ≤ 8388608) (hb : y.b = x :: t) :
    Rr (w.heap.size + 1) w.heap.size t e ((W.setCell ⟨G, Gs.length * 8 + 3, none⟩ (.int .u64 ((F.limit : Int) + 1))).setCell ⟨w.heap.size, 0, none⟩ (.slice (cutF y 1).a (cutF y 1).len (cutF y 1).cap)) ∧
    GrS w (Gs ++ [incF F]) (.slice (some ⟨G, 0, none⟩) (Gs ++ [F]).length c) ((W.setCell ⟨G, Gs.length * 8 + 3, none⟩ (.int .u64 ((F.limit : Int) + 1))).setCell ⟨w.heap.size, 0, none⟩ (.slice (cutF y 1).a (cutF y 1).len (cutF y 1).cap)) := by
  rw [show (F.limit : Int) + 1 = ((F.limit + 1 : Nat) : Int) by omega]
  obtain ⟨g1, b1⟩ := h.inc hl
  have hG := (h.ow.lt G rfl).1
  have hgr : (W.setCell ⟨G, Gs.length * 8 + 3, none⟩ (.int .u64 ((F.limit + 1 : Nat) : Int))).grownBy ((W.setCell ⟨G, Gs.length * 8 + 3, none⟩ (.int .u64 ((F.limit + 1 : Nat) : Int))).setCell ⟨w.heap.size, 0, none⟩ (.slice (cutF y 1).a (cutF y 1).len (cutF y 1).cap)) (some w.heap.size) := grown_set (grown_refl _ _)
  have hy1 : 1 ≤ y.len := by rw [← hy.hb, hb]; simp
  obtain ⟨k1, k2, k3, k4, k5⟩ := cutF_ok (hy.same (w' := W.setCell ⟨G, Gs.length * 8 + 3, none⟩ (.int .u64 ((F.limit + 1 : Nat) : Int))) (fun p => b1.block _ (hn p).2) b1.size) ht 1 hy1
  refine ⟨⟨cutF y 1, ?_, k1.same (fun p => hgr.block _ (k1.lt p) (fun q => by rw [k5] at q; exact (hn (by omega)).1 (Option.some.inj q))) hgr.size, k2, fun p => by rw [k5]; exact hn (by omega), by omega, by rw [k4, hb]; rfl, Nat.lt_succ_self _⟩, g1.grown hgr⟩
  exact (hr.other (a := ⟨G, Gs.length * 8 + 3, none⟩) (show w.heap.size ≠ G by omega) _).set 0 _
end Go.Proofs.YtimhbjlmpojhoaaGreatDoor

/-! The document's Get. -/
namespace Go.Proofs.YtimhbjlmpojhoaaGreatDoor
open Go Go.RowKit

/-- What the document's Get answers. -/
def RefGot (b : List By) (x : Ending) (w' : World) : Prop :=
  (∃ e, Fr.getAll b = .error e ∧ x = .returned (.tuple #[.slice none 0 0, .int .i64 (e : Int)])) ∨ (∃ fs : FS, Fr.getAll b = .ok fs.fr ∧ x = .returned (.tuple #[.slice fs.a fs.len fs.cap, .int .i64 0]) ∧ fs.Ok w')
theorem ref_fin {w W : World} {b0 : List By} {Fs : List FrM} {a : Option Addr} {c : Nat} (hb : b0.length ≤ 1048576) (hs : GrS w Fs (.slice a Fs.length c) W) (hr : GrR (Fr.getLoop b0.length b0 []) [] 0 Fs) : RefGot b0 (.returned (.tuple #[.slice a Fs.length c, .int .i64 0])) W := by
  obtain ⟨fs, h1, h2, h3⟩ := fs_own rfl hs.ow hs.each
  refine .inr ⟨fs, ?_, by rw [h1], h2⟩
  have := hr.live.1
  rw [Fr.getLoop] at this
  unfold Fr.getAll
  rw [if_neg (by omega), ← this]
  show Except.ok _ = _
  rw [List.reverse_reverse]
  unfold FS.fr
  rw [h3]
theorem ref_err {W : World} {b0 b : List By} {e : Nat} {Fs : List FrM} (hb : b0.length ≤ 1048576) (he : e ≠ 0) (hr : GrR (Fr.getLoop b0.length b0 []) b e Fs) : RefGot b0 (.returned (.tuple #[.slice none 0 0, .int .i64 (e : Int)])) W := by
  refine .inl ⟨e, ?_, rfl⟩
  unfold Fr.getAll
  rw [if_neg (by omega), hr.err he]

set_option maxRecDepth 20000 in
set_option maxHeartbeats 40000000 in
theorem ref_getC (s : SL) (w : World) (hs : s.Ok w) (ht : s.Told) (h0 : 0 < s.len) :
    Calls Tryz.prog 19 #[.slice s.a s.len s.cap] w fun x w' => RefGot s.b x w' ∧ Below w.heap.size w w' := by
  by_cases hbig : 1048576 < s.len
  · have hd : decide ((1048576 : Int) < (s.len : Int)) = true := by simp; omega
    have RES := veil (show RefGot s.b (.returned (.tuple #[.slice none 0 0, .int .i64 ((3 : Nat) : Int)])) w from .inl ⟨3, by unfold Fr.getAll; rw [if_pos (by rw [hs.hb]; exact hbig)], rfl⟩)
    clear hs ht
    go_enter Tryz.func19, Tryz.ntmps19
    go_wp2_with fail
    go_ret2
    exact ⟨RES.out, Below.refl _ _⟩
  have hd : decide ((1048576 : Int) < (s.len : Int)) = false := by simp; omega
  have HB : Hid (s.b.length ≤ 1048576) := show _ ≤ _ by rw [hs.hb]; omega
  have ST : Hid (∃ (b : List By) (e : Nat) (Fs : List FrM), Rr (w.heap.size + 1) w.heap.size b e (w.alloc (.cells #[.slice s.a s.len s.cap, .int .i64 0] 75)) ∧ GrS w Fs (.slice none 0 0) (w.alloc (.cells #[.slice s.a s.len s.cap, .int .i64 0] 75)) ∧ Fs.length ≤ 1024 ∧ GrR (Fr.getLoop s.b.length s.b []) b e Fs) := by
    have bl : Below w.heap.size w (w.alloc (.cells #[.slice s.a s.len s.cap, .int .i64 0] 75)) := (Below.refl _ w).alloc (Nat.le_refl _) _
    refine ⟨s.b, 0, [], ⟨s, Row.new _ _ _, hs.below bl, ht, fun p => ⟨by have := hs.lt p; omega, by have := hs.lt p; omega⟩, by omega, rfl, Nat.lt_succ_self _⟩, ⟨World.ownsRow_nil _ _ _ _, (fun F hF => by cases hF), bl, by simp⟩, by simp, .inl ⟨rfl, rfl, (fun F hF => by cases hF)⟩⟩
  clear hs ht
  go_enter Tryz.func19, Tryz.ntmps19
  go_wp2_with fail
  go_loopw [5] (fun v wr => ∃ (b : List By) (e : Nat) (Fs : List FrM), Rr (w.heap.size + 1) w.heap.size b e wr ∧ GrS w Fs v wr ∧ Fs.length ≤ 1024 ∧ GrR (Fr.getLoop s.b.length s.b []) b e Fs)
    (fun _ wr => measG w.heap.size wr)
  case atStart => exact ST.out
  case round =>
    clear ST hd hbig
    obtain ⟨b, e, Fs, rd, gs, hn, rs⟩ := hrel
    obtain ⟨a5, c5, rfl⟩ := own_shapeW gs.ow
    have hmeas := measG_is rd
    obtain ⟨y, hr, hy, hyt, hyn, hyl, hyb, _⟩ := rd
    have c0 : wr.cell? ⟨w.heap.size, 0, none⟩ = some (.slice y.a y.len y.cap) := hr.cell 0
    have c1 : wr.cell? ⟨w.heap.size, 1, none⟩ = some (.int .i64 (e : Int)) := hr.cell 1
    have RD := veil (show Rr (w.heap.size + 1) w.heap.size b e wr from ⟨y, hr, hy, hyt, hyn, hyl, hyb, Nat.lt_succ_self _⟩)
    have GS := veil gs
    have RS := veil rs
    have HY := veil hy
    have HYT := veil hyt
    have HYN := veil hyn
    have HYB := veil hyb
    have HM := veil hmeas
    have BL := veil gs.bel
    clear gs rs hr hy hyt hyn hyb hmeas
    by_cases hl0 : y.len = 0
    · have hdl : decide ((0 : Int) < (y.len : Int)) = false := by simp; omega
      have hb0 : b = [] := by rw [← HYB.out]; exact List.eq_nil_of_length_eq_zero (by rw [HY.out.hb]; exact hl0)
      by_cases he : e = 0
      · subst he
        subst hb0
        simp only [show ((0 : Nat) : Int) = 0 from rfl] at c1
        go_wp2_with fail
        go_ret2
        exact ⟨ref_fin HB.out GS.out RS.out, BL.out⟩
      · have f1 : ((e : Int) != 0) = true := by simp; omega
        have f2 : ((e : Int) == 0) = false := by simp; omega
        go_wp2_with fail
        go_region
        all_goals
          go_wp2_with fail
          go_ret2
          exact ⟨ref_err HB.out he RS.out, BL.out.drew⟩
    have hdl : decide ((0 : Int) < (y.len : Int)) = true := by simp; omega
    by_cases he : e = 0
    case neg =>
      have f1 : ((e : Int) != 0) = true := by simp; omega
      have f2 : ((e : Int) == 0) = false := by simp; omega
      go_wp2_with fail
      go_region
      all_goals
        go_wp2_with fail
        go_ret2
        exact ⟨ref_err HB.out he RS.out, BL.out.drew⟩
    subst he
    simp only [show ((0 : Nat) : Int) = 0 from rfl] at c1
    obtain ⟨c, t, hct⟩ : ∃ c t, b = c :: t := by
      cases hq : b with
      | nil => exact absurd (by rw [← HY.out.hb, HYB.out, hq]; rfl) hl0
      | cons c t => exact ⟨c, t, rfl⟩
    subst hct
    have HMX : Hid (measG w.heap.size wr = t.length + 2) := show _ = _ by have := HM.out; simpa using this
    clear HM
    have hya : y.a = some ⟨y.g, y.off, none⟩ := HY.out.at_ (by omega)
    have cb : wr.cell? ⟨y.g, y.off, none⟩ = some (.int .u8 (v8 c)) := by
      have := HY.out.cell 0 (by omega)
      rw [HYB.out] at this
      exact this
    have HYA := veil hya
    rw [hya] at c0
    have hdi : decide ((0 : Int) < (y.len : Int)) = true := hdl
    have hc5 : (Fs.length : Int) ≤ 1024 := by omega
    by_cases hc : c = 0
    case neg =>
      have f3 : (v8 c == 0) = false := by
        rw [beq_eq_false_iff_ne]
        intro q
        exact hc (BitVec.eq_of_toNat_eq (by unfold v8 at q; simpa using q))
      have NP : Hid (¬ (c = 0 ∧ Fr.padded (Fs.map FrM.fr).reverse = true)) := show ¬ _ from fun q => hc q.1
      obtain ⟨so, hso⟩ : ∃ so : Bool, ((Fs.length : Int) == 1024) = so := ⟨_, rfl⟩
      have HSO : Hid (so = true ↔ Fs.length = 1024) := show _ ↔ _ by rw [← hso]; simp; omega
      go_wp2_with fail
      refine (wrongC RD.out so 3).mono ?_
      rintro xx wa ⟨⟨vv, rfl⟩, rd1, hg1⟩
      have GS1 := veil (GS.out.grown hg1)
      clear hg1 hso
      by_cases hfull : Fs.length = 1024
      · obtain rfl : so = true := HSO.out.2 hfull
        rw [if_pos ⟨rfl, rfl⟩] at rd1
        have RD1 := veil rd1
        have cE : wa.cell? ⟨w.heap.size, 1, none⟩ = some (.int .i64 3) := rd1.err
        have RSF := veil (RS.out.full (b' := c :: t) (Gs := Fs) NP.out hfull)
        clear rd1 hfull
        go_wp2_with fail
        exact ⟨⟨_, _, _, RD1.out, GS1.out, hn, RSF.out⟩, by rw [measG_is RD1.out, HMX.out]; simp⟩
      · obtain rfl : so = false := by
          cases so with
          | false => rfl
          | true => exact absurd (HSO.out.1 rfl) hfull
        rw [if_neg (by simp)] at rd1
        have RD1 := veil rd1
        have cE : wa.cell? ⟨w.heap.size, 1, none⟩ = some (.int .i64 0) := rd1.err
        have TOP := veil GS1.out.top
        clear rd1
        go_wp2_with fail
        refine (frameC RD1.out TOP.out).mono ?_
        rintro xx w1 ⟨F, b2, e2, rfl, hF, hsim, rd2, hg2⟩
        have GS2 := veil (GS1.out.grown hg2)
        have RD2 := veil rd2
        have SI := veil hsim
        have FN := veil (hF.low TOP.out)
        have TOP2 := veil GS2.out.top
        clear hF hsim rd2 hg2 GS1 RD1 TOP c1 c0 cb cE
        obtain ⟨i0, hi, hz0, hz1, hz2⟩ := frame_info
        unfold FrM.cells
        go_wp2_with (with_reducible (show wpList _ _ _ (⟨some 87, Op.call _, _, _, _, _⟩ :: _) _ _); refine Hid.out ?_)
        refine show wpList _ _ _ _ _ _ from ?_
        refine wpList_append_own_at _ rfl _ _ 22 rfl (w.heap.size + 1) 37 i0 (.agg zF) 8 96 Tryz.underlying22 hi hz0 hz1 hz2 rfl (by decide) _ Fs.length (vf Fs) rfl (GS2.out.ow.alloc _) ⟨w1.heap.size, 0, none⟩ 1 1 (vf [F]) rfl rfl (World.news_of_block (cs := F.cells) (fr := (0, 0)) (heap_alloc_new w1 _)) (vf_one _) (by unfold maxLen; omega) (by omega) (by have := TOP2.out; simp; omega) ?_
        intro v3 w3 ho3 hgr3 _ hat3
        rw [← vf_append] at ho3
        obtain ⟨gs3, bl3⟩ := GS2.out.add FN.out ho3 hgr3
        have GS3 := veil gs3
        have RD3 := veil (RD2.out.below bl3)
        obtain ⟨rs3, less3⟩ := RS.out.next NP.out hfull SI.out
        have RS3 := veil rs3
        have LE3 := veil less3
        clear gs3 bl3 rs3 less3 ho3 hgr3 hat3
        go_wp2_with fail
        refine ⟨⟨b2, e2, Fs ++ [F], RD3.out, GS3.out, by have := hfull; simp only [List.length_append, List.length_cons, List.length_nil]; omega, RS3.out⟩, ?_⟩
        rw [measG_is RD3.out, HMX.out]
        by_cases q : e2 = 0
        · rw [if_pos q]; have := LE3.out q; rw [List.length_cons] at this; omega
        · rw [if_neg q]; omega
    subst hc
    have f3 : (v8 0 == 0) = true := rfl
    rcases List.eq_nil_or_concat Fs with hnil | ⟨Gs, F, hcat⟩
    · subst hnil
      have NP : Hid (¬ ((0 : By) = 0 ∧ Fr.padded (([] : List FrM).map FrM.fr).reverse = true)) := show ¬ _ from fun q => by cases q.2
      go_wp2_with fail
      refine (wrongC RD.out false 3).mono ?_
      rintro xx wa ⟨⟨vv, rfl⟩, rd1, hg1⟩
      have GS1 := veil (GS.out.grown hg1)
      have hfull : ([] : List FrM).length ≠ 1024 := by decide
      clear hg1
      rw [if_neg (by simp)] at rd1
      have RD1 := veil rd1
      have cE : wa.cell? ⟨w.heap.size, 1, none⟩ = some (.int .i64 0) := rd1.err
      have TOP := veil GS1.out.top
      clear rd1
      go_wp2_with fail
      refine (frameC RD1.out TOP.out).mono ?_
      rintro xx w1 ⟨F, b2, e2, rfl, hF, hsim, rd2, hg2⟩
      have GS2 := veil (GS1.out.grown hg2)
      have RD2 := veil rd2
      have SI := veil hsim
      have FN := veil (hF.low TOP.out)
      have TOP2 := veil GS2.out.top
      clear hF hsim rd2 hg2 GS1 RD1 TOP c1 c0 cb cE
      obtain ⟨i0, hi, hz0, hz1, hz2⟩ := frame_info
      unfold FrM.cells
      go_wp2_with (with_reducible (show wpList _ _ _ (⟨some 87, Op.call _, _, _, _, _⟩ :: _) _ _); refine Hid.out ?_)
      refine show wpList _ _ _ _ _ _ from ?_
      refine wpList_append_own_at _ rfl _ _ 22 rfl (w.heap.size + 1) 37 i0 (.agg zF) 8 96 Tryz.underlying22 hi hz0 hz1 hz2 rfl (by decide) _ ([] : List FrM).length (vf ([] : List FrM)) rfl (GS2.out.ow.alloc _) ⟨w1.heap.size, 0, none⟩ 1 1 (vf [F]) rfl rfl (World.news_of_block (cs := F.cells) (fr := (0, 0)) (heap_alloc_new w1 _)) (vf_one _) (by unfold maxLen; omega) (by omega) (by have := TOP2.out; simp; omega) ?_
      intro v3 w3 ho3 hgr3 _ hat3
      rw [← vf_append] at ho3
      obtain ⟨gs3, bl3⟩ := GS2.out.add FN.out ho3 hgr3
      have GS3 := veil gs3
      have RD3 := veil (RD2.out.below bl3)
      obtain ⟨rs3, less3⟩ := RS.out.next (fun q => NP.out ⟨by trivial, q.2⟩) hfull SI.out
      have RS3 := veil rs3
      have LE3 := veil less3
      clear gs3 bl3 rs3 less3 ho3 hgr3 hat3
      go_wp2_with fail
      refine ⟨⟨b2, e2, ([] : List FrM) ++ [F], RD3.out, GS3.out, by have := hfull; simp only [List.length_append, List.length_cons, List.length_nil]; omega, RS3.out⟩, ?_⟩
      rw [measG_is RD3.out, HMX.out]
      by_cases q : e2 = 0
      · rw [if_pos q]; have := LE3.out q; rw [List.length_cons] at this; omega
      · rw [if_neg q]; omega
    rw [List.concat_eq_append] at hcat
    have hlen : Fs.length = Gs.length + 1 := by rw [hcat]; simp
    have hd5 : decide ((0 : Int) < (Fs.length : Int)) = true := by simp; omega
    obtain ⟨G5, rfl⟩ : ∃ G, a5 = some ⟨G, 0, none⟩ := by
      rcases GS.out.ow.2 with ⟨h1, h2⟩ | ⟨g, c, _, h1, _⟩
      · omega
      · injection h1 with h1 _ _
        exact ⟨g, h1⟩
    have hrow : ∀ (i : Nat) (u : Value), F.cells.toList[i]? = some u → wr.cell? ⟨G5, Gs.length * 8 + i, none⟩ = some u := by
      intro i u hu
      have := GS.out.ow.cells (g := G5) rfl (Gs.length * 8 + i) u (by
        refine vf_at Fs Gs.length i u (by omega) ?_
        unfold gf
        rw [hcat, List.getElem?_append_right (Nat.le_refl _), Nat.sub_self]
        exact hu)
      rw [add_at, Nat.zero_add] at this
      exact this
    have ck : wr.cell? ⟨G5, Gs.length * 8, none⟩ = some (.int .u8 (F.kind : Int)) := hrow 0 _ rfl
    have HROW := veil hrow
    have hsub : (Fs.length : Int) - 1 = (Gs.length : Int) := by omega
    have hidx : (Gs.length : Int) < (Fs.length : Int) := by omega
    have hid0 : (0 : Int) ≤ (Gs.length : Int) := by omega
    by_cases hk : F.kind = 1
    case neg =>
      have f4 : ((F.kind : Int) == 1) = false := by simp; omega
      have NP : Hid (¬ ((0 : By) = 0 ∧ Fr.padded (Fs.map FrM.fr).reverse = true)) := show ¬ _ from fun q => by
        have := q.2
        rw [hcat, padded_snoc] at this
        exact hk (by simpa using this)
      clear hlen hcat hrow
      obtain ⟨so, hso⟩ : ∃ so : Bool, ((Fs.length : Int) == 1024) = so := ⟨_, rfl⟩
      have HSO : Hid (so = true ↔ Fs.length = 1024) := show _ ↔ _ by rw [← hso]; simp; omega
      go_wp2_with fail
      refine (wrongC RD.out so 3).mono ?_
      rintro xx wa ⟨⟨vv, rfl⟩, rd1, hg1⟩
      have GS1 := veil (GS.out.grown hg1)
      clear hg1 hso
      by_cases hfull : Fs.length = 1024
      · obtain rfl : so = true := HSO.out.2 hfull
        rw [if_pos ⟨rfl, rfl⟩] at rd1
        have RD1 := veil rd1
        have cE : wa.cell? ⟨w.heap.size, 1, none⟩ = some (.int .i64 3) := rd1.err
        have RSF := veil (RS.out.full (b' := (0 : By) :: t) (Gs := Fs) (fun q => NP.out ⟨by trivial, q.2⟩) hfull)
        clear rd1 hfull
        go_wp2_with fail
        exact ⟨⟨_, _, _, RD1.out, GS1.out, hn, RSF.out⟩, by rw [measG_is RD1.out, HMX.out]; simp⟩
      · obtain rfl : so = false := by
          cases so with
          | false => rfl
          | true => exact absurd (HSO.out.1 rfl) hfull
        rw [if_neg (by simp)] at rd1
        have RD1 := veil rd1
        have cE : wa.cell? ⟨w.heap.size, 1, none⟩ = some (.int .i64 0) := rd1.err
        have TOP := veil GS1.out.top
        clear rd1
        go_wp2_with fail
        refine (frameC RD1.out TOP.out).mono ?_
        rintro xx w1 ⟨F, b2, e2, rfl, hF, hsim, rd2, hg2⟩
        have GS2 := veil (GS1.out.grown hg2)
        have RD2 := veil rd2
        have SI := veil hsim
        have FN := veil (hF.low TOP.out)
        have TOP2 := veil GS2.out.top
        clear hF hsim rd2 hg2 GS1 RD1 TOP c1 c0 cb cE
        obtain ⟨i0, hi, hz0, hz1, hz2⟩ := frame_info
        unfold FrM.cells
        go_wp2_with (with_reducible (show wpList _ _ _ (⟨some 87, Op.call _, _, _, _, _⟩ :: _) _ _); refine Hid.out ?_)
        refine show wpList _ _ _ _ _ _ from ?_
        refine wpList_append_own_at _ rfl _ _ 22 rfl (w.heap.size + 1) 37 i0 (.agg zF) 8 96 Tryz.underlying22 hi hz0 hz1 hz2 rfl (by decide) _ Fs.length (vf Fs) rfl (GS2.out.ow.alloc _) ⟨w1.heap.size, 0, none⟩ 1 1 (vf [F]) rfl rfl (World.news_of_block (cs := F.cells) (fr := (0, 0)) (heap_alloc_new w1 _)) (vf_one _) (by unfold maxLen; omega) (by omega) (by have := TOP2.out; simp; omega) ?_
        intro v3 w3 ho3 hgr3 _ hat3
        rw [← vf_append] at ho3
        obtain ⟨gs3, bl3⟩ := GS2.out.add FN.out ho3 hgr3
        have GS3 := veil gs3
        have RD3 := veil (RD2.out.below bl3)
        obtain ⟨rs3, less3⟩ := RS.out.next (fun q => NP.out ⟨by trivial, q.2⟩) hfull SI.out
        have RS3 := veil rs3
        have LE3 := veil less3
        clear gs3 bl3 rs3 less3 ho3 hgr3 hat3
        go_wp2_with fail
        refine ⟨⟨b2, e2, Fs ++ [F], RD3.out, GS3.out, by have := hfull; simp only [List.length_append, List.length_cons, List.length_nil]; omega, RS3.out⟩, ?_⟩
        rw [measG_is RD3.out, HMX.out]
        by_cases q : e2 = 0
        · rw [if_pos q]; have := LE3.out q; rw [List.length_cons] at this; omega
        · rw [if_neg q]; omega
    have f4 : ((F.kind : Int) == 1) = true := by simp; omega
    have LIM := veil ((RS.out.live).2 F (by rw [hcat]; exact List.mem_append.2 (.inr (List.mem_singleton.2 rfl))) hk)
    obtain ⟨so, hso⟩ : ∃ so : Bool, ((F.limit : Int) == 65536) = so := ⟨_, rfl⟩
    have HSO : Hid (so = true ↔ F.limit = 65536) := show _ ↔ _ by rw [← hso]; simp; omega
    have cl : wr.cell? ⟨G5, Gs.length * 8 + 3, none⟩ = some (.int .u64 (F.limit : Int)) := HROW.out 3 _ rfl
    have HCAT := veil hcat
    have HK := veil hk
    clear hcat hk hrow
    go_wp2_with fail
    refine (wrongC RD.out so 3).mono ?_
    rintro xx wa ⟨⟨vv, rfl⟩, rd1, hg1⟩
    have GS1 := veil (GS.out.grown hg1)
    obtain ⟨E, hE⟩ : ∃ E : Nat, (if so = true ∧ 0 = 0 then 3 else 0) = E := ⟨_, rfl⟩
    rw [hE] at rd1
    have RSP : Hid (GrR (Fr.getLoop s.b.length s.b []) t E (Gs ++ [incF F])) := by
      have := RS.out
      rw [HCAT.out] at this
      rw [← hE]
      exact this.pad HK.out so HSO.out
    obtain ⟨z, hr1, hz, hzt, hzn, hzl, hzb, _⟩ := rd1
    have d0 : wa.cell? ⟨w.heap.size, 0, none⟩ = some (.slice z.a z.len z.cap) := hr1.cell 0
    have z0 := hr1.frozen 0
    have ord := (GS1.out.ow.lt G5 rfl).1
    have hne5 : w.heap.size ≠ G5 := by omega
    have hne6 : G5 ≠ w.heap.size := by omega
    have cl1 : wa.cell? ⟨G5, Gs.length * 8 + 3, none⟩ = some (.int .u64 (F.limit : Int)) := (hg1.cell (a := ⟨G5, Gs.length * 8 + 3, none⟩) cl (fun q => by have := Option.some.inj q; exact hne6 this))
    have zl1 := GS1.out.ow.frozenAt (Gs.length * 8 + 3)
    have hz1 : 1 ≤ z.len := by rw [← hz.hb, hzb]; simp
    have hlim := LIM.out
    have hadd : IntKind.u64.wrap ((F.limit : Int) + 1) = ((F.limit + 1 : Nat) : Int) := by rw [IntKind.wrap_u64]; omega
    have PD : Hid _ := pad_done (w := w) (W := wa) (Gs := Gs) (F := F) (G := G5) (c := c5) (e := E) (y := z) (x := 0) (t := t) (by have := GS1.out; rw [HCAT.out] at this; exact this) hlim hr1 hz hzt hzn hzl hzb
    have HZT := veil hzt
    have HNIL := veil hz.nil
    clear hr1 hz hzt hzn hzl hzb hg1 hE c0 c1 cb ck cl hso hlim
    go_wp2_with (with_reducible (show wpList _ _ _ (⟨some 71, Op.slice _ _ _ _ _, _, _, _, _⟩ :: _) _ _)
                 refine value_wp rfl _ (run_cutF 26 5 _ _ z 1 HZT.out HNIL.out rfl rfl rfl Tryz.underlying26 (by kernel_rfl) hz1 _) ?_)
    go_wp2_with fail
    refine ⟨⟨t, E, Gs ++ [incF F], PD.out.1, by have := PD.out.2; rw [List.length_append] at this; exact this, by rw [List.length_append]; simp; omega, RSP.out⟩, ?_⟩
    rw [measG_is PD.out.1, HMX.out]
    by_cases q : E = 0
    · rw [if_pos q]; omega
    · rw [if_neg q]; omega

end Go.Proofs.YtimhbjlmpojhoaaGreatDoor

/-! The document's Get, at any bytes. -/
namespace Go.Proofs.YtimhbjlmpojhoaaGreatDoor
open Go Go.RowKit

set_option maxRecDepth 20000 in
set_option maxHeartbeats 4000000 in
theorem ref_get0 (a : Option Addr) (cap : Nat) (w : World) :
    Calls Tryz.prog 19 #[.slice a 0 cap] w fun x w' => x = .returned (.tuple #[.slice none 0 0, .int .i64 0]) ∧ Below w.heap.size w w' := by
  have ST := veil (show Row (w.alloc (.cells #[.slice a 0 cap, .int .i64 0] 75)) w.heap.size 75 #[.slice a 0 cap, .int .i64 0] ∧ Below w.heap.size w (w.alloc (.cells #[.slice a 0 cap, .int .i64 0] 75)) from ⟨Row.new _ _ _, (Below.refl _ w).alloc (Nat.le_refl _) _⟩)
  go_enter Tryz.func19, Tryz.ntmps19
  go_wp2_with fail
  go_loopw [5] (fun v wr => v = .slice none 0 0 ∧ Row wr w.heap.size 75 #[.slice a 0 cap, .int .i64 0] ∧ Below w.heap.size w wr)
    (fun _ _ => 0)
  case atStart => exact ⟨rfl, ST.out.1, ST.out.2⟩
  case round =>
    clear ST
    obtain ⟨rfl, h1, h2⟩ := hrel
    have c0 : wr.cell? ⟨w.heap.size, 0, none⟩ = some (.slice a 0 cap) := h1.cell 0
    have c1 : wr.cell? ⟨w.heap.size, 1, none⟩ = some (.int .i64 0) := h1.cell 1
    have H2 := veil h2
    clear h1 h2
    go_wp2_with fail
    go_ret2
    exact ⟨rfl, H2.out⟩
theorem ref_got (s : SL) (w : World) (hs : s.Ok w) (ht : 0 < s.len → s.Told) :
    Calls Tryz.prog 19 #[.slice s.a s.len s.cap] w fun x w' => RefGot s.b x w' ∧ Below w.heap.size w w' := by
  by_cases h0 : 0 < s.len
  · exact ref_getC s w hs (ht h0) h0
  · have hl : s.len = 0 := by omega
    have hb : s.b = [] := List.eq_nil_of_length_eq_zero (by rw [hs.hb]; exact hl)
    rw [hl, hb]
    refine (ref_get0 s.a s.cap w).mono ?_
    rintro x w' ⟨rfl, h⟩
    exact ⟨.inr ⟨⟨none, 0, 0, 0, 0, []⟩, rfl, rfl, ⟨rfl, Nat.le_refl _, fun _ => ⟨rfl, rfl⟩, fun p => absurd p (Nat.lt_irrefl _), fun p => absurd p (Nat.lt_irrefl _), fun j hj => absurd hj (Nat.not_lt_zero _), fun j hj => absurd hj (Nat.not_lt_zero _)⟩⟩, h⟩
end Go.Proofs.YtimhbjlmpojhoaaGreatDoor

/-! What the two readers answer, in one word each. -/
namespace Go.Proofs.YtimhbjlmpojhoaaGreatDoor
open Go Go.RowKit

def ansOf (r : Except Nat (List Fr.Frame)) : List Fr.Frame × Nat := match r with
  | .error e => ([], e)
  | .ok l => (l, 0)
def noFS : FS := ⟨none, 0, 0, 0, 0, []⟩
theorem noFS_ok (w : World) : noFS.Ok w := ⟨rfl, Nat.le_refl _, fun _ => ⟨rfl, rfl⟩, fun p => absurd p (Nat.lt_irrefl _), fun p => absurd p (Nat.lt_irrefl _), fun _ hj => absurd hj (Nat.not_lt_zero _), fun _ hj => absurd hj (Nat.not_lt_zero _)⟩
/-- What was read, whatever it was. -/
structure GotU (w : World) (b : List By) (x : Ending) (w' : World) (fs : FS) : Prop where
  x : x = .returned (.tuple #[.slice fs.a fs.len fs.cap, .int .i64 ((ansOf (Fr.getAll b)).2 : Int)])
  fr : fs.fr = (ansOf (Fr.getAll b)).1
  ok : fs.Ok w'
  len : fs.len ≤ 1024
  lens : ∀ j, j < fs.len → (gf fs.l j).data.len ≤ 1048584 ∧ (gf fs.l j).ranges.len ≤ 64
  own : w'.ownsRow w.heap.size 37 8 (.slice fs.a fs.len fs.cap) fs.len (vf fs.l)
  each : ∀ F ∈ fs.l, FrNew w.heap.size w' F
  apt : fs.l.Pairwise aptR
theorem GetPostA.u {w w' : World} {b : List By} {x : Ending} (h : GetPostA w b x w') : ∃ fs, GotU w b x w' fs := by
  rcases h with ⟨e, h1, h2⟩ | ⟨fs, ⟨h1, h2, h3, ⟨h4, h5⟩, h6, h7⟩, h8⟩
  · exact ⟨noFS, by rw [h2, h1]; rfl, by rw [h1]; rfl, noFS_ok w', Nat.zero_le _, fun _ hj => absurd hj (Nat.not_lt_zero _), World.ownsRow_nil _ _ _ _, (fun F hF => by cases hF), List.Pairwise.nil⟩
  · exact ⟨fs, by rw [h2, h1]; rfl, by rw [h1]; rfl, h3, h4, h5, h6, h7, h8⟩
theorem RefGot.u {w' : World} {b : List By} {x : Ending} (h : RefGot b x w') : ∃ fs : FS, x = .returned (.tuple #[.slice fs.a fs.len fs.cap, .int .i64 ((ansOf (Fr.getAll b)).2 : Int)]) ∧ fs.fr = (ansOf (Fr.getAll b)).1 ∧ fs.Ok w' := by
  rcases h with ⟨e, h1, h2⟩ | ⟨fs, h1, h2, h3⟩
  · exact ⟨noFS, by rw [h2, h1]; rfl, by rw [h1]; rfl, noFS_ok w'⟩
  · exact ⟨fs, by rw [h2, h1]; rfl, by rw [h1]; rfl, h3⟩
end Go.Proofs.YtimhbjlmpojhoaaGreatDoor
