/-
  Out of SnRfG, SnCalloc.
-/
import Derived.Test.YtehadfidenejdaaGreatDoorGp25
import Derived.Test.YtehadfidenejdaaGreatDoorGp20
import Derived.Test.YtehadfidenejdaaGreatDoorGp9

/-! Written by mksnrfg.py: the document's sender: a frame came in, was lost. -/
namespace Go.Proofs.YtehadfidenejdaaGreatDoor
open Go Go.RowKit

namespace Sr
open Sd
theorem RowO.set1 {w : World} {e : TypeId} {g o n c : Nat} {xs : List Value} (h : RowO w e 1 (.slice (some ⟨g, o, none⟩) n c) n xs) (j : Nat) (hj : j < n) (u : Value) : RowO (w.setCell ⟨g, o + j, none⟩ u) e 1 (.slice (some ⟨g, o, none⟩) n c) n (xs.set j u) := by
  obtain ⟨h1, h2⟩ := h
  rcases h2 with ⟨q, _⟩ | ⟨g', o', c', cur, q, hh, hn, hc, hs, ht⟩
  · cases q
  · injection q with q1 q2 q3
    injection q1 with q1
    injection q1 with q1 q4
    subst q1 q3 q4
    have hr : Row w g e cur := hh
    refine ⟨by rw [List.length_set]; exact h1, .inr ⟨g, o, c, _, rfl, hr.set (o + j) u, hn, hc, by rw [Array.size_setIfInBounds]; exact hs, ?_⟩⟩
    rw [Array.toList_setIfInBounds, ← ht]
    refine List.ext_getElem? fun i => ?_
    rw [List.getElem?_take, List.getElem?_drop, List.getElem?_set, List.getElem?_set, List.getElem?_take, List.getElem?_drop]
    have hl : ((cur.toList.drop o).take (n * 1)).length = n * 1 := by rw [ht]; exact h1
    have hcl : cur.toList.length = cur.size := rfl
    rw [hl]
    by_cases ei : i < n * 1
    · rw [if_pos ei, if_pos ei]
      by_cases ej : j = i
      · subst ej
        rw [if_pos rfl, if_pos (by rw [hcl]; omega), if_pos rfl, if_pos (by omega)]
      · rw [if_neg (by omega), if_neg ej]
    · rw [if_neg ei, if_neg ei, if_neg (by omega)]
theorem vh_set (how : Nat → Nat) (j u : Nat) : ∀ (n : Nat), (vh how n).set j (Value.int .i64 (u : Int)) = vh (fun t => if t = j then u else how t) n
  | 0 => rfl
  | n + 1 => by
    show (vh how n ++ [Value.int .i64 (how n : Int)]).set j _ = vh _ n ++ [Value.int .i64 ((if n = j then u else how n : Nat) : Int)]
    rw [List.set_append, vh_length]
    by_cases e : j < n
    · rw [if_pos e, vh_set how j u n, if_neg (by omega)]
    · rw [if_neg e]
      have hv : vh (fun t => if t = j then u else how t) n = vh how n := vh_congr (fun i hi => if_neg (by omega))
      rw [hv]
      by_cases e2 : n = j
      · subst e2
        rw [if_pos rfl, Nat.sub_self]
        rfl
      · rw [if_neg e2, show j - n = (j - n - 1) + 1 by omega]
        rfl
/-- Between two rounds: how each byte stands now. -/
structure RgI (w W : World) (h fb : Nat) (bv hv : Value) (s : Snd) (F : Array Value) (how : Nat → Nat) : Prop where
  row : Row W h 75 (rfC bv hv s)
  brow : RowO W 5 1 bv s.b.length (vb s.b)
  hrow : RowO W 3 1 hv s.b.length (vh how s.b.length)
  frow : Row W fb 28 F
  keep : KeepP (fun k => hv.ownBlock = some k) w W
section
variable {w W W' : World} {h fb : Nat} {bv hv : Value} {s : Snd} {F : Array Value} {how how' : Nat → Nat}
theorem RgI.below (x : RgI w W h fb bv hv s F how) (hb : Below W.heap.size W W') : RgI w W' h fb bv hv s F how :=
  ⟨x.row.below hb x.row.lt, x.brow.below hb, x.hrow.below hb, x.frow.below hb x.frow.lt, onto x.keep (KeepP.of_below (st := fun _ => False) hb) (fun _ _ q => q.elim)⟩
theorem RgI.step {hg ho hc : Nat} (x : RgI w W h fb bv (.slice (some ⟨hg, ho, none⟩) s.b.length hc) s F how) (j u : Nat) (hj : j < s.b.length) :
    RgI w (W.setCell ⟨hg, ho + j, none⟩ (.int .i64 (u : Int))) h fb bv (.slice (some ⟨hg, ho, none⟩) s.b.length hc) s F (fun t => if t = j then u else how t) := by
  have t1 : Ty W h 75 := ⟨_, x.row⟩
  have t2 : Ty W fb 28 := ⟨_, x.frow⟩
  have t3 : Ty W hg 3 := Ty.row x.hrow rfl
  have o : ∀ k, k ≠ hg → (W.setCell ⟨hg, ho + j, none⟩ (.int .i64 (u : Int))).heap[k]? = W.heap[k]? := fun k hk => Below.heap_setCell _ _ _ k hk
  exact ⟨(o h (t1.ne t3 (by decide))).trans x.row, x.brow.same (fun k e => o k ((Ty.row x.brow e).ne t3 (by decide))), by rw [← vh_set]; exact RowO.set1 x.hrow j hj _, (o fb (t2.ne t3 (by decide))).trans x.frow, onto x.keep (KeepP.setCell (st := fun k => k = hg) rfl W (ho + j) _) (fun q _ e => by rw [e]; rfl)⟩
end
theorem RgI.congr {w W : World} {h fb : Nat} {bv hv : Value} {s : Snd} {F : Array Value} {how how' : Nat → Nat} (x : RgI w W h fb bv hv s F how) (e : ∀ i, i < s.b.length → how i = how' i) : RgI w W h fb bv hv s F how' :=
  ⟨x.row, x.brow, by rw [← vh_congr e]; exact x.hrow, x.frow, x.keep⟩
theorem rg_end {w W : World} {h fb : Nat} {bv hv : Value} {s s' : Snd} {F : Array Value} {how : Nat → Nat} {own : Nat → Prop} (x : RgI w W h fb bv hv s F how) (hb : s'.b = s.b) (hh : ∀ i, i < s.b.length → how i = s'.how i) (hc : rfC bv hv s' = rfC bv hv s) (hf : Fine s') (h2 : ∀ k, OwnR h bv hv k → own k) (h3 : ∀ k, own k → k < w.heap.size) :
    ∃ own', RfS W h s' own' ∧ After own w W own' :=
  ⟨own, ⟨bv, hv, ⟨by rw [hc]; exact x.row, by rw [hb]; exact x.brow, by rw [hb, ← vh_congr hh]; exact x.hrow, hf⟩, h2, fun k e => Nat.lt_of_lt_of_le (h3 k e) x.keep.size⟩, x.keep.mono (fun k e => h2 k (.inr (.inr e))), fun k e => .inl e⟩
theorem rg_end6 {w W : World} {h fb fz : Nat} {bv hv : Value} {s s' : Snd} {F : Array Value} {how : Nat → Nat} {own : Nat → Prop} (x : RgI w W h fb bv hv s F how) (hb : s'.b = s.b) (hh : ∀ i, i < s.b.length → how i = s'.how i) (hc : (rfC bv hv s).setIfInBounds 6 (.int .i64 (fz : Int)) = rfC bv hv s') (hf : Fine s') (h2 : ∀ k, OwnR h bv hv k → own k) (h3 : ∀ k, own k → k < w.heap.size) :
    ∃ own', RfS (W.setCell ⟨h, 6, none⟩ (.int .i64 (fz : Int))) h s' own' ∧ After own w (W.setCell ⟨h, 6, none⟩ (.int .i64 (fz : Int))) own' := by
  have nb : bv.ownBlock ≠ some h := fun e => (Ty.row x.brow e).ne (⟨_, x.row⟩ : Ty W h _) (by decide) rfl
  have nh : hv.ownBlock ≠ some h := fun e => (Ty.row x.hrow e).ne (⟨_, x.row⟩ : Ty W h _) (by decide) rfl
  have kp : KeepP own w (W.setCell ⟨h, 6, none⟩ (.int .i64 (fz : Int))) := onto (x.keep.mono (fun k e => h2 k (.inr (.inr e)))) (KeepP.setCell (st := fun k => k = h) rfl W 6 _) (fun q _ e => h2 q (.inl e))
  exact ⟨own, ⟨bv, hv, ⟨by rw [← hc]; exact (show Row W h _ _ from x.row).set 6 _, by rw [hb]; exact RowO.setG x.brow nb 6 _, by rw [hb, ← vh_congr hh]; exact RowO.setG x.hrow nh 6 _, hf⟩, h2, fun k e => Nat.lt_of_lt_of_le (h3 k e) kp.size⟩, kp, fun k e => .inl e⟩
def RHeardP (w w' : World) (h : Nat) (s s' : Snd) (own : Nat → Prop) (f : FrM) (e : Ending) : Prop :=
  (itsB s f = false ∧ e = .returned (.int .i64 1) ∧ Below w.heap.size w w') ∨
  (itsB s f = true ∧ e = .returned (.int .i64 0) ∧ ∃ own', RfS w' h s' own' ∧ After own w w' own')
set_option maxHeartbeats 4000000 in
set_option maxRecDepth 20000 in
theorem refGot_any {w : World} {h : Nat} {s : Snd} {own : Nat → Prop} (x : RfS w h s own) (f : FrM) (hf : f.Ok w) (hdl : f.data.len < 140737488355328) :
    Calls Tryz.prog 20 #[.pointer (some ⟨h, 0, none⟩), .agg f.cells] w fun e w' => RHeardP w w' h s (gotF s f) own f e := by
  have hba := (Below.refl _ w).alloc (Nat.le_refl _) (.cells f.cells 28)
  have HM := veil (refMine_any (x.below hba) f (hf.below hba) hdl)
  have hff := Row.new w 28 f.cells
  obtain ⟨bv, hv, h1, h2, h3⟩ := x
  have HBA := veil hba
  have HFR := veil hff
  have HRF := veil h1
  have HOW := veil (show (∀ k, OwnR h bv hv k → own k) ∧ (∀ k, own k → k < w.heap.size) from ⟨h2, h3⟩)
  have HDB := veil hf.data.hb
  have hof := hf.of
  obtain ⟨B, hB⟩ : ∃ B, itsB s f = B := ⟨_, rfl⟩
  rw [hB] at HM
  have HBB := veil hB
  obtain ⟨kd, st, of_, li, co, fi, ⟨da, dl, dc, dg, do_, db⟩, ⟨ra, rl, rc, rg, ro, rb⟩⟩ := f
  unfold FrM.cells at *
  simp only at *
  obtain ⟨k0, k1, k2, k3, k4, k5, k6, k7⟩ : (w.alloc (.cells #[.int .u8 (kd : Int), .int .u64 (st : Int), .int .u64 (of_ : Int), .int .u64 (li : Int), .int .u64 (co : Int), .bool fi, .slice da dl dc, .slice ra rl rc] 28)).cell? ⟨w.heap.size, 0, none⟩ = some (.int .u8 (kd : Int)) ∧ (w.alloc (.cells #[.int .u8 (kd : Int), .int .u64 (st : Int), .int .u64 (of_ : Int), .int .u64 (li : Int), .int .u64 (co : Int), .bool fi, .slice da dl dc, .slice ra rl rc] 28)).cell? ⟨w.heap.size, 1, none⟩ = some (.int .u64 (st : Int)) ∧ (w.alloc (.cells #[.int .u8 (kd : Int), .int .u64 (st : Int), .int .u64 (of_ : Int), .int .u64 (li : Int), .int .u64 (co : Int), .bool fi, .slice da dl dc, .slice ra rl rc] 28)).cell? ⟨w.heap.size, 2, none⟩ = some (.int .u64 (of_ : Int)) ∧ (w.alloc (.cells #[.int .u8 (kd : Int), .int .u64 (st : Int), .int .u64 (of_ : Int), .int .u64 (li : Int), .int .u64 (co : Int), .bool fi, .slice da dl dc, .slice ra rl rc] 28)).cell? ⟨w.heap.size, 3, none⟩ = some (.int .u64 (li : Int)) ∧ (w.alloc (.cells #[.int .u8 (kd : Int), .int .u64 (st : Int), .int .u64 (of_ : Int), .int .u64 (li : Int), .int .u64 (co : Int), .bool fi, .slice da dl dc, .slice ra rl rc] 28)).cell? ⟨w.heap.size, 4, none⟩ = some (.int .u64 (co : Int)) ∧ (w.alloc (.cells #[.int .u8 (kd : Int), .int .u64 (st : Int), .int .u64 (of_ : Int), .int .u64 (li : Int), .int .u64 (co : Int), .bool fi, .slice da dl dc, .slice ra rl rc] 28)).cell? ⟨w.heap.size, 5, none⟩ = some (.bool fi) ∧ (w.alloc (.cells #[.int .u8 (kd : Int), .int .u64 (st : Int), .int .u64 (of_ : Int), .int .u64 (li : Int), .int .u64 (co : Int), .bool fi, .slice da dl dc, .slice ra rl rc] 28)).cell? ⟨w.heap.size, 6, none⟩ = some (.slice da dl dc) ∧ (w.alloc (.cells #[.int .u8 (kd : Int), .int .u64 (st : Int), .int .u64 (of_ : Int), .int .u64 (li : Int), .int .u64 (co : Int), .bool fi, .slice da dl dc, .slice ra rl rc] 28)).cell? ⟨w.heap.size, 7, none⟩ = some (.slice ra rl rc) :=
    ⟨hff.cell 0, hff.cell 1, hff.cell 2, hff.cell 3, hff.cell 4, hff.cell 5, hff.cell 6, hff.cell 7⟩
  clear h1 h2 h3 hf hba hff hB
  go_enter Tryz.func20, Tryz.ntmps20
  go_wp2_with fail
  refine HM.out.mono ?_
  rintro e1 w1 ⟨rfl, hb1⟩
  have hbz := HBA.out.trans (hb1.mono HBA.out.size)
  have HRF1 := veil (HRF.out.below hbz)
  have HFR1 := veil (HFR.out.below hb1 HFR.out.lt)
  have HBZ := veil hbz
  clear hbz hb1 HM k0 k1 k2 k3 k4 k5 k6 k7
  cases B
  · go_wp2_with fail
    go_ret
    exact Or.inl ⟨HBB.out, rfl, HBZ.out⟩
  · have hm := its_mine HBB.out
    simp only at hm
    have HMI := veil hm
    have c7 := HRF1.out.row.cell 7
    have j2 := HFR1.out.cell 2
    have j5 := HFR1.out.cell 5
    have j6 := HFR1.out.cell 6
    unfold rfC at c7
    cases hr : s.reset
    · rw [hr] at c7
      have HRS := veil hr
      clear hr hm
      go_wp2_with fail
      clear c7 j2 j5 j6
      go_loopw [5] (fun iv wr => ∃ i : Nat, i ≤ dl ∧ iv = .int .i64 (i : Int) ∧ RgI w wr h w.heap.size bv hv s #[.int .u8 (kd : Int), .int .u64 (st : Int), .int .u64 (of_ : Int), .int .u64 (li : Int), .int .u64 (co : Int), .bool fi, .slice da dl dc, .slice ra rl rc] (fun t => if of_ ≤ t ∧ t < of_ + i then 3 else s.how t))
        (fun iv _ => dl - (intOf iv).toNat)
      case atStart =>
        refine ⟨0, Nat.zero_le _, rfl, ⟨HRF1.out.row, HRF1.out.brow, ?_, HFR1.out, KeepP.of_below HBZ.out⟩⟩
        rw [vh_congr (h' := s.how) (fun t _ => by simp; try omega)]
        exact HRF1.out.hrow
      case round =>
        obtain ⟨i, hi, rfl, hI⟩ := hrel
        have HI := veil hI
        have g3 := hI.row.cell 3
        have m2 := hI.frow.cell 2
        have m5 := hI.frow.cell 5
        have m6 := hI.frow.cell 6
        have g6 := hI.row.cell 6
        have z6 := hI.row.frozen 6
        unfold rfC at g3 g6
        have hfl := HRF1.out.fine.fr
        have hln := HRF1.out.fine.len
        by_cases hlt : i < dl
        · have hj : of_ + i < s.b.length := by have h1 := HMI.out.1; have h2 := HMI.out.2.1; rw [HDB.out] at h2; omega
          obtain ⟨va, vc, hve, _, _⟩ := hI.hrow.shape
          subst hve
          obtain ⟨hg, ho, rfl, ck⟩ := hI.hrow.cells (of_ + i) _ (vh_get _ _ _ hj)
          obtain ⟨oi, hoi⟩ : ∃ oi, of_ + i = oi := ⟨_, rfl⟩
          rw [hoi] at ck hj
          have wo : IntKind.i64.wrap (of_ : Int) = (of_ : Int) := by rw [IntKind.wrap_i64]; omega
          have wi : IntKind.i64.wrap ((of_ : Int) + (i : Int)) = (oi : Int) := by rw [IntKind.wrap_i64]; omega
          have bI : (i : Int) < (dl : Int) := by omega
          have bJ : (oi : Int) < (s.b.length : Int) := by omega
          have fk : wr.frozen? ⟨hg, ho + oi, none⟩ = false := by
            obtain ⟨cur, hcur⟩ : Ty wr hg 3 := Ty.row hI.hrow rfl
            exact Row.frozen (t := 3) (cs := cur) hcur _
          have HJ := veil hj
          have HLT := veil hlt
          have HOI := veil hoi
          have hi2 : i < 140737488355328 := by omega
          clear hI hfl hln hlt hi hof hoi
          have HI2 := veil (fun (W2 : World) (hb : Below wr.heap.size wr W2) => ((HI.out.below hb).step oi 3 HJ.out).congr (how' := fun t => if of_ ≤ t ∧ t < of_ + (i + 1) then 3 else s.how t) (fun t _ => by
            have := HOI.out
            show (if t = oi then 3 else (if of_ ≤ t ∧ t < of_ + i then 3 else s.how t)) = (if of_ ≤ t ∧ t < of_ + (i + 1) then 3 else s.how t)
            by_cases e1 : t = oi
            · rw [if_pos e1, if_pos (by omega)]
            · rw [if_neg e1]
              by_cases e2 : of_ ≤ t ∧ t < of_ + i
              · rw [if_pos e2, if_pos (by omega)]
              · rw [if_neg e2, if_neg (by omega)]))
          generalize ((if of_ ≤ oi ∧ oi < of_ + i then 3 else s.how oi : Nat) : Int) = old at *
          go_wp2_with fail
          go_region
          all_goals go_wp2_with fail
          all_goals
            go_roundw
            case rel => exact ⟨i + 1, HLT.out, by go_num, HI2.out _ ((Below.refl _ wr).drew)⟩
            case measure => have := HLT.out; simp [intOf]; omega
        · obtain rfl : i = dl := by omega
          have HLT := veil hlt
          clear hI hlt hi
          have hg : gotF s ⟨kd, st, of_, li, co, fi, ⟨da, i, dc, dg, do_, db⟩, ⟨ra, rl, rc, rg, ro, rb⟩⟩ = { s with how := fun t => if of_ ≤ t ∧ t < of_ + i then 3 else s.how t, fin := if fi = true then 3 else s.fin } := by
            unfold gotF got
            simp only
            rw [HRS.out, if_neg (by simp), HDB.out]
          have hfn := got_fine HRF.out.fine HMI.out
          have hg2 : got s of_ db.length fi = { s with how := fun t => if of_ ≤ t ∧ t < of_ + i then 3 else s.how t, fin := if fi = true then 3 else s.fin } := by
            unfold got
            rw [HRS.out, if_neg (by simp), HDB.out]
          rw [hg2] at hfn
          have HFN := veil hfn
          have HG := veil hg
          clear hg hg2 hfn
          cases fi
          · go_wp2_with fail
            go_ret
            exact Or.inr ⟨HBB.out, rfl, by rw [HG.out]; exact rg_end HI.out rfl (fun _ _ => rfl) rfl HFN.out HOW.out.1 HOW.out.2⟩
          · go_wp2_with fail
            go_ret
            exact Or.inr ⟨HBB.out, rfl, by rw [HG.out]; exact rg_end6 (fz := 3) HI.out rfl (fun _ _ => rfl) rfl HFN.out HOW.out.1 HOW.out.2⟩
    · rw [hr] at c7
      have hg : gotF s ⟨kd, st, of_, li, co, fi, ⟨da, dl, dc, dg, do_, db⟩, ⟨ra, rl, rc, rg, ro, rb⟩⟩ = s := by unfold gotF got; rw [if_pos hr]
      clear hr
      go_wp2_with fail
      go_ret
      refine Or.inr ⟨HBB.out, rfl, own, ?_, After.same HBZ.out⟩
      rw [hg]
      exact ⟨bv, hv, HRF.out.below HBZ.out, HOW.out.1, fun k e => Nat.lt_of_lt_of_le (HOW.out.2 k e) HBZ.out.size⟩
set_option maxHeartbeats 4000000 in
set_option maxRecDepth 20000 in
theorem refLost_any {w : World} {h : Nat} {s : Snd} {own : Nat → Prop} (x : RfS w h s own) (f : FrM) (hf : f.Ok w) (hdl : f.data.len < 140737488355328) :
    Calls Tryz.prog 22 #[.pointer (some ⟨h, 0, none⟩), .agg f.cells] w fun e w' => RHeardP w w' h s (lostF s f) own f e := by
  have hba := (Below.refl _ w).alloc (Nat.le_refl _) (.cells f.cells 28)
  have HM := veil (refMine_any (x.below hba) f (hf.below hba) hdl)
  have hff := Row.new w 28 f.cells
  obtain ⟨bv, hv, h1, h2, h3⟩ := x
  have HBA := veil hba
  have HFR := veil hff
  have HRF := veil h1
  have HOW := veil (show (∀ k, OwnR h bv hv k → own k) ∧ (∀ k, own k → k < w.heap.size) from ⟨h2, h3⟩)
  have HDB := veil hf.data.hb
  have hof := hf.of
  obtain ⟨B, hB⟩ : ∃ B, itsB s f = B := ⟨_, rfl⟩
  rw [hB] at HM
  have HBB := veil hB
  obtain ⟨kd, st, of_, li, co, fi, ⟨da, dl, dc, dg, do_, db⟩, ⟨ra, rl, rc, rg, ro, rb⟩⟩ := f
  unfold FrM.cells at *
  simp only at *
  obtain ⟨k0, k1, k2, k3, k4, k5, k6, k7⟩ : (w.alloc (.cells #[.int .u8 (kd : Int), .int .u64 (st : Int), .int .u64 (of_ : Int), .int .u64 (li : Int), .int .u64 (co : Int), .bool fi, .slice da dl dc, .slice ra rl rc] 28)).cell? ⟨w.heap.size, 0, none⟩ = some (.int .u8 (kd : Int)) ∧ (w.alloc (.cells #[.int .u8 (kd : Int), .int .u64 (st : Int), .int .u64 (of_ : Int), .int .u64 (li : Int), .int .u64 (co : Int), .bool fi, .slice da dl dc, .slice ra rl rc] 28)).cell? ⟨w.heap.size, 1, none⟩ = some (.int .u64 (st : Int)) ∧ (w.alloc (.cells #[.int .u8 (kd : Int), .int .u64 (st : Int), .int .u64 (of_ : Int), .int .u64 (li : Int), .int .u64 (co : Int), .bool fi, .slice da dl dc, .slice ra rl rc] 28)).cell? ⟨w.heap.size, 2, none⟩ = some (.int .u64 (of_ : Int)) ∧ (w.alloc (.cells #[.int .u8 (kd : Int), .int .u64 (st : Int), .int .u64 (of_ : Int), .int .u64 (li : Int), .int .u64 (co : Int), .bool fi, .slice da dl dc, .slice ra rl rc] 28)).cell? ⟨w.heap.size, 3, none⟩ = some (.int .u64 (li : Int)) ∧ (w.alloc (.cells #[.int .u8 (kd : Int), .int .u64 (st : Int), .int .u64 (of_ : Int), .int .u64 (li : Int), .int .u64 (co : Int), .bool fi, .slice da dl dc, .slice ra rl rc] 28)).cell? ⟨w.heap.size, 4, none⟩ = some (.int .u64 (co : Int)) ∧ (w.alloc (.cells #[.int .u8 (kd : Int), .int .u64 (st : Int), .int .u64 (of_ : Int), .int .u64 (li : Int), .int .u64 (co : Int), .bool fi, .slice da dl dc, .slice ra rl rc] 28)).cell? ⟨w.heap.size, 5, none⟩ = some (.bool fi) ∧ (w.alloc (.cells #[.int .u8 (kd : Int), .int .u64 (st : Int), .int .u64 (of_ : Int), .int .u64 (li : Int), .int .u64 (co : Int), .bool fi, .slice da dl dc, .slice ra rl rc] 28)).cell? ⟨w.heap.size, 6, none⟩ = some (.slice da dl dc) ∧ (w.alloc (.cells #[.int .u8 (kd : Int), .int .u64 (st : Int), .int .u64 (of_ : Int), .int .u64 (li : Int), .int .u64 (co : Int), .bool fi, .slice da dl dc, .slice ra rl rc] 28)).cell? ⟨w.heap.size, 7, none⟩ = some (.slice ra rl rc) :=
    ⟨hff.cell 0, hff.cell 1, hff.cell 2, hff.cell 3, hff.cell 4, hff.cell 5, hff.cell 6, hff.cell 7⟩
  clear h1 h2 h3 hf hba hff hB
  go_enter Tryz.func22, Tryz.ntmps22
  go_wp2_with fail
  refine HM.out.mono ?_
  rintro e1 w1 ⟨rfl, hb1⟩
  have hbz := HBA.out.trans (hb1.mono HBA.out.size)
  have HRF1 := veil (HRF.out.below hbz)
  have HFR1 := veil (HFR.out.below hb1 HFR.out.lt)
  have HBZ := veil hbz
  clear hbz hb1 HM k0 k1 k2 k3 k4 k5 k6 k7
  cases B
  · go_wp2_with fail
    go_ret
    exact Or.inl ⟨HBB.out, rfl, HBZ.out⟩
  · have hm := its_mine HBB.out
    simp only at hm
    have HMI := veil hm
    have c7 := HRF1.out.row.cell 7
    have j2 := HFR1.out.cell 2
    have j5 := HFR1.out.cell 5
    have j6 := HFR1.out.cell 6
    unfold rfC at c7
    cases hr : s.reset
    · rw [hr] at c7
      have HRS := veil hr
      clear hr hm
      go_wp2_with fail
      clear c7 j2 j5 j6
      go_loopw [5] (fun iv wr => ∃ i : Nat, i ≤ dl ∧ iv = .int .i64 (i : Int) ∧ RgI w wr h w.heap.size bv hv s #[.int .u8 (kd : Int), .int .u64 (st : Int), .int .u64 (of_ : Int), .int .u64 (li : Int), .int .u64 (co : Int), .bool fi, .slice da dl dc, .slice ra rl rc] (fun t => if (of_ ≤ t ∧ t < of_ + i) ∧ s.how t ≠ 3 then 2 else s.how t))
        (fun iv _ => dl - (intOf iv).toNat)
      case atStart =>
        refine ⟨0, Nat.zero_le _, rfl, ⟨HRF1.out.row, HRF1.out.brow, ?_, HFR1.out, KeepP.of_below HBZ.out⟩⟩
        rw [vh_congr (h' := s.how) (fun t _ => by simp; try omega)]
        exact HRF1.out.hrow
      case round =>
        obtain ⟨i, hi, rfl, hI⟩ := hrel
        have HI := veil hI
        have g3 := hI.row.cell 3
        have m2 := hI.frow.cell 2
        have m5 := hI.frow.cell 5
        have m6 := hI.frow.cell 6
        have g6 := hI.row.cell 6
        have z6 := hI.row.frozen 6
        unfold rfC at g3 g6
        have hfl := HRF1.out.fine.fr
        have hln := HRF1.out.fine.len
        by_cases hlt : i < dl
        · have hj : of_ + i < s.b.length := by have h1 := HMI.out.1; have h2 := HMI.out.2.1; rw [HDB.out] at h2; omega
          obtain ⟨va, vc, hve, _, _⟩ := hI.hrow.shape
          subst hve
          obtain ⟨hg, ho, rfl, ck⟩ := hI.hrow.cells (of_ + i) _ (vh_get _ _ _ hj)
          obtain ⟨oi, hoi⟩ : ∃ oi, of_ + i = oi := ⟨_, rfl⟩
          rw [hoi] at ck hj
          have wo : IntKind.i64.wrap (of_ : Int) = (of_ : Int) := by rw [IntKind.wrap_i64]; omega
          have wi : IntKind.i64.wrap ((of_ : Int) + (i : Int)) = (oi : Int) := by rw [IntKind.wrap_i64]; omega
          have bI : (i : Int) < (dl : Int) := by omega
          have bJ : (oi : Int) < (s.b.length : Int) := by omega
          have fk : wr.frozen? ⟨hg, ho + oi, none⟩ = false := by
            obtain ⟨cur, hcur⟩ : Ty wr hg 3 := Ty.row hI.hrow rfl
            exact Row.frozen (t := 3) (cs := cur) hcur _
          have HJ := veil hj
          have HLT := veil hlt
          have HOI := veil hoi
          have hi2 : i < 140737488355328 := by omega
          clear hI hfl hln hlt hi hof hoi
          have hck : (if (of_ ≤ oi ∧ oi < oi) ∧ s.how oi ≠ 3 then 2 else s.how oi) = s.how oi := if_neg (fun e => absurd e.1.2 (Nat.lt_irrefl _))
          rw [hck] at ck
          clear hck
          by_cases h3 : s.how oi = 3
          · have HI2 := veil (fun (W2 : World) (hb : Below wr.heap.size wr W2) => (HI.out.below hb).congr (how' := fun t => if (of_ ≤ t ∧ t < of_ + (i + 1)) ∧ s.how t ≠ 3 then 2 else s.how t) (fun t _ => by
              have := HOI.out
              show (if (of_ ≤ t ∧ t < of_ + i) ∧ s.how t ≠ 3 then 2 else s.how t) = (if (of_ ≤ t ∧ t < of_ + (i + 1)) ∧ s.how t ≠ 3 then 2 else s.how t)
              by_cases e1 : t = oi
              · rw [e1, h3, if_neg (by simp), if_neg (by simp)]
              · by_cases e2 : (of_ ≤ t ∧ t < of_ + i) ∧ s.how t ≠ 3
                · rw [if_pos e2, if_pos ⟨by omega, e2.2⟩]
                · rw [if_neg e2, if_neg (fun e => e2 ⟨by omega, e.2⟩)]))
            rw [h3] at ck
            clear h3
            go_wp2_with fail
            go_quiet (fail)
            go_wp2_with fail
            go_roundw
            case rel => exact ⟨i + 1, HLT.out, by go_num, HI2.out _ (below_drewN (Below.refl _ wr) _)⟩
            case measure => have := HLT.out; simp [intOf]; omega
          · have HI2 := veil (fun (W2 : World) (hb : Below wr.heap.size wr W2) => ((HI.out.below hb).step oi 2 HJ.out).congr (how' := fun t => if (of_ ≤ t ∧ t < of_ + (i + 1)) ∧ s.how t ≠ 3 then 2 else s.how t) (fun t _ => by
              have := HOI.out
              show (if t = oi then 2 else (if (of_ ≤ t ∧ t < of_ + i) ∧ s.how t ≠ 3 then 2 else s.how t)) = (if (of_ ≤ t ∧ t < of_ + (i + 1)) ∧ s.how t ≠ 3 then 2 else s.how t)
              by_cases e1 : t = oi
              · rw [if_pos e1, e1, if_pos ⟨by omega, h3⟩]
              · rw [if_neg e1]
                by_cases e2 : (of_ ≤ t ∧ t < of_ + i) ∧ s.how t ≠ 3
                · rw [if_pos e2, if_pos ⟨by omega, e2.2⟩]
                · rw [if_neg e2, if_neg (fun e => e2 ⟨by omega, e.2⟩)]))
            have n1 : ((s.how oi : Int) != 3) = true := by rw [bne_iff_ne]; omega
            have n2 : ¬ (s.how oi : Int) = 3 := by omega
            generalize (s.how oi : Int) = old at *
            clear h3
            go_wp2_with fail
            go_quiet (fail)
            go_wp2_with fail
            go_region
            all_goals go_wp2_with fail
            all_goals
              go_roundw
              case rel => exact ⟨i + 1, HLT.out, by go_num, HI2.out _ ((below_drewN (Below.refl _ wr) _).drew)⟩
              case measure => have := HLT.out; simp [intOf]; omega
        · obtain rfl : i = dl := by omega
          have HLT := veil hlt
          clear hI hlt hi
          have hg : lostF s ⟨kd, st, of_, li, co, fi, ⟨da, i, dc, dg, do_, db⟩, ⟨ra, rl, rc, rg, ro, rb⟩⟩ = { s with how := fun t => if (of_ ≤ t ∧ t < of_ + i) ∧ s.how t ≠ 3 then 2 else s.how t, fin := if fi = true ∧ s.fin ≠ 3 then 2 else s.fin } := by
            unfold lostF lost
            simp only
            rw [HRS.out, if_neg (by simp), HDB.out]
          have hfn := lost_fine HRF.out.fine HMI.out
          have hg2 : lost s of_ db.length fi = { s with how := fun t => if (of_ ≤ t ∧ t < of_ + i) ∧ s.how t ≠ 3 then 2 else s.how t, fin := if fi = true ∧ s.fin ≠ 3 then 2 else s.fin } := by
            unfold lost
            rw [HRS.out, if_neg (by simp), HDB.out]
          rw [hg2] at hfn
          have HFN := veil hfn
          have HG := veil hg
          clear hg hg2 hfn
          cases fi
          · go_wp2_with fail
            go_ret
            exact Or.inr ⟨HBB.out, rfl, by rw [HG.out]; exact rg_end HI.out rfl (fun _ _ => rfl) (by unfold rfC; rw [if_neg (by simp)]) HFN.out HOW.out.1 HOW.out.2⟩
          · by_cases hz : s.fin = 3
            · have HZ := veil hz
              rw [hz] at g6
              clear hz
              go_wp2_with fail
              go_ret
              exact Or.inr ⟨HBB.out, rfl, by rw [HG.out]; exact rg_end HI.out rfl (fun _ _ => rfl) (by unfold rfC; rw [if_neg (by rw [HZ.out]; simp)]) HFN.out HOW.out.1 HOW.out.2⟩
            · have n1 : ((s.fin : Int) != 3) = true := by rw [bne_iff_ne]; omega
              have n2 : ¬ (s.fin : Int) = 3 := by omega
              have HZ := veil hz
              clear hz
              go_wp2_with fail
              go_ret
              exact Or.inr ⟨HBB.out, rfl, by rw [HG.out]; exact rg_end6 (fz := 2) HI.out rfl (fun _ _ => rfl) (by simp [rfC, HZ.out]) HFN.out HOW.out.1 HOW.out.2⟩
    · rw [hr] at c7
      have hg : lostF s ⟨kd, st, of_, li, co, fi, ⟨da, dl, dc, dg, do_, db⟩, ⟨ra, rl, rc, rg, ro, rb⟩⟩ = s := by unfold lostF lost; rw [if_pos hr]
      clear hr
      go_wp2_with fail
      go_ret
      refine Or.inr ⟨HBB.out, rfl, own, ?_, After.same HBZ.out⟩
      rw [hg]
      exact ⟨bv, hv, HRF.out.below HBZ.out, HOW.out.1, fun k e => Nat.lt_of_lt_of_le (HOW.out.2 k e) HBZ.out.size⟩
end Sr
end Go.Proofs.YtehadfidenejdaaGreatDoor

/-! A region that draws its order: one call that turns the world, a new variable that is filled with what the call answered; all else reads. No program in sight. -/
namespace Go.Proofs.YtehadfidenejdaaGreatDoor
open Go Go.RowKit

section
variable {F : Fence} {n : Nat} {P : Program} {ops : Array Oper} {Q : Exit → Act → World → Prop} {md : Region.Mode}
def ptrC (p : Nat) : Value := .pointer (some ⟨p, 0, none⟩)
theorem anyIn_calloc {a0 : Act} {W0 : World} (V : Nat → Value) (U : Value → Nat → Value) (aft : Nat → Bool) (ic ia is_ : Nat) (anc : List Nat) (T : TypeId) (zc : Array Value) (cs : Value → Array Value) (own : Nat → Prop) (C : Value → (Nat → Prop) → World → Prop)
    (ds : List Nat) (dep : Nat → List Nat) (hd : edgesB md ops dep = true) (hlen : ds.length = ops.size) (hnd : ds.Nodup)
    (hanc : anc.all (fun j => decide (j < ops.size) && ((dep ic).contains j || anc.any fun q => decide (j < q) && (dep q).contains j)) = true)
    (hic : ic < ops.size) (hia : ia < ops.size) (his : is_ < ops.size) (hcc : aft ic = true) (hca : aft ia = false) (hcs : aft is_ = false) (hias : ia ≠ is_)
    (haft : ((List.range ops.size).all fun j => !aft j || decide (j = ic) || (dep j).any fun q => aft q) = true)
    (hsa : ia ∈ dep is_) (hsc : ((dep is_).any fun q => aft q) = true)
    (hU : ∀ v, U v ic = v)
    (hown : ∀ k, own k → k < W0.heap.size)
    (hClt : ∀ v o W, C v o W → ∀ k, o k → k < W.heap.size)
    (hCkeep : ∀ v o W W' st, C v o W → KeepP st W W' → (∀ k, o k → ¬ st k) → (∀ k, st k → W0.heap.size ≤ k) → C v o W')
    (hW : Below W0.heap.size W0 W0)
    (hfix : ∀ (x : Nat → Value) (W : World) (i d : Nat), i ≠ ia → i ≠ is_ → aft i = false → ds[i]? = some d → (i ∈ anc → Below W0.heap.size W0 W) → (Below W0.heap.size W0 W ∨ ∃ v o, C v o W) → (∀ j ∈ dep i, aft j = false → j ≠ ia → j ≠ is_ → x j = V j) → wpOpIn F n P ops Q i (fun a' W' => a' = (putsV a0 ds 0 x).put (some d) (V i) ∧ W' = W) (putsV a0 ds 0 x) W)
    (hcall : ∀ (x : Nat → Value) (W : World) (d : Nat), ds[ic]? = some d → Below W0.heap.size W0 W → (∀ j ∈ dep ic, aft j = false → j ≠ ia → j ≠ is_ → x j = V j) → wpOpIn F n P ops Q ic (fun a' W' => ∃ v o, a' = (putsV a0 ds 0 x).put (some d) v ∧ C v o W' ∧ KeepP own W W' ∧ (∀ k, o k → own k ∨ W.heap.size ≤ k)) (putsV a0 ds 0 x) W)
    (haftS : ∀ (x : Nat → Value) (W : World) (i d : Nat) (v : Value), aft i = true → i ≠ ic → ds[i]? = some d → (∃ o, C v o W) → (∀ j ∈ dep i, aft j = true → x j = U v j) → (∀ j ∈ dep i, aft j = false → j ≠ ia → j ≠ is_ → x j = V j) → wpOpIn F n P ops Q i (fun a' W' => a' = (putsV a0 ds 0 x).put (some d) (U v i) ∧ W' = W) (putsV a0 ds 0 x) W)
    (hall : ∀ (x : Nat → Value) (W : World) (d : Nat), ds[ia]? = some d → wpOpIn F n P ops Q ia (fun a' W' => a' = (putsV a0 ds 0 x).put (some d) (ptrC W.heap.size) ∧ W' = W.alloc (.cells zc T)) (putsV a0 ds 0 x) W)
    (hsto : ∀ (x : Nat → Value) (W : World) (d p : Nat) (v : Value), ds[is_]? = some d → x ia = ptrC p → Row W p T zc → (∃ o, C v o W) → (∀ j ∈ dep is_, aft j = true → x j = U v j) → wpOpIn F n P ops Q is_ (fun a' W' => (∃ u, a' = (putsV a0 ds 0 x).put (some d) u) ∧ W' = W.setRow p (cs v)) (putsV a0 ds 0 x) W)
    (hrow : ∀ W p v o, C v o W → Row W p T zc → Row (W.setRow p (cs v)) p T (cs v) ∧ KeepP (fun k => k = p) W (W.setRow p (cs v)))
    (hdone : ∀ (x : Nat → Value) (W : World) (v : Value) (o : Nat → Prop) (p : Nat), C v o W → (∀ j, j < ops.size → aft j = false → j ≠ ia → j ≠ is_ → x j = V j) → (∀ j, j < ops.size → aft j = true → x j = U v j) → x ia = ptrC p → W0.heap.size ≤ p → ¬ o p → Row W p T (cs v) → Q .normal (putsV a0 ds 0 x) W) :
    wpAnyIn F n P md ops Q ops.size (Array.replicate ops.size false) a0 W0 := by
  have hancP : ∀ j ∈ anc, j < ops.size ∧ (j ∈ dep ic ∨ ∃ q ∈ anc, j < q ∧ j ∈ dep q) := by
    intro j hj
    have h := List.all_eq_true.1 hanc j hj
    rw [Bool.and_eq_true, decide_eq_true_eq, Bool.or_eq_true] at h
    refine ⟨h.1, h.2.imp (fun q => by simpa using q) (fun q => ?_)⟩
    obtain ⟨r, h1, h2⟩ := List.any_eq_true.1 q
    rw [Bool.and_eq_true, decide_eq_true_eq] at h2
    exact ⟨r, h1, h2.1, by simpa using h2.2⟩
  have haftP : ∀ j, j < ops.size → aft j = true → j = ic ∨ ∃ q ∈ dep j, aft q = true := by
    intro j hj h
    have h1 := List.all_eq_true.1 haft j (by rw [List.mem_range]; exact hj)
    rw [h] at h1
    simp only [Bool.not_true, Bool.false_or, Bool.or_eq_true, decide_eq_true_eq] at h1
    exact h1.imp_right (fun q => by obtain ⟨r, a, b⟩ := List.any_eq_true.1 q; exact ⟨r, a, b⟩)
  obtain ⟨qs, hqs1, hqs2⟩ := List.any_eq_true.1 hsc
  refine anyIn_inv2 (Inv := fun l a W => ∃ x : Nat → Value, a = putsV a0 ds 0 x ∧ (∀ j, On l j → aft j = false → j ≠ ia → j ≠ is_ → x j = V j) ∧ (∀ j, On l j → ∀ i ∈ dep j, On l i) ∧
    ((¬ On l ic ∧ Below W0.heap.size W0 W ∧ (∀ j, On l j → aft j = false) ∧ (On l ia → ∃ p, x ia = ptrC p ∧ W0.heap.size ≤ p ∧ Row W p T zc)) ∨
     (On l ic ∧ ∃ v o, (C v o W ∧ W0.heap.size ≤ W.heap.size) ∧ (∀ j, On l j → aft j = true → x j = U v j) ∧ (On l ia → ∃ p, x ia = ptrC p ∧ W0.heap.size ≤ p ∧ ¬ o p ∧ (On l is_ ∧ Row W p T (cs v) ∨ ¬ On l is_ ∧ Row W p T zc))))) dep ops.size rfl hd ?_ ?_ _ _ _ _ (by simp) (by simp) ?_
  · rintro l a W i hl ⟨x, rfl, h1, h4, h5⟩ hi hno hdep
    have hdi : ds[i]? = some ds[i] := List.getElem?_eq_getElem (by omega)
    have hon : ∀ j, On (l.setIfInBounds i true) j ↔ j = i ∨ On l j := by
      intro j
      constructor
      · intro h
        by_cases e : j = i
        · exact .inl e
        · exact .inr (h.of_set (Ne.symm e))
      · rintro (rfl | h)
        · exact On.self (by omega)
        · exact h.set
    have hcl : ∀ j, On (l.setIfInBounds i true) j → ∀ i' ∈ dep j, On (l.setIfInBounds i true) i' := by
      intro j hj q hq
      rcases (hon j).1 hj with rfl | hj
      · exact (hdep q hq).set
      · exact (h4 j hj q hq).set
    have hput : ∀ v, (putsV a0 ds 0 x).put (some ds[i]) v = putsV a0 ds 0 (updV x i v) := fun v => by rw [puts_put ds a0 0 i _ x _ hnd hdi, Nat.zero_add]
    have hself : ∀ v, updV x i v i = v := fun v => by unfold updV; rw [if_pos rfl]
    have hoth : ∀ v j, j ≠ i → updV x i v j = x j := fun v j e => by unfold updV; rw [if_neg e]
    have hnos : ¬ On l ia → ¬ On l is_ := fun h1 h2 => h1 (h4 _ h2 _ hsa)
    by_cases eA : i = ia
    · subst eA
      refine wpOpIn_mono ?_ (hall x W ds[i] hdi)
      rintro a' W' ⟨rfl, rfl⟩
      have hni : i ≠ ic := fun e => by rw [e, hcc] at hca; cases hca
      refine ⟨updV x i (ptrC W.heap.size), hput _, fun j hj ha n1 n2 => by rw [hoth _ _ n1]; exact h1 j (((hon j).1 hj).resolve_left n1) ha n1 n2, hcl, ?_⟩
      have hic' : On (l.setIfInBounds i true) ic ↔ On l ic := by rw [hon]; exact ⟨fun h => h.resolve_left (Ne.symm hni), .inr⟩
      have his' : ¬ On (l.setIfInBounds i true) is_ := fun h => hnos hno (((hon is_).1 h).resolve_left (Ne.symm hias))
      rcases h5 with ⟨g1, g2, g3, g4⟩ | ⟨g1, v, o, ⟨g2, gz⟩, g3, g4⟩
      · refine .inl ⟨fun h => g1 (hic'.1 h), g2.alloc g2.size _, fun j hj => ?_, fun _ => ⟨_, hself _, g2.size, Row.new _ _ _⟩⟩
        rcases (hon j).1 hj with rfl | hj
        · exact hca
        · exact g3 j hj
      · refine .inr ⟨hic'.2 g1, v, o, ⟨hCkeep v o W _ (fun _ => False) g2 (KeepP.of_below ((Below.refl _ W).alloc (Nat.le_refl _) _)) (fun _ _ q => q) (fun _ q => q.elim), Nat.le_trans gz ((Below.refl _ W).alloc (Nat.le_refl _) _).size⟩, fun j hj ha => ?_, fun _ => ⟨_, hself _, gz, fun q => Nat.lt_irrefl _ (hClt _ _ _ g2 _ q), .inr ⟨his', Row.new _ _ _⟩⟩⟩
        have hj' := ((hon j).1 hj).resolve_left (fun e => by rw [e, hca] at ha; cases ha)
        rw [hoth _ _ (fun e => by rw [e, hca] at ha; cases ha)]
        exact g3 j hj' ha
    by_cases eS : i = is_
    · subst eS
      have hni : i ≠ ic := fun e => by rw [e, hcc] at hcs; cases hcs
      rcases h5 with ⟨g1, g2, g3, g4⟩ | ⟨g1, v, o, ⟨g2, gz⟩, g3, g4⟩
      · have := g3 qs (hdep qs hqs1)
        rw [hqs2] at this
        cases this
      · obtain ⟨p, e1, e2, e3, e4⟩ := g4 (hdep ia hsa)
        have e5 : Row W p T zc := e4.elim (fun h => absurd h.1 hno) (fun h => h.2)
        refine wpOpIn_mono ?_ (hsto x W ds[i] p v hdi e1 e5 ⟨o, g2⟩ (fun j hj ha => g3 j (hdep j hj) ha))
        rintro a' W' ⟨⟨u, rfl⟩, rfl⟩
        obtain ⟨r1, r2⟩ := hrow W p v o g2 e5
        refine ⟨updV x i u, hput _, fun j hj ha n1 n2 => by rw [hoth _ _ n2]; exact h1 j (((hon j).1 hj).resolve_left n2) ha n1 n2, hcl, .inr ⟨g1.set, v, o, ⟨hCkeep v o W _ (fun k => k = p) g2 r2 (fun k hk e => e3 (e ▸ hk)) (fun k e => by rw [e]; exact e2), Nat.le_trans gz r2.size⟩, fun j hj ha => ?_, fun _ => ⟨p, by rw [hoth _ _ hias]; exact e1, e2, e3, .inl ⟨(hon i).2 (.inl rfl), r1⟩⟩⟩⟩
        have hj' := ((hon j).1 hj).resolve_left (fun e => by rw [e, hcs] at ha; cases ha)
        rw [hoth _ _ (fun e => by rw [e, hcs] at ha; cases ha)]
        exact g3 j hj' ha
    by_cases eC : i = ic
    · subst eC
      rcases h5 with ⟨g1, g2, g3, g4⟩ | ⟨g1, _⟩
      · refine wpOpIn_mono ?_ (hcall x W ds[i] hdi g2 (fun j hj ha n1 n2 => h1 j (hdep j hj) ha n1 n2))
        rintro a' W' ⟨v, o, rfl, c1, c2, c3⟩
        refine ⟨updV x i v, hput _, fun j hj ha n1 n2 => ?_, hcl, .inr ⟨On.self (by omega), v, o, ⟨c1, Nat.le_trans g2.size c2.size⟩, fun j hj ha => ?_, fun hA => ?_⟩⟩
        · have hne : j ≠ i := fun e => by rw [e, hcc] at ha; cases ha
          rw [hoth _ _ hne]
          exact h1 j (((hon j).1 hj).resolve_left hne) ha n1 n2
        · rcases (hon j).1 hj with rfl | hj
          · rw [hself, hU]
          · have := g3 j hj; rw [ha] at this; cases this
        · have hA' := ((hon ia).1 hA).resolve_left (Ne.symm eA)
          obtain ⟨p, e1, e2, e3⟩ := g4 hA'
          have hop : ¬ own p := fun q => by have := hown p q; omega
          refine ⟨p, by rw [hoth _ _ (Ne.symm eA)]; exact e1, e2, fun q => (c3 p q).elim hop (fun q => by have := e3.lt; omega), .inr ⟨fun h => ?_, (c2.block p e3.lt hop).trans e3⟩⟩
          have h6 := ((hon is_).1 h).resolve_left (Ne.symm eS)
          have h7 := g3 qs (h4 _ h6 qs hqs1)
          rw [hqs2] at h7
          cases h7
      · exact absurd g1 hno
    by_cases ha : aft i = true
    · obtain ⟨q, hq1, hq2⟩ := (haftP i hi ha).resolve_left eC
      rcases h5 with ⟨g1, g2, g3, g4⟩ | ⟨g1, v, o, ⟨g2, gz⟩, g3, g4⟩
      · have := g3 q (hdep q hq1)
        rw [hq2] at this
        cases this
      · refine wpOpIn_mono ?_ (haftS x W i ds[i] v ha eC hdi ⟨o, g2⟩ (fun j hj h => g3 j (hdep j hj) h) (fun j hj h n1 n2 => h1 j (hdep j hj) h n1 n2))
        rintro a' W' ⟨rfl, rfl⟩
        refine ⟨updV x i (U v i), hput _, fun j hj h n1 n2 => ?_, hcl, .inr ⟨g1.set, v, o, ⟨g2, gz⟩, fun j hj h => ?_, fun hA => ?_⟩⟩
        · have hne : j ≠ i := fun e => by rw [e, ha] at h; cases h
          rw [hoth _ _ hne]
          exact h1 j (((hon j).1 hj).resolve_left hne) h n1 n2
        · rcases (hon j).1 hj with rfl | hj
          · exact hself _
          · have hne : j ≠ i := fun e => hno (e ▸ hj)
            rw [hoth _ _ hne]
            exact g3 j hj h
        · obtain ⟨p, e1, e2, e3, e4⟩ := g4 (((hon ia).1 hA).resolve_left (Ne.symm eA))
          exact ⟨p, by rw [hoth _ _ (Ne.symm eA)]; exact e1, e2, e3, e4.imp (fun h => ⟨h.1.set, h.2⟩) (fun h => ⟨fun h2 => h.1 (((hon is_).1 h2).resolve_left (Ne.symm eS)), h.2⟩)⟩
    · have ha : aft i = false := Bool.eq_false_iff.2 ha
      have hanc2 : i ∈ anc → Below W0.heap.size W0 W := by
        intro hin
        rcases h5 with ⟨g1, g2, _⟩ | ⟨g1, _⟩
        · exact g2
        · exfalso
          have key : ∀ (k j : Nat), ops.size - j ≤ k → j ∈ anc → On l j := by
            intro k
            induction k with
            | zero => intro j hk hj; have := (hancP j hj).1; omega
            | succ k ih =>
              intro j hk hj
              obtain ⟨p1, p2 | ⟨q, p2, p3, p4⟩⟩ := hancP j hj
              · exact h4 ic g1 j p2
              · exact h4 q (ih q (by omega) p2) j p4
          exact hno (key _ i (Nat.le_refl _) hin)
      refine wpOpIn_mono ?_ (hfix x W i ds[i] eA eS ha hdi hanc2 (h5.imp (fun z => z.2.1) (fun ⟨_, v, o, z, _⟩ => ⟨v, o, z.1⟩)) (fun j hj h n1 n2 => h1 j (hdep j hj) h n1 n2))
      rintro a' W' ⟨rfl, rfl⟩
      refine ⟨updV x i (V i), hput _, fun j hj h n1 n2 => ?_, hcl, ?_⟩
      · rcases (hon j).1 hj with rfl | hj
        · exact hself _
        · have hne : j ≠ i := fun e => hno (e ▸ hj)
          rw [hoth _ _ hne]
          exact h1 j hj h n1 n2
      · rcases h5 with ⟨g1, g2, g3, g4⟩ | ⟨g1, v, o, ⟨g2, gz⟩, g3, g4⟩
        · refine .inl ⟨fun h => g1 (((hon ic).1 h).resolve_left (Ne.symm eC)), g2, fun j hj => ?_, fun hA => ?_⟩
          · rcases (hon j).1 hj with rfl | hj
            · exact ha
            · exact g3 j hj
          · obtain ⟨p, e1, e2, e3⟩ := g4 (((hon ia).1 hA).resolve_left (Ne.symm eA))
            exact ⟨p, by rw [hoth _ _ (Ne.symm eA)]; exact e1, e2, e3⟩
        · refine .inr ⟨g1.set, v, o, ⟨g2, gz⟩, fun j hj h => ?_, fun hA => ?_⟩
          · have hne : j ≠ i := fun e => by rw [e, ha] at h; cases h
            rw [hoth _ _ hne]
            exact g3 j (((hon j).1 hj).resolve_left hne) h
          · obtain ⟨p, e1, e2, e3, e4⟩ := g4 (((hon ia).1 hA).resolve_left (Ne.symm eA))
            exact ⟨p, by rw [hoth _ _ (Ne.symm eA)]; exact e1, e2, e3, e4.imp (fun h => ⟨h.1.set, h.2⟩) (fun h => ⟨fun h2 => h.1 (((hon is_).1 h2).resolve_left (Ne.symm eS)), h.2⟩)⟩
  · rintro l a W ⟨x, rfl, h1, h4, h5⟩ hon
    rcases h5 with ⟨g1, _⟩ | ⟨g1, v, o, ⟨g2, gz⟩, g3, g4⟩
    · exact absurd (hon ic hic) g1
    · obtain ⟨p, e1, e2, e3, e4⟩ := g4 (hon ia hia)
      exact hdone x W v o p g2 (fun j hj ha n1 n2 => h1 j (hon j hj) ha n1 n2) (fun j hj ha => g3 j (hon j hj) ha) e1 e2 e3 (e4.elim (fun h => h.2) (fun h => absurd (hon is_ his) h.1))
  · exact ⟨_, (puts_start a0 ds 0).symm, fun j hj => absurd hj (On.none _ _), fun j hj => absurd hj (On.none _ _), .inl ⟨On.none _ _, hW, fun j hj => absurd hj (On.none _ _), fun hj => absurd hj (On.none _ _)⟩⟩
end
end Go.Proofs.YtehadfidenejdaaGreatDoor
