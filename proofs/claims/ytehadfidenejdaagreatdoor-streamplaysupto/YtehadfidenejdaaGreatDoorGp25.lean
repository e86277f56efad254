/-
  Out of SnRfW, SnRfM.
-/
import Derived.Test.YtehadfidenejdaaGreatDoorGp24

/-! The document's sender: bytes are written. -/
namespace Go.Proofs.YtehadfidenejdaaGreatDoor
open Go Go.RowKit

namespace Sr
open Sd
theorem int_info : ∃ i0 : TypeInfo, (Tryz.prog).info? 3 = some i0 ∧ i0.zero = some (.int .i64 0) ∧ i0.size = 1 ∧ i0.bytes = 8 := by
  have h : ((Tryz.prog).info? 3).map (fun i => (i.zero, i.size, i.bytes)) = some (some (.int .i64 0), 1, 8) := by kernel_rfl
  cases hq : Tryz.prog.info? 3 with
  | none => rw [hq] at h; cases h
  | some i =>
    rw [hq] at h
    simp only [Option.map_some, Option.some.injEq, Prod.mk.injEq] at h
    exact ⟨i, rfl, h.1, h.2.1, h.2.2⟩
/-- Between two rounds of Write's loop: how many bytes have their standing. -/
structure RwI (w : World) (h : Nat) (bv hv0 : Value) (bs : List By) (cs : Value → Array Value) (how : Nat → Nat) (n : Nat) (hv : Value) (W : World) : Prop where
  row : Row W h 75 (cs hv)
  brow : RowO W 5 1 bv bs.length (vb bs)
  hrow : RowO W 3 1 hv n (vh how n)
  keep : KeepP (fun k => k = h ∨ hv0.ownBlock = some k) w W
  ob : ∀ k, hv.ownBlock = some k → hv0.ownBlock = some k ∨ w.heap.size ≤ k
theorem rw_step {w W : World} {h : Nat} {bv hv0 hv : Value} {bs : List By} {cs : Value → Array Value} {how : Nat → Nat} {n : Nat} (x : RwI w h bv hv0 bs cs how n hv W) (hcs : ∀ v u, (cs v).setIfInBounds 3 u = cs u) (hn : n ≤ 2000000) (hz : how n = 0) :
    ∃ v' W', (Builtin.append_ #[73, 73] 73 #[hv, .slice (some ⟨W.heap.size, 0, none⟩) 1 1]).run Tryz.prog (W.alloc (.cells #[.int .i64 0] 3)) = .ok v' W' ∧
      W'.cell? ⟨h, 3, none⟩ = (cs hv)[3]? ∧ W'.frozen? ⟨h, 3, none⟩ = false ∧ v'.oneCell' = true ∧ RwI w h bv hv0 bs cs how (n + 1) v' (W'.setCell ⟨h, 3, none⟩ v') := by
  obtain ⟨i0, z1, z2, z3, z4⟩ := int_info
  have hba := (Below.refl _ W).alloc (Nat.le_refl _) (.cells #[.int .i64 0] 3)
  have hr0 := x.hrow.below hba
  have hnew : Row (W.alloc (.cells #[.int .i64 0] 3)) W.heap.size 3 #[.int .i64 0] := Row.new _ _ _
  obtain ⟨v', W', hr, a2, a3, a4⟩ := app_any (P := Tryz.prog) (W.alloc (.cells #[.int .i64 0] 3)) 73 73 73 i0 _ 8 Tryz.underlying73 Tryz.underlying73 z1 z2 z3 z4 rfl (by decide) hr0 (some ⟨W.heap.size, 0, none⟩) 1 1 [.int .i64 0] rfl
    (.inr ⟨_, rfl, fun j u hj => by
      match j, hj with
      | 0, hj =>
        obtain rfl := Option.some.inj hj
        exact hnew.cell 0
      | j + 1, hj => simp at hj⟩) (fun u hu => by rw [List.mem_singleton.1 hu]; rfl) (by unfold maxLen; omega) (by omega)
  have hrow0 := x.row.below hba x.row.lt
  have tr : Ty (W.alloc (.cells #[.int .i64 0] 3)) h 75 := ⟨_, hrow0⟩
  have nh : hv.ownBlock ≠ some h := fun e => (Ty.row hr0 e).ne tr (by decide) rfl
  have r1 : Row W' h 75 (cs hv) := (a3.block h hrow0.lt (fun e => nh e)).trans hrow0
  have nv : v'.ownBlock ≠ some h := fun e => (Ty.row a2 e).ne (⟨_, r1⟩ : Ty W' h _) (by decide) rfl
  have hb1 := x.brow.below hba
  have k1 : RowO W' 5 1 bv bs.length (vb bs) := hb1.same (fun k e => a3.block k (hb1.lt k e) (fun e2 => (Ty.row hb1 e).ne (Ty.row hr0 e2) (by decide) rfl))
  have nb : bv.ownBlock ≠ some h := fun e => (Ty.row hb1 e).ne tr (by decide) rfl
  have hrv : vh how (n + 1) = vh how n ++ [.int .i64 0] := by
    show vh how n ++ [.int .i64 (how n : Int)] = _
    rw [hz]
    rfl
  have kp : KeepP (fun k => k = h ∨ hv0.ownBlock = some k) w W' := onto (onto x.keep (KeepP.of_below (st := fun _ => False) hba) (fun _ _ q => q.elim)) a3 (fun q hq e => (x.ob q e).elim (fun z => .inr z) (fun z => by omega))
  refine ⟨v', W', hr, ?_, r1.frozen 3, RowO.one a2, ⟨?_, RowO.setG k1 nb 3 v', ?_, onto kp (KeepP.setCell (st := fun k => k = h) rfl W' 3 v') (fun q _ e => .inl e), fun k e => ?_⟩⟩
  · have h6 := cell_of_row W' h 3 (cs hv) 75 (0, 0) r1
    exact h6
  · have := (show Row W' h _ _ from r1).set 3 v'
    rw [hcs] at this
    exact this
  · rw [hrv]; exact RowO.setG a2 nv 3 v'
  · rcases a4 with q | ⟨_, q⟩
    · rw [q] at e; exact x.ob k e
    · have := q k e
      have h9 := x.keep.size
      have h10 : W.heap.size ≤ (W.alloc (.cells #[.int .i64 0] 3)).heap.size := hba.size
      exact .inr (by omega)
set_option maxHeartbeats 2000000 in
set_option maxRecDepth 20000 in
theorem refWrite_any {w : World} {h : Nat} {s : Snd} {own : Nat → Prop} (x : RfS w h s own) (b : SL) (hb : b.Ok w) (hbl : b.len ≤ 140737488355328) (last : Bool) :
    Calls Tryz.prog 12 #[.pointer (some ⟨h, 0, none⟩), .slice b.a b.len b.cap, .bool last] w fun e w' => e = .returned (.int .i64 (writeE s b.len : Nat)) ∧ ∃ own', RfS w' h (write s b.b last) own' ∧ After own w w' own' := by
  have HX := veil x
  obtain ⟨bv, hv, h1, h2, h3⟩ := x
  have c2 := h1.row.cell 2
  have c5 := h1.row.cell 5
  have c7 := h1.row.cell 7
  have hlen := h1.fine.len
  obtain ⟨va, vc, hve, hvc, _⟩ := h1.brow.shape
  unfold rfC at c2 c5 c7
  have hwb : write s b.b last = if writeE s b.len = 0 then { s with b := s.b ++ b.b, last := last } else s := by unfold write; rw [hb.hb]
  rcases writeE_le s b.len with ⟨e, hc⟩ | ⟨e, hc1, hc2, hc3⟩ | ⟨e, hc1, hc2, hc3⟩
  · rw [e] at hwb ⊢
    rw [if_neg (by decide)] at hwb
    have HS := veil (show RfS w h (write s b.b last) own from by rw [hwb]; exact HX.out)
    by_cases q : s.last = true
    · rw [q] at c5
      clear h1 h2 h3 hb hwb e hlen hve hvc hc q HX
      go_enter Tryz.func12, Tryz.ntmps12
      go_wp2
      go_ret
      exact ⟨rfl, own, HS.out, After.same (Below.refl _ _)⟩
    · have q2 : s.reset = true := hc.resolve_left q
      rw [show s.last = false by simpa using q] at c5
      rw [q2] at c7
      clear h1 h2 h3 hb hwb e hlen hve hvc hc q q2 HX
      go_enter Tryz.func12, Tryz.ntmps12
      go_wp2
      go_ret
      exact ⟨rfl, own, HS.out, After.same (Below.refl _ _)⟩
  · rw [e] at hwb ⊢
    rw [if_neg (by decide)] at hwb
    have HS := veil (show RfS w h (write s b.b last) own from by rw [hwb]; exact HX.out)
    obtain ⟨n, hn⟩ : ∃ n, s.b.length = n := ⟨_, rfl⟩
    rw [hn] at hve hc3 hlen
    rw [hc1] at c5
    rw [hc2] at c7
    rw [hve] at c2
    obtain ⟨bl, hbl2⟩ : ∃ bl, b.len = bl := ⟨_, rfl⟩
    rw [hbl2] at hc3 hbl ⊢
    obtain ⟨k, hk⟩ : ∃ k, k = n + bl := ⟨_, rfl⟩
    have w1 : IntKind.i64.wrap ((n : Int) + (bl : Int)) = (k : Int) := by rw [IntKind.wrap_i64]; omega
    have n1 : (1048576 : Int) < (k : Int) := by omega
    clear h1 h2 h3 hb hwb e hlen hve hvc hc1 hc2 hc3 hbl2 hk hn HX hbl
    go_enter Tryz.func12, Tryz.ntmps12
    go_wp2
    go_ret
    exact ⟨rfl, own, HS.out, After.same (Below.refl _ _)⟩
  · rw [e] at hwb ⊢
    rw [if_pos rfl] at hwb
    have hfin := write_fine h1.fine b.b last
    rw [hwb] at hfin ⊢
    obtain ⟨i0, z1, z2, z3, z4⟩ := byte_info
    obtain ⟨v', w1, hr, a2, a3, a4⟩ := app_any (P := Tryz.prog) w 24 24 24 i0 _ 1 Tryz.underlying24 Tryz.underlying24 z1 z2 z3 z4 rfl (by decide) h1.brow b.a b.len b.cap (vb b.b) (by rw [vb_length, hb.hb, Nat.mul_one]) (sl_src hb) (vb_one _) (by unfold maxLen; omega) (by omega)
    rw [← vb_append] at a2
    obtain ⟨va', vc', rfl, _, _⟩ := a2.shape
    generalize hvv : (Value.slice va' (s.b.length + b.len) vc') = v' at *
    have hg1 : w1.heap[h]? = w.heap[h]? := a3.block h h1.row.lt (fun q => h1.nb q)
    have r1 : Row w1 h 75 (rfC bv hv s) := hg1.trans h1.row
    have nv : v'.ownBlock ≠ some h := fun q => (Ty.row a2 q).ne (⟨_, r1⟩ : Ty w1 h _) (by decide) rfl
    have k1 : RowO w1 3 1 hv s.b.length (vh s.how s.b.length) := h1.hrow.same (fun k hk => a3.block k (h1.hrow.lt k hk) (fun q => h1.bh q hk))
    obtain ⟨w2, hw2⟩ : ∃ w2, w1.setCell ⟨h, 2, none⟩ v' = w2 := ⟨_, rfl⟩
    have hl2 : (s.b ++ b.b).length = s.b.length + b.len := by rw [List.length_append, hb.hb]
    have rw0 : RwI w2 h v' hv (s.b ++ b.b) (fun u => rfC v' u s) s.how s.b.length hv w2 := by
      rw [← hw2]
      exact ⟨r1.set 2 v', RowO.setG (by rw [hl2]; exact a2) nv 2 v', RowO.setG k1 h1.nh 2 v', KeepP.refl _ _, fun k e => .inl e⟩
    have kw2 : KeepP (fun k => k = h ∨ bv.ownBlock = some k) w w2 := by
      rw [← hw2]
      exact onto (a3.mono (fun k e => .inr e)) (KeepP.setCell (st := fun k => k = h) rfl w1 2 v') (fun q _ e => .inl e)
    have hvn : ∀ k, hv.ownBlock = some k → k < w2.heap.size := fun k e => Nat.lt_of_lt_of_le (h1.hrow.lt k e) kw2.size
    have hhn : h < w2.heap.size := Nat.lt_of_lt_of_le h1.row.lt kw2.size
    have f2 : w1.frozen? ⟨h, 2, none⟩ = false := r1.frozen 2
    have d2 : w1.cell? ⟨h, 2, none⟩ = some bv := r1.cell 2
    have o2 := RowO.one a2
    have hoff : ∀ k, s.how (s.b.length + k) = 0 := fun k => h1.fine.off _ (by have := h1.fine.fr; omega)
    have RW0 := veil rw0
    have KW2 := veil kw2
    have HVN := veil (show (∀ k, hv.ownBlock = some k → k < w2.heap.size) ∧ h < w2.heap.size ∧ ∀ k, s.how (s.b.length + k) = 0 from ⟨hvn, hhn, hoff⟩)
    have HOW := veil (show (∀ k, OwnR h bv hv k → own k) ∧ (∀ k, own k → k < w.heap.size) from ⟨h2, h3⟩)
    have HFIN := veil hfin
    have A4 := veil (show ∀ k, v'.ownBlock = some k → bv.ownBlock = some k ∨ w.heap.size ≤ k from fun k e => by
      rcases a4 with q | ⟨_, q⟩
      · rw [q] at e; exact .inl e
      · rw [q k e]; exact .inr (Nat.le_refl _))
    have HL2 := veil hl2
    have HB := veil hb.hb
    obtain ⟨n, hn⟩ : ∃ n, s.b.length = n := ⟨_, rfl⟩
    rw [hn] at hve hc3 hlen RW0 HVN HL2
    have HN := veil hn
    rw [hc1] at c5
    rw [hc2] at c7
    rw [hve] at c2
    rw [hve] at hr d2
    obtain ⟨ba, bl, bc, bg, bo, bb⟩ := b
    simp only at hc3 hbl hr HL2 HB hfin HFIN RW0 ⊢
    have HC3 := veil hc3
    obtain ⟨k, hk⟩ : ∃ k, k = n + bl := ⟨_, rfl⟩
    have w1' : IntKind.i64.wrap ((n : Int) + (bl : Int)) = (k : Int) := by rw [IntKind.wrap_i64]; omega
    have n1 : ¬ (1048576 : Int) < (k : Int) := by omega
    have hbl3 : bl ≤ 1048576 := by omega
    have HQ := veil hr
    have HW2 := veil hw2
    rw [HN.out] at hvv
    subst hvv
    clear h1 h2 h3 hb hwb e hlen hve hvc hc1 hc2 hc3 hk hn a2 a3 a4 z1 z2 z3 z4 hg1 r1 nv k1 rw0 kw2 hvn hhn hoff hfin hl2 hr hw2 HX hbl
    go_enter Tryz.func12, Tryz.ntmps12
    go_wp2_with (with_reducible (show wpList _ _ _ (⟨some 33, Op.call _, _, _, _, _⟩ :: _) _ _)
                 refine wpL_append rfl _ _ _ rfl _ _ _ _ rfl rfl HQ.out ?_)
    rw [HW2.out]
    clear f2 d2 HQ
    go_loopw [7] (fun iv wr => ∃ (k : Nat) (hv' : Value), k ≤ bl ∧ iv = .int .i64 (k : Int) ∧ RwI w2 h (.slice va' (n + bl) vc') hv (s.b ++ bb) (fun u => rfC (.slice va' (n + bl) vc') u s) s.how (n + k) hv' wr)
      (fun iv _ => bl - (intOf iv).toNat)
    case atStart => exact ⟨0, hv, Nat.zero_le _, rfl, RW0.out⟩
    case round =>
      clear RW0
      obtain ⟨j, hv', hj, rfl, hI⟩ := hrel
      have HI := veil hI
      by_cases hlt : j < bl
      · obtain ⟨v2, W2, q1, q2, q3, q4, q5⟩ := rw_step hI (fun _ _ => rfl) (by have := HC3.out; omega) (HVN.out.2.2 j)
        obtain ⟨xa, xc, hv2, _, _⟩ := q5.hrow.shape
        subst hv2
        have HQ1 := veil q1
        have HI2 := veil q5
        have q2' : W2.cell? ⟨h, 3, none⟩ = some hv' := q2
        have g3 : wr.cell? ⟨h, 3, none⟩ = some hv' := hI.row.cell 3
        have bI : (j : Int) < (bl : Int) := by omega
        have HLT := veil hlt
        clear hI q1 q2 q5 hlt hj
        go_wp2_with (with_reducible (show wpList _ _ _ (⟨some 48, Op.call _, _, _, _, _⟩ :: _) _ _)
                     refine wpL_append rfl _ _ _ rfl _ _ _ _ rfl rfl HQ1.out ?_)
        go_roundw
        case rel => exact ⟨j + 1, _, HLT.out, by go_num, HI2.out⟩
        case measure => have := HLT.out; simp [intOf]; omega
      · obtain rfl : j = bl := by omega
        have g5 : wr.cell? ⟨h, 5, none⟩ = some (.bool s.last) := hI.row.cell 5
        have f5 : wr.frozen? ⟨h, 5, none⟩ = false := hI.row.frozen 5
        clear hI hlt hj
        go_wp2_with fail
        go_ret
        refine ⟨rfl, ?_⟩
        have hI := HI.out
        have hlen2 : n + j = (s.b ++ bb).length := HL2.out.symm
        have nh : hv'.ownBlock ≠ some h := fun e => (Ty.row hI.hrow e).ne (⟨_, hI.row⟩ : Ty wr h _) (by decide) rfl
        have nb : (Value.slice va' (n + j) vc').ownBlock ≠ some h := fun e => (Ty.row hI.brow e).ne (⟨_, hI.row⟩ : Ty wr h _) (by decide) rfl
        have ok : RfOk (wr.setCell ⟨h, 5, none⟩ (.bool last)) h (.slice va' (n + j) vc') hv' { s with b := s.b ++ bb, last := last } :=
          ⟨(show Row wr h _ _ from hI.row).set 5 (.bool last), RowO.setG hI.brow nb 5 _, by rw [← hlen2]; exact RowO.setG hI.hrow nh 5 _, HFIN.out⟩
        have kp : KeepP (OwnR h bv hv) w (wr.setCell ⟨h, 5, none⟩ (.bool last)) := onto (onto (KW2.out.mono (st' := OwnR h bv hv) (fun k e => e.elim .inl (fun z => .inr (.inl z)))) hI.keep (fun q _ e => e.elim .inl (fun z => .inr (.inr z)))) (KeepP.setCell (st := fun k => k = h) rfl wr 5 (.bool last)) (fun q _ e => .inl e)
        refine ⟨OwnR h (.slice va' (n + j) vc') hv', ⟨_, hv', ok, fun k e => e, ok.lt⟩, kp.mono HOW.out.1, fun k e => ?_⟩
        rcases e with e | e | e
        · exact .inl (HOW.out.1 k (.inl e))
        · exact (A4.out k e).imp_left (fun z => HOW.out.1 k (.inr (.inl z)))
        · rcases hI.ob k e with z | z
          · exact .inl (HOW.out.1 k (.inr (.inr z)))
          · exact .inr (Nat.le_trans KW2.out.size z)
end Sr
end Go.Proofs.YtehadfidenejdaaGreatDoor

/-! Written by mksnrfm.py: the document's sender: is a frame its. -/
namespace Go.Proofs.YtehadfidenejdaaGreatDoor
open Go Go.RowKit

namespace Sr
open Sd
theorem gb_cutR {b : List By} {p q i : Nat} (h : i < q - p) : gb (Sd.cut b p q) i = gb b (p + i) := by
  unfold Sd.cut gb
  rw [List.getElem?_take_of_lt h, List.getElem?_drop]
theorem mine_bytes {s : Snd} {p : Nat} {d : List By} {fin : Bool} (h : Mine s p d fin) : ∀ t, t < d.length → gb d t = gb s.b (p + t) := by
  intro t ht
  have h3 := h.2.2.1
  rw [h3, gb_cutR (by omega)]
theorem bytes_mine {s : Snd} {p : Nat} {d : List By} (h1 : p + d.length ≤ s.b.length) (h : ∀ t, t < d.length → gb d t = gb s.b (p + t)) : d = Sd.cut s.b p (p + d.length) := by
  have hl : (Sd.cut s.b p (p + d.length)).length = d.length := by rw [Sd.cut_length (by omega) h1]; omega
  refine List.ext_getElem (by rw [hl]) fun t ht ht2 => ?_
  have h2 := h t ht
  rw [← gb_cutR (q := p + d.length) (by omega)] at h2
  unfold gb at h2
  rw [List.getElem?_eq_getElem ht, List.getElem?_eq_getElem ht2] at h2
  exact h2
set_option maxHeartbeats 4000000 in
set_option maxRecDepth 20000 in
theorem refMine_any {w : World} {h : Nat} {s : Snd} {own : Nat → Prop} (x : RfS w h s own) (f : FrM) (hf : f.Ok w) (hdl : f.data.len < 140737488355328) :
    Calls Tryz.prog 47 #[.pointer (some ⟨h, 0, none⟩), .agg f.cells] w fun e w' => e = .returned (.bool (itsB s f)) ∧ Below w.heap.size w w' := by
  obtain ⟨bv, hv, h1, h2, h3⟩ := x
  have hb0 := (Below.refl _ w).alloc (Nat.le_refl _) (.cells f.cells 28)
  have q1 := Row.new w 28 f.cells
  have H0 := h1.below hb0
  have hff := hf.below hb0
  have c0 := H0.row.cell 0
  have c2 := H0.row.cell 2
  have c4 := H0.row.cell 4
  have c5 := H0.row.cell 5
  have c6 := H0.row.cell 6
  unfold rfC at c0 c2 c4 c5 c6
  obtain ⟨va, vc, hve, _, _⟩ := H0.brow.shape
  obtain ⟨B, hB⟩ : ∃ B, itsB s f = B := ⟨_, rfl⟩
  rw [hB]
  have HBB := veil hB
  have HFI := veil h1.fine
  have hdb := hf.data.hb
  obtain ⟨kd, st, of_, li, co, fi, ⟨da, dl, dc, dg, do_, db⟩, ⟨ra, rl, rc, rg, ro, rb⟩⟩ := f
  have HF := veil hff
  unfold FrM.cells at *
  simp only at *
  obtain ⟨id, hid⟩ : ∃ id, s.id = id := ⟨_, rfl⟩
  obtain ⟨fr, hfr⟩ : ∃ fr, s.fresh = fr := ⟨_, rfl⟩
  obtain ⟨n, hn⟩ : ∃ n, s.b.length = n := ⟨_, rfl⟩
  have hrow := H0.brow
  rw [hn] at hve hrow
  subst hve
  rw [hid] at c0
  rw [hfr] at c4
  have HB := veil hb0
  have Q1 := veil q1
  have HR := veil hrow
  have hfl := h1.fine.fr
  have hln := h1.fine.len
  rw [hfr, hn] at hfl
  rw [hn] at hln
  have HE := veil (show s.id = id ∧ s.fresh = fr ∧ s.b.length = n ∧ fr ≤ n ∧ n ≤ 1048576 ∧ db.length = dl from ⟨hid, hfr, hn, hfl, hln, hdb⟩)
  have wf : IntKind.u64.wrap (fr : Int) = (fr : Int) := by rw [IntKind.wrap_u64]; omega
  have wd : IntKind.u64.wrap (dl : Int) = (dl : Int) := by rw [IntKind.wrap_u64]; omega
  clear h1 h2 h3 hb0 q1 hid hfr hn hrow H0 hff hf hB hfl hln hdb
  go_enter Tryz.func47, Tryz.ntmps47
  go_wp2_with fail
  generalize w.alloc (.cells #[.int .u8 (kd : Int), .int .u64 (st : Int), .int .u64 (of_ : Int), .int .u64 (li : Int), .int .u64 (co : Int), .bool fi, .slice da dl dc, .slice ra rl rc] 28) = w0 at *
  have k0 := Q1.out.cell 0
  have k1 := Q1.out.cell 1
  have k2 := Q1.out.cell 2
  have k3 := Q1.out.cell 3
  have k4 := Q1.out.cell 4
  have k5 := Q1.out.cell 5
  have k6 := Q1.out.cell 6
  have k7 := Q1.out.cell 7
  by_cases cA : kd = 7
  rotate_left
  · obtain rfl : B = false := by rw [← HBB.out]; unfold itsB headB; simp [cA]
    have n0 : ((kd : Int) != 7) = true := by rw [bne_iff_ne]; omega
    clear cA
    go_quiet (fail)
    go_wp2_with fail
    go_ret
    exact ⟨rfl, HB.out.trans ((below_drewN (Below.refl _ w0) nq).mono HB.out.size)⟩
  have n0 : ((kd : Int) != 7) = false := by rw [bne_eq_false_iff_eq]; omega
  by_cases cB : st = id
  rotate_left
  · obtain rfl : B = false := by rw [← HBB.out]; unfold itsB headB; rw [HE.out.1]; simp [cB]
    have n1 : ((st : Int) != (id : Int)) = true := by rw [bne_iff_ne]; omega
    clear cB
    go_quiet (fail)
    go_wp2_with fail
    go_ret
    exact ⟨rfl, HB.out.trans ((below_drewN (Below.refl _ w0) nq).mono HB.out.size)⟩
  have n1 : ((st : Int) != (id : Int)) = false := by rw [bne_eq_false_iff_eq]; omega
  by_cases cC : li = 0
  rotate_left
  · obtain rfl : B = false := by rw [← HBB.out]; unfold itsB headB; simp [cC]
    have n2 : ((li : Int) != 0) = true := by rw [bne_iff_ne]; omega
    clear cC
    go_quiet (fail)
    go_wp2_with fail
    go_ret
    exact ⟨rfl, HB.out.trans ((below_drewN (Below.refl _ w0) nq).mono HB.out.size)⟩
  have n2 : ((li : Int) != 0) = false := by rw [bne_eq_false_iff_eq]; omega
  by_cases cD : co = 0
  rotate_left
  · obtain rfl : B = false := by rw [← HBB.out]; unfold itsB headB; simp [cD]
    have n3 : ((co : Int) != 0) = true := by rw [bne_iff_ne]; omega
    clear cD
    go_quiet (fail)
    go_wp2_with fail
    go_ret
    exact ⟨rfl, HB.out.trans ((below_drewN (Below.refl _ w0) nq).mono HB.out.size)⟩
  have n3 : ((co : Int) != 0) = false := by rw [bne_eq_false_iff_eq]; omega
  by_cases cE : rl = 0
  rotate_left
  · obtain rfl : B = false := by rw [← HBB.out]; unfold itsB headB; simp [cE]
    have n4 : ((rl : Int) != 0) = true := by rw [bne_iff_ne]; omega
    clear cE
    go_quiet (fail)
    go_wp2_with fail
    go_ret
    exact ⟨rfl, HB.out.trans ((below_drewN (Below.refl _ w0) nq).mono HB.out.size)⟩
  have n4 : ((rl : Int) != 0) = false := by rw [bne_eq_false_iff_eq]; omega
  have HH := veil (show headB s ⟨kd, st, of_, li, co, fi, ⟨da, dl, dc, dg, do_, db⟩, ⟨ra, rl, rc, rg, ro, rb⟩⟩ = true from by unfold headB; rw [HE.out.1]; simp [cA, cB, cC, cD, cE])
  have NOM := veil (show ¬ Mine s of_ db fi → B = false from fun hm => by rw [← HBB.out]; unfold itsB; rw [HH.out, Bool.true_and]; exact decide_eq_false hm)
  have YES := veil (show Mine s of_ db fi → B = true from fun hm => by rw [← HBB.out]; unfold itsB; rw [HH.out, Bool.true_and]; exact decide_eq_true hm)
  clear cA cB cC cD cE
  by_cases cF : fr < of_
  · obtain rfl : B = false := NOM.out (fun hm => by have := hm.1; rw [HE.out.2.1] at this; omega)
    have i1 : decide ((fr : Int) < (of_ : Int)) = true := by simp; omega
    have i2 : (fr : Int) < (of_ : Int) := by omega
    clear cF
    go_quiet (fail)
    go_wp2_with fail
    go_ret
    exact ⟨rfl, HB.out.trans ((below_drewN (Below.refl _ w0) nq).mono HB.out.size)⟩
  have i1 : decide ((fr : Int) < (of_ : Int)) = false := by simp; omega
  have i2 : ¬ (fr : Int) < (of_ : Int) := by omega
  obtain ⟨sb, hsb⟩ : ∃ sb, fr - of_ = sb := ⟨_, rfl⟩
  have ws : IntKind.u64.wrap ((fr : Int) - (of_ : Int)) = (sb : Int) := by have := HE.out; rw [IntKind.wrap_u64]; omega
  by_cases cG : sb < dl
  · obtain rfl : B = false := NOM.out (fun hm => by have := hm.2.1; rw [HE.out.2.1, HE.out.2.2.2.2.2] at this; omega)
    have j1 : decide ((sb : Int) < (dl : Int)) = true := by simp; omega
    have j2 : (sb : Int) < (dl : Int) := by omega
    clear cF cG hsb
    go_quiet (fail)
    go_wp2_with fail
    go_ret
    exact ⟨rfl, HB.out.trans ((below_drewN (Below.refl _ w0) nq).mono HB.out.size)⟩
  have j1 : decide ((sb : Int) < (dl : Int)) = false := by simp; omega
  have j2 : ¬ (sb : Int) < (dl : Int) := by omega
  have HO := veil (show of_ + dl ≤ fr by omega)
  have wo : IntKind.i64.wrap (of_ : Int) = (of_ : Int) := by have := HE.out; rw [IntKind.wrap_i64]; omega
  clear cF cG hsb
  go_quiet (fail)
  clear n0 n1 n2 n3 n4 i1 i2 j1 j2 ws wf wd
  go_wp2_with fail
  go_loopw [6] (fun iv wr => ∃ i m : Nat, i ≤ dl ∧ iv = .int .i64 (i : Int) ∧ (∀ t, t < i → gb db t = gb s.b (of_ + t)) ∧ wr = w0.drewN m)
    (fun iv _ => dl - (intOf iv).toNat)
  case atStart => exact ⟨0, nq, Nat.zero_le _, rfl, fun t ht => absurd ht (Nat.not_lt_zero _), rfl⟩
  case round =>
    obtain ⟨i, m, hi, rfl, hall, rfl⟩ := hrel
    by_cases hlt : i < dl
    · have e1 : da = some ⟨dg, do_, none⟩ := HF.out.data.at_ (show 0 < dl by omega)
      subst e1
      have hoi : of_ + i < s.b.length := by have := HE.out; have := HO.out; omega
      obtain ⟨bg, bo, rfl, ck⟩ := HR.out.cells (of_ + i) (.int .u8 (v8 (gb s.b (of_ + i)))) (by
        unfold vb gb
        rw [List.getElem?_map, List.getElem?_eq_getElem hoi]
        rfl)
      have cd : w0.cell? ⟨dg, do_ + i, none⟩ = some (.int .u8 (v8 (gb db i))) := HF.out.data.cell i hlt
      obtain ⟨oi, hoie⟩ : ∃ oi, of_ + i = oi := ⟨_, rfl⟩
      rw [hoie] at ck
      have wi : IntKind.i64.wrap ((of_ : Int) + (i : Int)) = (oi : Int) := by have := HE.out; rw [IntKind.wrap_i64]; omega
      have bI : (i : Int) < (dl : Int) := by omega
      have bJ : (oi : Int) < (n : Int) := by have := HE.out; omega
      have HLT := veil hlt
      have HI := veil hi
      by_cases heq : gb db i = gb s.b oi
      · have HA := veil (show ∀ t, t < i + 1 → gb db t = gb s.b (of_ + t) from fun t ht => by
          rcases Nat.lt_or_ge t i with z | z
          · exact hall t z
          · obtain rfl : t = i := by omega
            rw [hoie]; exact heq)
        rw [heq] at cd
        generalize v8 (gb s.b oi) = y at *
        have hxy : (y != y) = false := by simp
        have hi2 : i < 140737488355328 := by omega
        clear hall heq hoi hoie hlt hi
        go_wp2_with fail
        go_quiet (fail)
        go_wp2_with fail
        go_roundw
        case rel => exact ⟨i + 1, m + nq, HLT.out, by go_num, HA.out, rfl⟩
        case measure => have := HLT.out; simp [intOf]; omega
      · have hxy : (v8 (gb db i) != v8 (gb s.b oi)) = true := by
          rw [bne_iff_ne]
          intro e
          apply heq
          apply BitVec.eq_of_toNat_eq
          unfold v8 at e
          omega
        obtain rfl : B = false := NOM.out (fun hm => heq (by rw [← hoie]; exact (mine_bytes hm) i (by rw [HE.out.2.2.2.2.2]; exact hlt)))
        generalize v8 (gb s.b oi) = y at *
        generalize v8 (gb db i) = z at *
        clear hall heq hoi hoie hlt hi
        go_wp2_with fail
        go_quiet (fail)
        go_wp2_with fail
        go_ret
        exact ⟨rfl, HB.out.trans ((below_drewN (below_drewN (Below.refl _ w0) _) _).mono HB.out.size)⟩
    · obtain rfl : i = dl := by omega
      have hmb := bytes_mine (s := s) (p := of_) (d := db) (by have := HE.out; have := HO.out; omega) (by rw [HE.out.2.2.2.2.2]; exact hall)
      have HM := veil (show (fi = true → s.last = true ∧ s.fin ≠ 0 ∧ of_ + i = n) → Mine s of_ db fi from fun hz => ⟨by have := HE.out; have := HO.out; omega, by have := HE.out; have := HO.out; omega, hmb, fun z => by rw [HE.out.2.2.2.2.2, HE.out.2.2.1]; exact hz z⟩)
      have HN := veil (show Mine s of_ db fi → fi = true → s.last = true ∧ s.fin ≠ 0 ∧ of_ + i = n from fun hm z => by have := hm.2.2.2 z; rw [HE.out.2.2.2.2.2, HE.out.2.2.1] at this; exact this)
      have wi : IntKind.i64.wrap ((of_ : Int) + (i : Int)) = ((of_ + i : Nat) : Int) := by have := HE.out; have := HO.out; rw [IntKind.wrap_i64]; omega
      clear hall hmb hlt hi
      cases fi
      · obtain rfl : B = true := YES.out (HM.out (fun z => by cases z))
        go_wp2_with fail
        go_quiet (fail)
        go_wp2_with fail
        go_ret
        exact ⟨rfl, HB.out.trans ((below_drewN (below_drewN (Below.refl _ w0) _) _).mono HB.out.size)⟩
      · cases hl : s.last
        · rw [hl] at c5
          obtain rfl : B = false := NOM.out (fun hm => by have := (HN.out hm rfl).1; rw [hl] at this; cases this)
          clear hl
          go_wp2_with fail
          go_quiet (fail)
          go_wp2_with fail
          go_ret
          exact ⟨rfl, HB.out.trans ((below_drewN (below_drewN (Below.refl _ w0) _) _).mono HB.out.size)⟩
        · rw [hl] at c5
          by_cases hz : s.fin = 0
          · rw [hz] at c6
            obtain rfl : B = false := NOM.out (fun hm => (HN.out hm rfl).2.1 hz)
            clear hl hz
            go_wp2_with fail
            go_quiet (fail)
            go_wp2_with fail
            go_ret
            exact ⟨rfl, HB.out.trans ((below_drewN (below_drewN (Below.refl _ w0) _) _).mono HB.out.size)⟩
          · have z1 : ((s.fin : Int) != 0) = true := by rw [bne_iff_ne]; omega
            have z2 : ¬ (s.fin : Int) = 0 := by omega
            obtain ⟨oi, hoi⟩ : ∃ oi, of_ + i = oi := ⟨_, rfl⟩
            rw [hoi] at wi HM HN
            by_cases hq : oi = n
            · obtain rfl : B = true := YES.out (HM.out (fun _ => ⟨hl, hz, hq⟩))
              have y1 : decide ((oi : Int) = (n : Int)) = true := by simp; omega
              have y2 : ((oi : Int) == (n : Int)) = true := by simp; omega
              have y3 : (oi : Int) = (n : Int) := by omega
              clear hl hz hq
              go_wp2_with fail
              go_quiet (fail)
              go_wp2_with fail
              go_ret
              exact ⟨rfl, HB.out.trans ((below_drewN (below_drewN (Below.refl _ w0) _) _).mono HB.out.size)⟩
            · obtain rfl : B = false := NOM.out (fun hm => hq (HN.out hm rfl).2.2)
              have y1 : decide ((oi : Int) = (n : Int)) = false := by simp; omega
              have y2 : ((oi : Int) == (n : Int)) = false := by simp; omega
              have y3 : ¬ (oi : Int) = (n : Int) := by omega
              clear hl hz hq
              go_wp2_with fail
              go_quiet (fail)
              go_wp2_with fail
              go_ret
              exact ⟨rfl, HB.out.trans ((below_drewN (below_drewN (Below.refl _ w0) _) _).mono HB.out.size)⟩
end Sr
end Go.Proofs.YtehadfidenejdaaGreatDoor
