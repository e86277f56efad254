/-
  Out of SnHear, SnGot, SnLost.
-/
import Derived.Test.YtehadfidenejdaaGreatDoorGp21

/-! What a frame tells of a sender, whole: is it the sender's own, and which places does it tell of. -/
namespace Go.Proofs.YtehadfidenejdaaGreatDoor
open Go Go.RowKit

namespace Sr
open Sd
/-- Is it this sender's frame. -/
def itsB (s : Snd) (f : FrM) : Bool := headB s f && decide (Mine s f.offset f.data.b f.fin)
theorem of_any {w : World} {g : Nat} {wr cm ls : Value} {s : Snd} {C L : List Rn} (h : SnOk w g wr cm ls s C L) (f : FrM) (hf : f.Ok w) (hdl : f.data.len < 140737488355328) :
    Calls Tryz.prog 93 #[.pointer (some ⟨g, 0, none⟩), .agg f.cells] w fun e w' => (∃ r, e = .returned (.tuple #[rcA r, .bool (itsB s f)]) ∧ (itsB s f = true → r = plF f.offset f.data.b.length f.fin)) ∧ Below w.heap.size w w' := by
  unfold itsB
  by_cases c : headB s f = true
  · refine (of_yes h f hf hdl c).mono ?_
    rintro e w' ⟨⟨r, h1, h2⟩, hb⟩
    refine ⟨⟨r, by rw [h1, c, Bool.true_and], fun h3 => ?_⟩, hb⟩
    rw [c, Bool.true_and] at h3
    rw [h2 (of_decide_eq_true h3), hf.data.hb]
  · have c := Bool.eq_false_iff.2 c
    refine (of_no h f c).mono ?_
    rintro e w' ⟨h1, hb⟩
    exact ⟨⟨(0, 0), by rw [h1, c, Bool.false_and], fun h3 => by rw [c, Bool.false_and] at h3; cases h3⟩, hb⟩
/-- What came is stored, once it was added to. -/
theorem came_ok {w W1 : World} {g : Nat} {wr cm ls u : Value} {s : Snd} {C L C2 : List Rn} (h : SnOk w g wr cm ls s C L) (hD : Done w W1 cm u C2) :
    Row W1 g 72 (snC wr cm ls s) ∧ RowO W1 5 1 wr s.b.length (vb s.b) ∧ RowO W1 77 2 ls L.length (vr L) := by
  refine ⟨(hD.keep.block g h.row.lt (fun e => ?_)).trans h.row, h.wrow.same (fun k e => hD.keep.block k (h.wrow.lt k e) (fun e2 => ?_)), h.lrow.same (fun k e => hD.keep.block k (h.lrow.lt k e) (fun e2 => ?_))⟩
  · exact (Ty.ne h.tg (h.tc e) (by decide)) rfl
  · exact (Ty.ne (h.tw e) (h.tc e2) (by decide)) rfl
  · exact h.cl k e2 e
/-- Both lists are stored, one behind the other. -/
theorem both_ok {w W1 W2 W3 : World} {g : Nat} {wr cm ls u1 u2 : Value} {s s' : Snd} {C L C2 L2 : List Rn} (h : SnOk w g wr cm ls s C L) (hD : Done w W1 cm u1 C2) (h2 : W2.heap = (W1.setCell ⟨g, 6, none⟩ u1).heap) (hE : Done W2 W3 ls u2 L2)
    (hr : Rep s' C2 L2) (hb : s'.b = s.b) (hc : ((snC wr cm ls s).setIfInBounds 6 u1).setIfInBounds 7 u2 = snC wr u1 u2 s') :
    SnOk (W3.setCell ⟨g, 7, none⟩ u2) g wr u1 u2 s' C2 L2 ∧ (∀ k, OwnS g wr u1 u2 k → OwnS g wr cm ls k ∨ w.heap.size ≤ k) := by
  obtain ⟨a1, a2, a3⟩ := came_ok h hD
  have a4 := hD.row
  have hsz2 : W2.heap.size = W1.heap.size := by rw [h2]; simp [World.setCell]
  have tg : Ty W1 g 72 := ⟨_, a1⟩
  have o2 : ∀ k, k ≠ g → W2.heap[k]? = W1.heap[k]? := fun k hk => by rw [h2]; exact Below.heap_setCell _ _ _ k hk
  have b1 : Row W2 g 72 ((snC wr cm ls s).setIfInBounds 6 u1) := by
    show W2.heap[g]? = _
    rw [h2]
    exact a1.set 6 u1
  have nw : ∀ k, wr.ownBlock = some k → k ≠ g := fun k e => Ty.ne (Ty.row a2 e) tg (by decide)
  have nl : ∀ k, ls.ownBlock = some k → k ≠ g := fun k e => Ty.ne (Ty.row a3 e) tg (by decide)
  have nc : ∀ k, u1.ownBlock = some k → k ≠ g := fun k e => Ty.ne (Ty.row a4 e) tg (by decide)
  have b2 := a2.same (fun k e => o2 k (nw k e))
  have b3 := a3.same (fun k e => o2 k (nl k e))
  have b4 := a4.same (fun k e => o2 k (nc k e))
  have ul : ∀ k, u1.ownBlock = some k → ls.ownBlock ≠ some k := fun k e e2 => by
    rcases hD.stay k e with e3 | e3
    · exact h.cl k e3 e2
    · have := h.lrow.lt k e2; omega
  have d1 : Row W3 g 72 ((snC wr cm ls s).setIfInBounds 6 u1) := (hE.keep.block g b1.lt (fun e => nl g e rfl)).trans b1
  have d2 := b2.same (fun k e => hE.keep.block k (b2.lt k e) (fun e2 => (Ty.ne (Ty.row b2 e) (Ty.row b3 e2) (by decide)) rfl))
  have d4 := b4.same (fun k e => hE.keep.block k (b4.lt k e) (fun e2 => ul k e e2))
  have tg3 : Ty W3 g 72 := ⟨_, d1⟩
  have n2 : ∀ k, u2.ownBlock = some k → k ≠ g := fun k e => Ty.ne (Ty.row hE.row e) tg3 (by decide)
  have o4 : ∀ k, k ≠ g → (W3.setCell ⟨g, 7, none⟩ u2).heap[k]? = W3.heap[k]? := fun k hk => Below.heap_setCell _ _ _ k hk
  refine ⟨⟨?_, ?_, d4.same (fun k e => o4 k (nc k e)), hE.row.same (fun k e => o4 k (n2 k e)), ?_, hr⟩, ?_⟩
  · rw [← hc]; exact d1.set 7 u2
  · rw [hb]; exact d2.same (fun k e => o4 k (nw k e))
  · intro k e e2
    rcases hE.stay k e2 with e3 | e3
    · exact ul k e e3
    · have := hD.row.lt k e; omega
  · rintro k (e | e | e | e)
    · exact .inl (.inl e)
    · exact .inl (.inr (.inl e))
    · exact (hD.stay k e).imp_left (fun e => .inr (.inr (.inl e)))
    · rcases hE.stay k e with e3 | e3
      · exact .inl (.inr (.inr (.inr e3)))
      · have := hD.keep.size; exact .inr (by omega)
theorem got_ok {w W1 W2 W3 : World} {g : Nat} {wr cm ls u1 u2 : Value} {s : Snd} {C L : List Rn} (h : SnOk w g wr cm ls s C L) (hr : s.reset = false) {p : Nat} {d : List By} {fin : Bool} (hm : Mine s p d fin)
    (hD : Done w W1 cm u1 (add C (plF p d.length fin))) (h2 : W2.heap = (W1.setCell ⟨g, 6, none⟩ u1).heap) (hE : Done W2 W3 ls u2 (cut L (plF p d.length fin))) :
    SnOk (W3.setCell ⟨g, 7, none⟩ u2) g wr u1 u2 (got s p d.length fin) (add C (plF p d.length fin)) (cut L (plF p d.length fin)) ∧ (∀ k, OwnS g wr u1 u2 k → OwnS g wr cm ls k ∨ w.heap.size ≤ k) := by
  obtain ⟨r1, r2⟩ := got_rep h.rep hr hm
  have hg : got s p d.length fin = { s with how := fun i => if p ≤ i ∧ i < p + d.length then 3 else s.how i, fin := if fin = true then 3 else s.fin } := by
    unfold got; rw [if_neg (by rw [hr]; simp)]
  refine both_ok h hD h2 hE r1 (by rw [hg]) ?_
  unfold snC
  rw [r2, hg]
  rfl
/-- And one list alone. -/
theorem lost_ok {w W3 : World} {g : Nat} {wr cm ls u2 : Value} {s s' : Snd} {C L L2 : List Rn} (h : SnOk w g wr cm ls s C L) (hE : Done w W3 ls u2 L2)
    (hr : Rep s' C L2) (hb : s'.b = s.b) (hc : (snC wr cm ls s).setIfInBounds 7 u2 = snC wr cm u2 s') :
    SnOk (W3.setCell ⟨g, 7, none⟩ u2) g wr cm u2 s' C L2 ∧ (∀ k, OwnS g wr cm u2 k → OwnS g wr cm ls k ∨ w.heap.size ≤ k) := by
  have d1 : Row W3 g 72 (snC wr cm ls s) := (hE.keep.block g h.row.lt (fun e => (Ty.ne h.tg (h.tl e) (by decide)) rfl)).trans h.row
  have d2 := h.wrow.same (fun k e => hE.keep.block k (h.wrow.lt k e) (fun e2 => (Ty.ne (h.tw e) (h.tl e2) (by decide)) rfl))
  have d4 := h.crow.same (fun k e => hE.keep.block k (h.crow.lt k e) (fun e2 => h.cl k e e2))
  have tg3 : Ty W3 g 72 := ⟨_, d1⟩
  have n2 : ∀ k, u2.ownBlock = some k → k ≠ g := fun k e => Ty.ne (Ty.row hE.row e) tg3 (by decide)
  have nw : ∀ k, wr.ownBlock = some k → k ≠ g := fun k e => Ty.ne (Ty.row d2 e) tg3 (by decide)
  have nc : ∀ k, cm.ownBlock = some k → k ≠ g := fun k e => Ty.ne (Ty.row d4 e) tg3 (by decide)
  have o4 : ∀ k, k ≠ g → (W3.setCell ⟨g, 7, none⟩ u2).heap[k]? = W3.heap[k]? := fun k hk => Below.heap_setCell _ _ _ k hk
  refine ⟨⟨?_, ?_, d4.same (fun k e => o4 k (nc k e)), hE.row.same (fun k e => o4 k (n2 k e)), ?_, hr⟩, ?_⟩
  · rw [← hc]; exact d1.set 7 u2
  · rw [hb]; exact d2.same (fun k e => o4 k (nw k e))
  · intro k e e2
    rcases hE.stay k e2 with e3 | e3
    · exact h.cl k e e3
    · have := h.crow.lt k e; omega
  · rintro k (e | e | e | e)
    · exact .inl (.inl e)
    · exact .inl (.inr (.inl e))
    · exact .inl (.inr (.inr (.inl e)))
    · exact (hE.stay k e).imp_left (fun e => .inr (.inr (.inr e)))
end Sr
end Go.Proofs.YtehadfidenejdaaGreatDoor

/-! Written by mksngot.py: what came in is put down. -/
namespace Go.Proofs.YtehadfidenejdaaGreatDoor
open Go Go.RowKit

namespace Sr
open Sd
def RGt (q : World) (v : Value) (L2 : List Rn) (g c : Nat) : Nat → World → Value → Prop
  | 0, W, _ => W = q
  | 1, W, u => Done q W v u L2
  | _, W, _ => ∃ (u : Value) (W1 : World), Done q W1 v u L2 ∧ W = W1.setCell ⟨g, c, none⟩ u
theorem RGt.zero {q : World} {v : Value} {L2 : List Rn} {g c k : Nat} {W : World} {u : Value} (h : RGt q v L2 g c k W u) (hk : k ≤ 0) : W = q := by
  obtain rfl : k = 0 := by omega
  exact h
theorem RGt.row {q : World} {v : Value} {L2 : List Rn} {g c k : Nat} {W : World} {u : Value} (h : RGt q v L2 g c k W u) {b : Nat} {T : TypeId} {cs : Array Value} (hb : Row q b T cs) (h1 : b ≠ g) (h2 : v.ownBlock ≠ some b) : Row W b T cs := by
  match k, h with
  | 0, h => exact (show W = q from h) ▸ hb
  | 1, h => exact (Done.keep h).row hb h2
  | _ + 2, h =>
    obtain ⟨u, W1, hD, rfl⟩ := h
    exact (Below.heap_setCell _ _ _ b h1).trans (hD.keep.row hb h2)
def depGa : Nat → List Nat
  | 0 => []
  | 1 => []
  | 2 => [1]
  | 3 => [2]
  | 4 => [3]
  | 5 => []
  | 6 => [4, 5]
  | 7 => [0]
  | 8 => [7]
  | 9 => [8, 6]
  | _ => []
def dclGa : Nat → List Nat
  | 2 => [1]
  | 3 => [1, 2]
  | 4 => [1, 2, 3]
  | 6 => [1, 2, 3, 4, 5]
  | 7 => [0]
  | 8 => [0, 7]
  | 9 => [0, 1, 2, 3, 4, 5, 6, 7, 8]
  | _ => []
def valGa (g p t : Nat) (cm : Value) : Nat → Value
  | 0 => .pointer (some ⟨g, 0, none⟩)
  | 1 => .pointer (some ⟨g, 0, none⟩)
  | 2 => .pointer (some ⟨g, 0, none⟩)
  | 3 => .pointer (some ⟨g, 6, none⟩)
  | 4 => cm
  | 5 => .agg #[.int .u64 (p : Int), .int .u64 (t : Int)]
  | 7 => .pointer (some ⟨g, 0, none⟩)
  | 8 => .pointer (some ⟨g, 6, none⟩)
  | _ => undef
def depGb : Nat → List Nat
  | 0 => []
  | 1 => []
  | 2 => [1]
  | 3 => [2]
  | 4 => [3]
  | 5 => []
  | 6 => [4, 5]
  | 7 => [0]
  | 8 => [7]
  | 9 => [8, 6]
  | _ => []
def dclGb : Nat → List Nat
  | 2 => [1]
  | 3 => [1, 2]
  | 4 => [1, 2, 3]
  | 6 => [1, 2, 3, 4, 5]
  | 7 => [0]
  | 8 => [0, 7]
  | 9 => [0, 1, 2, 3, 4, 5, 6, 7, 8]
  | _ => []
def valGb (g p t : Nat) (cm : Value) : Nat → Value
  | 0 => .pointer (some ⟨g, 0, none⟩)
  | 1 => .pointer (some ⟨g, 0, none⟩)
  | 2 => .pointer (some ⟨g, 0, none⟩)
  | 3 => .pointer (some ⟨g, 7, none⟩)
  | 4 => cm
  | 5 => .agg #[.int .u64 (p : Int), .int .u64 (t : Int)]
  | 7 => .pointer (some ⟨g, 0, none⟩)
  | 8 => .pointer (some ⟨g, 7, none⟩)
  | _ => undef
set_option maxHeartbeats 2000000 in
set_option maxRecDepth 20000 in
theorem got1_any {w : World} {g bs p t : Nat} {wr cm ls : Value} {s : Snd} {C L : List Rn} (h : SnOk w g wr cm ls s C L) (hb : Row w bs 32 #[.pointer (some ⟨g, 0, none⟩)]) (hpt : p ≤ t) :
    Calls Tryz.prog 45 #[rcA (p, t), .pointer (some ⟨bs, 0, none⟩)] w fun e w' => (∃ v, e = .returned v) ∧ ∃ w1 W1 W2 W3 u1 u2, Below w.heap.size w w1 ∧ Done w1 W1 cm u1 (add C (p, t)) ∧ W2.heap = (W1.setCell ⟨g, 6, none⟩ u1).heap ∧ Done W2 W3 ls u2 (cut L (p, t)) ∧ w'.heap = (W3.setCell ⟨g, 7, none⟩ u2).heap ∧ KeepP (OwnS g wr cm ls) w w' := by
  unfold rcA
  simp only
  have ha := (Below.refl _ w).alloc (Nat.le_refl _) (.cells #[.int .u64 (p : Int), .int .u64 (t : Int)] 77)
  have HA := veil ha
  have OK0 := veil (h.below ha)
  have HBS := veil (hb.below ha hb.lt)
  have R20 := veil (Row.new w 77 #[.int .u64 (p : Int), .int .u64 (t : Int)])
  have HOWN := veil h.lt
  have HPT := veil hpt
  clear h hb ha hpt
  go_enter Tryz.func45, Tryz.ntmps45
  go_wp2_with fail
  generalize w.alloc (.cells #[.int .u64 (p : Int), .int .u64 (t : Int)] 77) = w0 at *
  have OK := veil (OK0.out.below (below_drewN (Below.refl _ w0) 1) : SnOk w0.drew _ _ _ _ _ _ _)
  have HB := veil (HBS.out.below (below_drewN (Below.refl _ w0) 1) HBS.out.lt : Row w0.drew _ _ _)
  have R2 := veil (R20.out.below (below_drewN (Below.refl _ w0) 1) R20.out.lt : Row w0.drew _ _ _)
  obtain ⟨C2, hC2⟩ : ∃ C2, add C (p, t) = C2 := ⟨_, rfl⟩
  have hcu := add_any w0.drew (r := (p, t)) OK.out.crow (by have := OK.out.rep.topC.2; have := OK.out.rep.fine.len; omega) OK.out.rep.cC
  rw [hC2] at hcu
  unfold rcA at hcu
  simp only at hcu
  have CU := veil hcu
  have C6 := veil (show w0.drew.cell? ⟨g, 6, none⟩ = some cm from OK.out.row.cell 6)
  have R1S := veil (show ∀ (W4 : World) (u : Value), Done w0.drew W4 cm u C2 → W4.cell? ⟨g, 6, none⟩ = some cm ∧ W4.frozen? ⟨g, 6, none⟩ = false from fun W4 u hD => by
    have hr := (came_ok OK.out hD).1
    exact ⟨hr.cell 6, hr.frozen 6⟩)
  have BS := veil (show ∀ (m : Nat) (W : World) (u : Value), RGt w0.drew cm C2 g 6 m W u → W.cell? ⟨bs, 0, none⟩ = some (.pointer (some ⟨g, 0, none⟩)) from fun m W u hR =>
    (hR.row HB.out (Ty.ne (⟨_, HB.out⟩ : Ty w0.drew bs 32) OK.out.tg (by decide)) (fun e => (Ty.ne (⟨_, HB.out⟩ : Ty w0.drew bs 32) (OK.out.tc e) (by decide)) rfl)).cell 0)
  clear hcu OK0 HBS R20
  refine (wpIn_wide (n := 4)).1 ?_
  refine wpIn_region_any (by kernel_rfl) ?_
  refine anyIn_spine (valGa g p t cm) (RGt w0.drew cm C2 g 6) undef [6, 9] [3, 4, 5, 6, 7, 8, 9, 10, 11, 100000] depGa dclGa (by kernel_rfl) (by decide) rfl (by decide) (by decide) ?ord (by decide) ?h0 ?fix ?cal ?don
  case ord =>
    intro k i j h1 h2
    match k, h1, h2 with
    | 0, h1, h2 =>
      obtain rfl := Option.some.inj h1
      obtain rfl := Option.some.inj h2
      decide
    | 1, _, h2 => simp at h2
    | _ + 2, h1, _ => simp at h1
  case fix =>
    intro x W4 m2 ii d u hR hdi hni hdep hlo hhi
    match ii, hdi, hni, hdep, hhi with
    | 0, hdi, _, _, _ =>
      obtain rfl := Option.some.inj hdi
      exact OI_value rfl rfl (about_none (by intro c h; cases h)) (by intro c h; cases h) (.pointer (some ⟨g, 0, none⟩)) W4 (lgRun_cell 32 _ ⟨bs, 0, none⟩ _ _ rfl (by kernel_rfl) Tryz.underlying32 rfl _ (BS.out _ _ _ hR)) ⟨rfl, rfl⟩
    | 1, hdi, _, _, _ =>
      obtain rfl := Option.some.inj hdi
      exact OI_value rfl rfl (about_none (by intro c h; cases h)) (by intro c h; cases h) (.pointer (some ⟨g, 0, none⟩)) W4 (lgRun_cell 32 _ ⟨bs, 0, none⟩ _ _ rfl (by kernel_rfl) Tryz.underlying32 rfl _ (BS.out _ _ _ hR)) ⟨rfl, rfl⟩
    | 2, hdi, _, hdep, _ =>
      obtain rfl := Option.some.inj hdi
      rw [updV_self (show x 1 = _ from hdep 1 (by simp [depGa]) (by decide))]
      exact OI_value rfl rfl (about_none (by intro c h; cases h)) (by intro c h; cases h) (.pointer (some ⟨g, 0, none⟩)) W4 (by kernel_rfl) ⟨rfl, rfl⟩
    | 3, hdi, _, hdep, _ =>
      obtain rfl := Option.some.inj hdi
      rw [updV_self (show x 2 = _ from hdep 2 (by simp [depGa]) (by decide))]
      exact OI_value rfl rfl (about_none (by intro c h; cases h)) (by intro c h; cases h) (.pointer (some ⟨g, 6, none⟩)) W4 (by kernel_rfl) ⟨rfl, rfl⟩
    | 4, hdi, _, hdep, hhi =>
      obtain rfl := Option.some.inj hdi
      rw [updV_self (show x 3 = _ from hdep 3 (by simp [depGa]) (by decide))]
      exact OI_value rfl rfl (about_none (by intro c h; cases h)) (by intro c h; cases h) (cm) W4 (lgRun_cell 70 _ ⟨g, 6, none⟩ _ _ rfl (by kernel_rfl) Tryz.underlying70 rfl _ (by rw [hR.zero (hhi 0 6 rfl (by decide))]; exact C6.out)) ⟨rfl, rfl⟩
    | 5, hdi, _, _, hhi =>
      obtain rfl := Option.some.inj hdi
      exact OI_value rfl rfl (about_none (by intro c h; cases h)) (by intro c h; cases h) (.agg #[.int .u64 (p : Int), .int .u64 (t : Int)]) W4 (lgRun_row 77 _ rfl w.heap.size (by kernel_rfl) 77 #[.int .u64 (p : Int), .int .u64 (t : Int)] 2 _ Tryz.underlying77 (by kernel_rfl) rfl W4 (by rw [hR.zero (hhi 0 6 rfl (by decide))]; exact R2.out)) ⟨rfl, rfl⟩
    | 6, _, hni, _, _ => (exfalso; exact hni (by decide))
    | 7, hdi, _, hdep, _ =>
      obtain rfl := Option.some.inj hdi
      rw [updV_self (show x 0 = _ from hdep 0 (by simp [depGa]) (by decide))]
      exact OI_value rfl rfl (about_none (by intro c h; cases h)) (by intro c h; cases h) (.pointer (some ⟨g, 0, none⟩)) W4 (by kernel_rfl) ⟨rfl, rfl⟩
    | 8, hdi, _, hdep, _ =>
      obtain rfl := Option.some.inj hdi
      rw [updV_self (show x 7 = _ from hdep 7 (by simp [depGa]) (by decide))]
      exact OI_value rfl rfl (about_none (by intro c h; cases h)) (by intro c h; cases h) (.pointer (some ⟨g, 6, none⟩)) W4 (by kernel_rfl) ⟨rfl, rfl⟩
    | 9, _, hni, _, _ => (exfalso; exact hni (by decide))
    | _ + 10, hdi, _, _, _ => simp at hdi
  case cal =>
    intro x W4 k2 ii d u hR hk hdi hdep hu0 hup
    match k2, hk, hR, hu0, hup with
    | 0, hk, hR, hu0, hup =>
      obtain rfl := Option.some.inj hk
      obtain rfl := Option.some.inj hdi
      obtain rfl := hR
      rw [updV_self (show x 4 = _ from hdep 4 (by simp [depGa]) (by decide)), updV_self (show (updV x 4 _) 5 = _ from hdep 5 (by simp [depGa]) (by decide))]
      refine OI_call rfl rfl (by intro c h; cases h) 46 #[cm, .agg #[.int .u64 (p : Int), .int .u64 (t : Int)]] (fun _ _ => trivial) (by kernel_rfl) (by decide) ?_
      refine (callsIn_wide.2 CU.out).mono ?_
      rintro e w' ⟨u', rfl, hd⟩
      exact ⟨_, rfl, u', rfl, hd⟩
    | 1, hk, hR, hu0, hup =>
      obtain rfl := Option.some.inj hk
      obtain rfl := Option.some.inj hdi
      have h6 : x 6 = u := hup 0 6 rfl rfl
      rw [updV_self (show x 8 = _ from hdep 8 (by simp [depGa]) (by decide)), updV_self (show (updV x 8 _) 6 = u from h6)]
      have z1 := R1S.out W4 u hR
      refine OI_skip rfl rfl (about_none (by intro c h; cases h)) (by intro c h; cases h) _ (lgRun_store 70 _ _ ⟨g, 6, none⟩ u cm (RowO.one (Done.row hR)) rfl (by kernel_rfl) (by kernel_rfl) (by kernel_rfl) _ z1.1 z1.2) ⟨undef, (lgPut_none _ _).trans (put_far _ _ _ (by rw [puts_size]; exact Nat.le_of_ble_eq_true rfl)).symm, u, W4, hR, rfl⟩
    | _ + 2, hk, _, _, _ => simp at hk
  case h0 => exact rfl
  case don =>
    rintro x9 W9 u9 hR9 _ _
    obtain ⟨u1, W1, hD, rfl⟩ : ∃ (u1 : Value) (W1 : World), Done w0.drew W1 cm u1 C2 ∧ W9 = W1.setCell ⟨g, 6, none⟩ u1 := hR9
    simp only [putsV, Act.put, List.setIfInBounds_toArray, List.set_cons_succ, List.set_cons_zero, List.set_nil, Nat.reduceAdd]
    generalize x9 0 = z0, x9 1 = z1, x9 2 = z2, x9 3 = z3, x9 4 = z4, x9 5 = z5, x9 6 = z6, x9 7 = z7, x9 8 = z8, x9 9 = z9
    have HD := veil hD
    clear hD C6 R1S BS CU
    go_wp2_with fail
    have a := came_ok OK.out HD.out
    have z : RGt w0.drew cm C2 g 6 2 (W1.setCell ⟨g, 6, none⟩ u1) u1 := ⟨u1, W1, HD.out, rfl⟩
    obtain ⟨Q2, hQ2⟩ : ∃ Q2, W1.setCell ⟨g, 6, none⟩ u1 = Q2 := ⟨_, rfl⟩
    rw [hQ2]
    have hl2 : RowO Q2.drew 77 2 ls L.length (vr L) := a.2.2.same (fun k e => by rw [← hQ2]; exact Below.heap_setCell _ _ _ k (Ty.ne (Ty.row a.2.2 e) (⟨_, a.1⟩ : Ty W1 g 72) (by decide)))
    have hg2 : Row Q2.drew g 72 ((snC wr cm ls s).setIfInBounds 6 u1) := by rw [← hQ2]; exact a.1.set 6 u1
    have hb2 : Row Q2.drew bs 32 #[.pointer (some ⟨g, 0, none⟩)] := by rw [← hQ2]; exact z.row HB.out (Ty.ne (⟨_, HB.out⟩ : Ty w0.drew bs 32) OK.out.tg (by decide)) (fun e => (Ty.ne (⟨_, HB.out⟩ : Ty w0.drew bs 32) (OK.out.tc e) (by decide)) rfl)
    have hr2 : Row Q2.drew w.heap.size 77 #[.int .u64 (p : Int), .int .u64 (t : Int)] := by
      rw [← hQ2]
      exact z.row R2.out (fun e => absurd (HOWN.out g (.inl rfl)) (by omega)) (fun e => absurd (HOWN.out _ (.inr (.inr (.inl e)))) (Nat.lt_irrefl _))
    have hlg : ∀ k, ls.ownBlock = some k → k ≠ g := fun k e => Ty.ne (Ty.row hl2 e) (⟨_, hg2⟩ : Ty Q2.drew g 72) (by decide)
    have hlb : ls.ownBlock ≠ some bs := fun e => (Ty.ne (Ty.row hl2 e) (⟨_, hb2⟩ : Ty Q2.drew bs 32) (by decide)) rfl
    have hbg : bs ≠ g := Ty.ne (⟨_, HB.out⟩ : Ty w0.drew bs 32) OK.out.tg (by decide)
    obtain ⟨L2, hL2⟩ : ∃ L2, cut L (p, t) = L2 := ⟨_, rfl⟩
    have hcu := cut_any Q2.drew (r := (p, t)) hl2 (by have := OK.out.rep.topL.2; have := OK.out.rep.fine.len; omega) OK.out.rep.cL HPT.out
    rw [hL2] at hcu
    unfold rcA at hcu
    simp only at hcu
    have CU := veil hcu
    have C6 := veil (show Q2.drew.cell? ⟨g, 7, none⟩ = some ls from hg2.cell 7)
    have R1S := veil (show ∀ (W4 : World) (u : Value), Done Q2.drew W4 ls u L2 → W4.cell? ⟨g, 7, none⟩ = some ls ∧ W4.frozen? ⟨g, 7, none⟩ = false from fun W4 u hD => by
      have hr := hD.keep.row hg2 (fun e => hlg g e rfl)
      exact ⟨hr.cell 7, hr.frozen 7⟩)
    have BS := veil (show ∀ (m : Nat) (W : World) (u : Value), RGt Q2.drew ls L2 g 7 m W u → W.cell? ⟨bs, 0, none⟩ = some (.pointer (some ⟨g, 0, none⟩)) from fun m W u hR => (hR.row hb2 hbg hlb).cell 0)
    have R20 := R2
    have R2 := veil hr2
    clear hcu a z hl2 hg2 hb2 hr2 hlg hlb hbg
    refine (wpIn_wide (n := 4)).1 ?_
    refine wpIn_region_any (by kernel_rfl) ?_
    refine anyIn_spine (valGb g p t ls) (RGt Q2.drew ls L2 g 7) undef [6, 9] [12, 13, 14, 15, 16, 17, 18, 19, 20, 100000] depGb dclGb (by kernel_rfl) (by decide) rfl (by decide) (by decide) ?ord (by decide) ?h0 ?fix ?cal ?don
    case ord =>
      intro k i j h1 h2
      match k, h1, h2 with
      | 0, h1, h2 =>
        obtain rfl := Option.some.inj h1
        obtain rfl := Option.some.inj h2
        decide
      | 1, _, h2 => simp at h2
      | _ + 2, h1, _ => simp at h1
    case fix =>
      intro x W4 m2 ii d u hR hdi hni hdep hlo hhi
      match ii, hdi, hni, hdep, hhi with
      | 0, hdi, _, _, _ =>
        obtain rfl := Option.some.inj hdi
        exact OI_value rfl rfl (about_none (by intro c h; cases h)) (by intro c h; cases h) (.pointer (some ⟨g, 0, none⟩)) W4 (lgRun_cell 32 _ ⟨bs, 0, none⟩ _ _ rfl (by kernel_rfl) Tryz.underlying32 rfl _ (BS.out _ _ _ hR)) ⟨rfl, rfl⟩
      | 1, hdi, _, _, _ =>
        obtain rfl := Option.some.inj hdi
        exact OI_value rfl rfl (about_none (by intro c h; cases h)) (by intro c h; cases h) (.pointer (some ⟨g, 0, none⟩)) W4 (lgRun_cell 32 _ ⟨bs, 0, none⟩ _ _ rfl (by kernel_rfl) Tryz.underlying32 rfl _ (BS.out _ _ _ hR)) ⟨rfl, rfl⟩
      | 2, hdi, _, hdep, _ =>
        obtain rfl := Option.some.inj hdi
        rw [updV_self (show x 1 = _ from hdep 1 (by simp [depGb]) (by decide))]
        exact OI_value rfl rfl (about_none (by intro c h; cases h)) (by intro c h; cases h) (.pointer (some ⟨g, 0, none⟩)) W4 (by kernel_rfl) ⟨rfl, rfl⟩
      | 3, hdi, _, hdep, _ =>
        obtain rfl := Option.some.inj hdi
        rw [updV_self (show x 2 = _ from hdep 2 (by simp [depGb]) (by decide))]
        exact OI_value rfl rfl (about_none (by intro c h; cases h)) (by intro c h; cases h) (.pointer (some ⟨g, 7, none⟩)) W4 (by kernel_rfl) ⟨rfl, rfl⟩
      | 4, hdi, _, hdep, hhi =>
        obtain rfl := Option.some.inj hdi
        rw [updV_self (show x 3 = _ from hdep 3 (by simp [depGb]) (by decide))]
        exact OI_value rfl rfl (about_none (by intro c h; cases h)) (by intro c h; cases h) (ls) W4 (lgRun_cell 70 _ ⟨g, 7, none⟩ _ _ rfl (by kernel_rfl) Tryz.underlying70 rfl _ (by rw [hR.zero (hhi 0 6 rfl (by decide))]; exact C6.out)) ⟨rfl, rfl⟩
      | 5, hdi, _, _, hhi =>
        obtain rfl := Option.some.inj hdi
        exact OI_value rfl rfl (about_none (by intro c h; cases h)) (by intro c h; cases h) (.agg #[.int .u64 (p : Int), .int .u64 (t : Int)]) W4 (lgRun_row 77 _ rfl w.heap.size (by kernel_rfl) 77 #[.int .u64 (p : Int), .int .u64 (t : Int)] 2 _ Tryz.underlying77 (by kernel_rfl) rfl W4 (by rw [hR.zero (hhi 0 6 rfl (by decide))]; exact R2.out)) ⟨rfl, rfl⟩
      | 6, _, hni, _, _ => (exfalso; exact hni (by decide))
      | 7, hdi, _, hdep, _ =>
        obtain rfl := Option.some.inj hdi
        rw [updV_self (show x 0 = _ from hdep 0 (by simp [depGb]) (by decide))]
        exact OI_value rfl rfl (about_none (by intro c h; cases h)) (by intro c h; cases h) (.pointer (some ⟨g, 0, none⟩)) W4 (by kernel_rfl) ⟨rfl, rfl⟩
      | 8, hdi, _, hdep, _ =>
        obtain rfl := Option.some.inj hdi
        rw [updV_self (show x 7 = _ from hdep 7 (by simp [depGb]) (by decide))]
        exact OI_value rfl rfl (about_none (by intro c h; cases h)) (by intro c h; cases h) (.pointer (some ⟨g, 7, none⟩)) W4 (by kernel_rfl) ⟨rfl, rfl⟩
      | 9, _, hni, _, _ => (exfalso; exact hni (by decide))
      | _ + 10, hdi, _, _, _ => simp at hdi
    case cal =>
      intro x W4 k2 ii d u hR hk hdi hdep hu0 hup
      match k2, hk, hR, hu0, hup with
      | 0, hk, hR, hu0, hup =>
        obtain rfl := Option.some.inj hk
        obtain rfl := Option.some.inj hdi
        obtain rfl := hR
        rw [updV_self (show x 4 = _ from hdep 4 (by simp [depGb]) (by decide)), updV_self (show (updV x 4 _) 5 = _ from hdep 5 (by simp [depGb]) (by decide))]
        refine OI_call rfl rfl (by intro c h; cases h) 38 #[ls, .agg #[.int .u64 (p : Int), .int .u64 (t : Int)]] (fun _ _ => trivial) (by kernel_rfl) (by decide) ?_
        refine (callsIn_wide.2 CU.out).mono ?_
        rintro e w' ⟨u', rfl, hd⟩
        exact ⟨_, rfl, u', rfl, hd⟩
      | 1, hk, hR, hu0, hup =>
        obtain rfl := Option.some.inj hk
        obtain rfl := Option.some.inj hdi
        have h6 : x 6 = u := hup 0 6 rfl rfl
        rw [updV_self (show x 8 = _ from hdep 8 (by simp [depGb]) (by decide)), updV_self (show (updV x 8 _) 6 = u from h6)]
        have z1 := R1S.out W4 u hR
        refine OI_skip rfl rfl (about_none (by intro c h; cases h)) (by intro c h; cases h) _ (lgRun_store 70 _ _ ⟨g, 7, none⟩ u ls (RowO.one (Done.row hR)) rfl (by kernel_rfl) (by kernel_rfl) (by kernel_rfl) _ z1.1 z1.2) ⟨undef, (lgPut_none _ _).trans (put_far _ _ _ (by rw [puts_size]; exact Nat.le_of_ble_eq_true rfl)).symm, u, W4, hR, rfl⟩
      | _ + 2, hk, _, _, _ => simp at hk
    case h0 => exact rfl
    case don =>
      rintro y9 W8 u8 hR8 _ _
      obtain ⟨u2, W3, hE, rfl⟩ : ∃ (u2 : Value) (W3 : World), Done Q2.drew W3 ls u2 L2 ∧ W8 = W3.setCell ⟨g, 7, none⟩ u2 := hR8
      simp only [putsV, Act.put, List.setIfInBounds_toArray, List.set_cons_succ, List.set_cons_zero, List.set_nil, Nat.reduceAdd]
      have HE := veil hE
      clear hE C6 R1S BS CU
      go_wp2_with fail
      refine bodyPost_end (results_none rfl _ _ _) rfl ?_
      have kp1 : KeepP (OwnS g wr cm ls) w Q2 := by
        rw [← hQ2]
        exact onto (onto (KeepP.of_below (HA.out.drew : Below w.heap.size w w0.drew)) (HD.out.keep.mono (fun q e => (.inr (.inr (.inl e)) : OwnS g wr cm ls q))) (fun _ _ e => e)) (KeepP.setCell (st := OwnS g wr cm ls) (.inl rfl) W1 6 u1) (fun _ _ e => e)
      exact ⟨⟨_, rfl⟩, w0.drew, W1, Q2.drew, W3, u1, u2, (HA.out.drew : Below w.heap.size w w0.drew), hC2 ▸ HD.out, by rw [← hQ2]; rfl, hL2 ▸ HE.out, rfl,
        onto (onto (onto kp1 (keep_drew (OwnS g wr cm ls) Q2) (fun _ _ e => e)) (HE.out.keep.mono (fun q e => (.inr (.inr (.inr e)) : OwnS g wr cm ls q))) (fun _ _ e => e)) (KeepP.setCell (st := OwnS g wr cm ls) (.inl rfl) W3 7 u2) (fun _ _ e => e)⟩
end Sr
end Go.Proofs.YtehadfidenejdaaGreatDoor

/-! Written by mksnlost.py: what did not come in is put down. -/
namespace Go.Proofs.YtehadfidenejdaaGreatDoor
open Go Go.RowKit

namespace Sr
open Sd
def RLt (q : World) (v : Value) (M L2 : List Rn) (g : Nat) : Nat → World → Value → Prop
  | 0, W, _ => W = q
  | 1, W, u => Done q W (.slice none 0 0) u M
  | 2, W, u => Done q W v u L2
  | _, W, _ => ∃ (u : Value) (W1 : World), Done q W1 v u L2 ∧ W = W1.setCell ⟨g, 7, none⟩ u
theorem RLt.zero {q : World} {v : Value} {M L2 : List Rn} {g k : Nat} {W : World} {u : Value} (h : RLt q v M L2 g k W u) (hk : k ≤ 0) : W = q := by
  obtain rfl : k = 0 := by omega
  exact h
theorem RLt.row {q : World} {v : Value} {M L2 : List Rn} {g k : Nat} {W : World} {u : Value} (h : RLt q v M L2 g k W u) {b : Nat} {T : TypeId} {cs : Array Value} (hb : Row q b T cs) (h1 : b ≠ g) (h2 : v.ownBlock ≠ some b) : Row W b T cs := by
  match k, h with
  | 0, h => exact (show W = q from h) ▸ hb
  | 1, h => exact (Done.keep h).row hb (fun e => by cases e)
  | 2, h => exact (Done.keep h).row hb h2
  | _ + 3, h =>
    obtain ⟨u, W1, hD, rfl⟩ := h
    exact (Below.heap_setCell _ _ _ b h1).trans (hD.keep.row hb h2)
/-- Ahead of the store the sender's own cells stand. -/
theorem RLt.own {q : World} {v : Value} {M L2 : List Rn} {g k : Nat} {W : World} {u : Value} (h : RLt q v M L2 g k W u) (hk : k ≤ 1) {cs : Array Value} {T : TypeId} (hb : Row q g T cs) : Row W g T cs := by
  match k, h with
  | 0, h => exact (show W = q from h) ▸ hb
  | 1, h => exact (Done.keep h).row hb (fun e => by cases e)
  | _ + 2, _ => omega
theorem missing_len {l : List Rn} (hc : Canon l) {r : Rn} (hr : r.1 ≤ r.2) : (missing l r).length ≤ l.length + 1 := by
  have h := (each_canon chg_cut (by' := mids l r) (fun a ha => Nat.le_of_lt (hc.pos a (mids_mem ha))) (add_laws (l := []) (r := r) trivial hr).1).2
  have := add_len r
  have h3 : (mids l r).length ≤ l.length := by unfold mids; rw [List.length_drop, List.length_take]; omega
  show (each cut (add [] r) (mids l r)).length ≤ _
  omega
def depLo : Nat → List Nat
  | 0 => []
  | 1 => []
  | 2 => [1]
  | 3 => [2]
  | 4 => [3]
  | 5 => []
  | 6 => [5]
  | 7 => [6]
  | 8 => [7]
  | 9 => []
  | 10 => [8, 9]
  | 11 => [4, 10]
  | 12 => [0]
  | 13 => [12]
  | 14 => [13, 11]
  | _ => []
def dclLo : Nat → List Nat
  | 2 => [1]
  | 3 => [1, 2]
  | 4 => [1, 2, 3]
  | 6 => [5]
  | 7 => [5, 6]
  | 8 => [5, 6, 7]
  | 10 => [5, 6, 7, 8, 9]
  | 11 => [1, 2, 3, 4, 5, 6, 7, 8, 9, 10]
  | 12 => [0]
  | 13 => [0, 12]
  | 14 => [0, 1, 2, 3, 4, 5, 6, 7, 8, 9, 10, 11, 12, 13]
  | _ => []
def valLo (g p t : Nat) (cm ls : Value) : Nat → Value
  | 0 => .pointer (some ⟨g, 0, none⟩)
  | 1 => .pointer (some ⟨g, 0, none⟩)
  | 2 => .pointer (some ⟨g, 0, none⟩)
  | 3 => .pointer (some ⟨g, 7, none⟩)
  | 4 => ls
  | 5 => .pointer (some ⟨g, 0, none⟩)
  | 6 => .pointer (some ⟨g, 0, none⟩)
  | 7 => .pointer (some ⟨g, 6, none⟩)
  | 8 => cm
  | 9 => .agg #[.int .u64 (p : Int), .int .u64 (t : Int)]
  | 12 => .pointer (some ⟨g, 0, none⟩)
  | 13 => .pointer (some ⟨g, 7, none⟩)
  | _ => undef
set_option maxHeartbeats 2000000 in
set_option maxRecDepth 20000 in
theorem lost1_any {w : World} {g bs p t : Nat} {wr cm ls : Value} {s : Snd} {C L : List Rn} (h : SnOk w g wr cm ls s C L) (hb : Row w bs 32 #[.pointer (some ⟨g, 0, none⟩)]) (hpt : p ≤ t) :
    Calls Tryz.prog 48 #[rcA (p, t), .pointer (some ⟨bs, 0, none⟩)] w fun e w' => (∃ v, e = .returned v) ∧ ∃ W3 u2, Done w W3 ls u2 (each add L (missing C (p, t))) ∧ w'.heap = (W3.setCell ⟨g, 7, none⟩ u2).heap ∧ KeepP (OwnS g wr cm ls) w w' := by
  unfold rcA
  simp only
  have ha := (Below.refl _ w).alloc (Nat.le_refl _) (.cells #[.int .u64 (p : Int), .int .u64 (t : Int)] 77)
  have HA := veil ha
  have OK0 := veil (h.below ha)
  have HBS := veil (hb.below ha hb.lt)
  have R20 := veil (Row.new w 77 #[.int .u64 (p : Int), .int .u64 (t : Int)])
  have HOWN := veil h.lt
  have HPT := veil hpt
  clear h hb ha hpt
  go_enter Tryz.func48, Tryz.ntmps48
  go_wp2_with fail
  generalize w.alloc (.cells #[.int .u64 (p : Int), .int .u64 (t : Int)] 77) = w0 at *
  have OK := veil (OK0.out.below (below_drewN (Below.refl _ w0) 1) : SnOk w0.drew _ _ _ _ _ _ _)
  have HB := veil (HBS.out.below (below_drewN (Below.refl _ w0) 1) HBS.out.lt : Row w0.drew _ _ _)
  have R2 := veil (R20.out.below (below_drewN (Below.refl _ w0) 1) R20.out.lt : Row w0.drew _ _ _)
  obtain ⟨M0, hM0⟩ : ∃ M, missing C (p, t) = M := ⟨_, rfl⟩
  obtain ⟨L2, hL2⟩ : ∃ L2, each add L M0 = L2 := ⟨_, rfl⟩
  have tC := OK.out.rep.topC.2
  have tL := OK.out.rep.topL.2
  have tb := OK.out.rep.fine.len
  have hcu := missing_any w0.drew (r := (p, t)) OK.out.crow (by omega) OK.out.rep.cC HPT.out
  have hml := missing_len OK.out.rep.cC (r := (p, t)) HPT.out
  have hmc := (missing_laws OK.out.rep.cC (r := (p, t)) HPT.out).1
  rw [hM0] at hcu hml hmc
  unfold rcA at hcu
  simp only at hcu
  have CU := veil hcu
  have CE := veil (show ∀ (W : World) (u : Value), Done w0.drew W (.slice none 0 0) u M0 → Calls Tryz.prog 49 #[ls, .func (.func 46) #[] #[], u] W (fun e w' => ∃ v', e = .returned v' ∧ Done w0.drew w' ls v' L2) from fun W u hD => by
    have hbw : Below w0.drew.heap.size w0.drew W := hD.keep.below (B := w0.drew.heap.size) (fun q hq => by cases hq) (Nat.le_refl _)
    have hen := each_any chg_add W (v := ls) (u := u) (l := L) (by' := M0) (OK.out.lrow.below hbw) hD.row (by omega) OK.out.rep.cL (fun r hr => Nat.le_of_lt (hmc.pos r hr)) (fun k hk e => by
      rcases hD.stay k hk with q | q
      · cases q
      · exact absurd (OK.out.lrow.lt k e) (by omega))
    refine hen.mono ?_
    rintro e w' ⟨v', rfl, hd⟩
    rw [hL2] at hd
    exact ⟨v', rfl, Done.behind hbw hd⟩)
  have RL := veil (show ∀ (m : Nat) (W : World) (u : Value), RLt w0.drew ls M0 L2 g m W u → m ≤ 1 → Row W g 72 (snC wr cm ls s) from fun m W u hR hm => hR.own hm OK.out.row)
  have R1S := veil (show ∀ (W4 : World) (u : Value), Done w0.drew W4 ls u L2 → W4.cell? ⟨g, 7, none⟩ = some ls ∧ W4.frozen? ⟨g, 7, none⟩ = false from fun W4 u hD => by
    have hr := hD.keep.row OK.out.row (fun e => (Ty.ne OK.out.tg (OK.out.tl e) (by decide)) rfl)
    exact ⟨hr.cell 7, hr.frozen 7⟩)
  have BS := veil (show ∀ (m : Nat) (W : World) (u : Value), RLt w0.drew ls M0 L2 g m W u → W.cell? ⟨bs, 0, none⟩ = some (.pointer (some ⟨g, 0, none⟩)) from fun m W u hR =>
    (hR.row HB.out (Ty.ne (⟨_, HB.out⟩ : Ty w0.drew bs 32) OK.out.tg (by decide)) (fun e => (Ty.ne (⟨_, HB.out⟩ : Ty w0.drew bs 32) (OK.out.tl e) (by decide)) rfl)).cell 0)
  clear hcu OK0 HBS R20 tC tL tb hml hmc
  refine (wpIn_wide (n := 4)).1 ?_
  refine wpIn_region_any (by kernel_rfl) ?_
  refine anyIn_spine (valLo g p t cm ls) (RLt w0.drew ls M0 L2 g) undef [10, 11, 14] [3, 4, 5, 6, 7, 8, 9, 10, 11, 12, 13, 14, 15, 16, 100000] depLo dclLo (by kernel_rfl) (by decide) rfl (by decide) (by decide) ?ord (by decide) ?h0 ?fix ?cal ?don
  case ord =>
    intro k i j h1 h2
    match k, h1, h2 with
    | 0, h1, h2 =>
      obtain rfl := Option.some.inj h1
      obtain rfl := Option.some.inj h2
      decide
    | 1, h1, h2 =>
      obtain rfl := Option.some.inj h1
      obtain rfl := Option.some.inj h2
      decide
    | 2, _, h2 => simp at h2
    | _ + 3, h1, _ => simp at h1
  case fix =>
    intro x W4 m2 ii d u hR hdi hni hdep hlo hhi
    match ii, hdi, hni, hdep, hhi with
    | 0, hdi, _, _, _ =>
      obtain rfl := Option.some.inj hdi
      exact OI_value rfl rfl (about_none (by intro c h; cases h)) (by intro c h; cases h) (.pointer (some ⟨g, 0, none⟩)) W4 (lgRun_cell 32 _ ⟨bs, 0, none⟩ _ _ rfl (by kernel_rfl) Tryz.underlying32 rfl _ (BS.out _ _ _ hR)) ⟨rfl, rfl⟩
    | 1, hdi, _, _, _ =>
      obtain rfl := Option.some.inj hdi
      exact OI_value rfl rfl (about_none (by intro c h; cases h)) (by intro c h; cases h) (.pointer (some ⟨g, 0, none⟩)) W4 (lgRun_cell 32 _ ⟨bs, 0, none⟩ _ _ rfl (by kernel_rfl) Tryz.underlying32 rfl _ (BS.out _ _ _ hR)) ⟨rfl, rfl⟩
    | 2, hdi, _, hdep, _ =>
      obtain rfl := Option.some.inj hdi
      rw [updV_self (show x 1 = _ from hdep 1 (by simp [depLo]) (by decide))]
      exact OI_value rfl rfl (about_none (by intro c h; cases h)) (by intro c h; cases h) (.pointer (some ⟨g, 0, none⟩)) W4 (by kernel_rfl) ⟨rfl, rfl⟩
    | 3, hdi, _, hdep, _ =>
      obtain rfl := Option.some.inj hdi
      rw [updV_self (show x 2 = _ from hdep 2 (by simp [depLo]) (by decide))]
      exact OI_value rfl rfl (about_none (by intro c h; cases h)) (by intro c h; cases h) (.pointer (some ⟨g, 7, none⟩)) W4 (by kernel_rfl) ⟨rfl, rfl⟩
    | 4, hdi, _, hdep, hhi =>
      obtain rfl := Option.some.inj hdi
      rw [updV_self (show x 3 = _ from hdep 3 (by simp [depLo]) (by decide))]
      exact OI_value rfl rfl (about_none (by intro c h; cases h)) (by intro c h; cases h) (ls) W4 (lgRun_cell 70 _ ⟨g, 7, none⟩ _ _ rfl (by kernel_rfl) Tryz.underlying70 rfl _ ((RL.out _ _ _ hR (hhi 1 11 rfl (by decide))).cell 7)) ⟨rfl, rfl⟩
    | 5, hdi, _, _, _ =>
      obtain rfl := Option.some.inj hdi
      exact OI_value rfl rfl (about_none (by intro c h; cases h)) (by intro c h; cases h) (.pointer (some ⟨g, 0, none⟩)) W4 (lgRun_cell 32 _ ⟨bs, 0, none⟩ _ _ rfl (by kernel_rfl) Tryz.underlying32 rfl _ (BS.out _ _ _ hR)) ⟨rfl, rfl⟩
    | 6, hdi, _, hdep, _ =>
      obtain rfl := Option.some.inj hdi
      rw [updV_self (show x 5 = _ from hdep 5 (by simp [depLo]) (by decide))]
      exact OI_value rfl rfl (about_none (by intro c h; cases h)) (by intro c h; cases h) (.pointer (some ⟨g, 0, none⟩)) W4 (by kernel_rfl) ⟨rfl, rfl⟩
    | 7, hdi, _, hdep, _ =>
      obtain rfl := Option.some.inj hdi
      rw [updV_self (show x 6 = _ from hdep 6 (by simp [depLo]) (by decide))]
      exact OI_value rfl rfl (about_none (by intro c h; cases h)) (by intro c h; cases h) (.pointer (some ⟨g, 6, none⟩)) W4 (by kernel_rfl) ⟨rfl, rfl⟩
    | 8, hdi, _, hdep, hhi =>
      obtain rfl := Option.some.inj hdi
      rw [updV_self (show x 7 = _ from hdep 7 (by simp [depLo]) (by decide))]
      exact OI_value rfl rfl (about_none (by intro c h; cases h)) (by intro c h; cases h) (cm) W4 (lgRun_cell 70 _ ⟨g, 6, none⟩ _ _ rfl (by kernel_rfl) Tryz.underlying70 rfl _ ((RL.out _ _ _ hR (Nat.le_trans (hhi 0 10 rfl (by decide)) (by decide))).cell 6)) ⟨rfl, rfl⟩
    | 9, hdi, _, _, hhi =>
      obtain rfl := Option.some.inj hdi
      exact OI_value rfl rfl (about_none (by intro c h; cases h)) (by intro c h; cases h) (.agg #[.int .u64 (p : Int), .int .u64 (t : Int)]) W4 (lgRun_row 77 _ rfl w.heap.size (by kernel_rfl) 77 #[.int .u64 (p : Int), .int .u64 (t : Int)] 2 _ Tryz.underlying77 (by kernel_rfl) rfl W4 (by rw [hR.zero (hhi 0 10 rfl (by decide))]; exact R2.out)) ⟨rfl, rfl⟩
    | 10, _, hni, _, _ => (exfalso; exact hni (by decide))
    | 11, _, hni, _, _ => (exfalso; exact hni (by decide))
    | 12, hdi, _, hdep, _ =>
      obtain rfl := Option.some.inj hdi
      rw [updV_self (show x 0 = _ from hdep 0 (by simp [depLo]) (by decide))]
      exact OI_value rfl rfl (about_none (by intro c h; cases h)) (by intro c h; cases h) (.pointer (some ⟨g, 0, none⟩)) W4 (by kernel_rfl) ⟨rfl, rfl⟩
    | 13, hdi, _, hdep, _ =>
      obtain rfl := Option.some.inj hdi
      rw [updV_self (show x 12 = _ from hdep 12 (by simp [depLo]) (by decide))]
      exact OI_value rfl rfl (about_none (by intro c h; cases h)) (by intro c h; cases h) (.pointer (some ⟨g, 7, none⟩)) W4 (by kernel_rfl) ⟨rfl, rfl⟩
    | 14, _, hni, _, _ => (exfalso; exact hni (by decide))
    | _ + 15, hdi, _, _, _ => simp at hdi
  case cal =>
    intro x W4 k2 ii d u hR hk hdi hdep hu0 hup
    match k2, hk, hR, hu0, hup with
    | 0, hk, hR, hu0, hup =>
      obtain rfl := Option.some.inj hk
      obtain rfl := Option.some.inj hdi
      obtain rfl := hR
      rw [updV_self (show x 8 = _ from hdep 8 (by simp [depLo]) (by decide)), updV_self (show (updV x 8 _) 9 = _ from hdep 9 (by simp [depLo]) (by decide))]
      refine OI_call rfl rfl (by intro c h; cases h) 50 #[cm, .agg #[.int .u64 (p : Int), .int .u64 (t : Int)]] (fun _ _ => trivial) (by kernel_rfl) (by decide) ?_
      refine (callsIn_wide.2 CU.out).mono ?_
      rintro e w' ⟨u', rfl, hd⟩
      exact ⟨_, rfl, u', rfl, hd⟩
    | 1, hk, hR, hu0, hup =>
      obtain rfl := Option.some.inj hk
      obtain rfl := Option.some.inj hdi
      have h10 : x 10 = u := hup 0 10 rfl rfl
      rw [updV_self (show x 4 = _ from hdep 4 (by simp [depLo]) (by decide)), updV_self (show (updV x 4 _) 10 = u from h10)]
      refine OI_call rfl rfl (by intro c h; cases h) 49 #[ls, .func (.func 46) #[] #[], u] (fun _ _ => trivial) (by kernel_rfl) (by decide) ?_
      refine (callsIn_wide.2 (CE.out W4 u hR)).mono ?_
      rintro e w' ⟨u', rfl, hd⟩
      exact ⟨_, rfl, u', rfl, hd⟩
    | 2, hk, hR, hu0, hup =>
      obtain rfl := Option.some.inj hk
      obtain rfl := Option.some.inj hdi
      have h11 : x 11 = u := hup 1 11 rfl rfl
      rw [updV_self (show x 13 = _ from hdep 13 (by simp [depLo]) (by decide)), updV_self (show (updV x 13 _) 11 = u from h11)]
      have z1 := R1S.out W4 u hR
      refine OI_skip rfl rfl (about_none (by intro c h; cases h)) (by intro c h; cases h) _ (lgRun_store 70 _ _ ⟨g, 7, none⟩ u ls (RowO.one (Done.row hR)) rfl (by kernel_rfl) (by kernel_rfl) (by kernel_rfl) _ z1.1 z1.2) ⟨undef, (lgPut_none _ _).trans (put_far _ _ _ (by rw [puts_size]; exact Nat.le_of_ble_eq_true rfl)).symm, u, W4, hR, rfl⟩
    | _ + 3, hk, _, _, _ => simp at hk
  case h0 => exact rfl
  case don =>
    rintro x9 W9 u9 hR9 _ _
    obtain ⟨u1, W1, hD, rfl⟩ : ∃ (u1 : Value) (W1 : World), Done w0.drew W1 ls u1 L2 ∧ W9 = W1.setCell ⟨g, 7, none⟩ u1 := hR9
    simp only [putsV, Act.put, List.setIfInBounds_toArray, List.set_cons_succ, List.set_cons_zero, List.set_nil, Nat.reduceAdd]
    have HD := veil hD
    clear hD CE RL R1S BS CU
    go_wp2_with fail
    refine bodyPost_end (results_none rfl _ _ _) rfl ?_
    have hz := Done.behind (HA.out.drew : Below w.heap.size w w0.drew) HD.out
    exact ⟨⟨_, rfl⟩, W1, u1, hM0 ▸ hL2 ▸ hz, rfl, onto (hz.keep.mono (fun q e => (.inr (.inr (.inr e)) : OwnS g wr cm ls q))) (KeepP.setCell (st := OwnS g wr cm ls) (.inl rfl) W1 7 u1) (fun _ _ e => e)⟩
end Sr
end Go.Proofs.YtehadfidenejdaaGreatDoor
