/-
  Out of KyNon, KyCut.
-/
import Derived.Test.YtcfmpkolcelnlaaGreatDoorGm29
import Derived.Test.YtcfmpkolcelnlaaGreatDoorGmHkHeld
import Derived.Test.YtcfmpkolcelnlaaGreatDoorGm17
import Derived.BigRegion
import Derived.Test.YtcfmpkolcelnlaaGreatDoorRows
import Derived.Test.YtcfmpkolcelnlaaGreatDoorGm15

/-! What keys.nonceOf and keys.Nonce answer. -/
namespace Go.Proofs.YtcfmpkolcelnlaaGreatDoor
open Go Go.RowKit

set_option maxRecDepth 20000 in
set_option maxHeartbeats 1000000 in
theorem nonceOf_any (q : SL) (w : World) (hq : q.Ok w) (hl : q.len = 12) :
    Calls Tryz.prog 96 #[.slice q.a q.len q.cap] w fun e w' => e = .returned (.agg (bs q.b)) ∧ Below w.heap.size w w' := by
  obtain ⟨w0, hw0⟩ : ∃ w0, w0 = (w.alloc (.cells (bs (List.replicate 12 0)) 110)).alloc (.cells (bs (List.replicate 12 0)) 110) := ⟨_, rfl⟩
  have b0 : Below w.heap.size w w0 := by rw [hw0]; exact ((Below.refl _ w).alloc (Nat.le_refl _) _).alloc (by simp) _
  have p0 : Row w0 w.heap.size 110 (bs (List.replicate 12 0)) := by rw [hw0]; exact (Row.new _ _ _).alloc _
  have p1 : Row w0 (w.heap.size + 1) 110 (bs (List.replicate 12 0)) := by rw [hw0]; exact Row.new1 _ _ _ _
  obtain ⟨w2, hc2, rk, hk2⟩ := copy_sl w0 (w.heap.size + 1) _ (List.replicate 12 0) 12 q p1 rfl (hq.below b0) (by omega)
  have m0 := hk2.row p0 (by omega)
  have hs0 := b0.size
  have b2 := b0.trans (hk2.below (B := w.heap.size) (by omega) (by omega))
  have hb12 : q.b.length = 12 := by rw [hq.hb, hl]
  rw [hl, List.drop_replicate, show 12 - 12 = 0 by rfl, List.replicate_zero, List.append_nil] at rk
  have hsz : (bs q.b).size = 12 := by rw [bs_size, hb12]
  rw [hw0] at hc2
  rw [hl] at hc2 ⊢
  have HR := veil rk
  have HM0 := veil m0
  have HB2 := veil b2
  clear hw0 hk2 p0 p1 b0 hs0 hq hl hb12 rk m0 b2
  go_enter Tryz.func96, Tryz.ntmps96
  go_wp2_with (first
    | (with_reducible (show wpList _ _ _ (⟨_, Op.alloc 110, _, _, _, _⟩ :: _) _ _)
       refine alloc_row rfl 110 rfl (bs (List.replicate 12 0)) (by kernel_rfl) ?_)
    | (with_reducible (show wpList _ _ _ (⟨some 6, Op.call _, _, _, _, _⟩ :: _) _ _)
       refine wpList_copy rfl _ _ _ _ rfl _ _ rfl rfl _ w2 hc2 ?_)
    | (with_reducible (show wpList _ _ _ (⟨_, Op.load 110 _, _, _, _, _⟩ :: _) _ _)
       refine load_row rfl 110 _ rfl (w.heap.size + 1) rfl _ _ HR.out 12 5 Tryz.underlying110 (by kernel_rfl) hsz ?_)
    | (with_reducible (show wpList _ _ _ (⟨_, Op.store 110 _ _, _, _, _, _⟩ :: _) _ _)
       refine store_row rfl 110 _ _ rfl w.heap.size (bs q.b) rfl rfl _ _ HM0.out 12 (by kernel_rfl) (by rfl) hsz (bs_one _) ?_))
  refine bodyPost_ret (result_row rfl _ _ w.heap.size _ _ (HM0.out.put _) 12 5 rfl Tryz.underlying110 (by kernel_rfl) hsz) rfl ⟨rfl, bSetRow HB2.out (Nat.le_refl _) _⟩

theorem nb8_shr (n t : Nat) : (n : Int) / 2 ^ (8 * t) % 256 = v8 (nb8 n t) := by
  unfold v8 nb8
  rw [BitVec.toNat_ofNat, show (256 : Nat) ^ t = 2 ^ (8 * t) by rw [Nat.pow_mul]]
  have : ((n / 2 ^ (8 * t) : Nat) : Int) = (n : Int) / 2 ^ (8 * t) := by
    rw [Int.natCast_ediv]
    rw [Int.natCast_pow]
    rfl
  rw [← this]
  omega

set_option maxRecDepth 20000 in
set_option maxHeartbeats 2000000 in
theorem nonce_any (q : SL) (n : Nat) (w : World) (hq : q.Ok w) (hl : q.len = 12) (hn : n ≤ 4611686018427387903) :
    Calls Tryz.prog 37 #[.slice q.a q.len q.cap, .int .u64 (n : Int)] w fun e w' => ∃ g, e = .returned (.tuple #[.slice (some ⟨g, 0, none⟩) 12 12, .int .i64 0]) ∧ w.heap.size ≤ g ∧ Row w' g 110 (bs (nonceL q.b n)) ∧ Below w.heap.size w w' := by
  have HQ := veil hq
  have HL := veil hl
  have hne : ((q.len : Int) != 12) = false := by rw [hl]; rfl
  have hgt : decide ((4611686018427387903 : Int) < (n : Int)) = false := decide_eq_false (by omega)
  have hb12 : q.b.length = 12 := by rw [hq.hb, hl]
  have HB12 := veil hb12
  have hsz : (bs q.b).size = 12 := by rw [bs_size, hb12]
  have HN := veil hn
  clear hq hl hb12 hn
  go_enter Tryz.func37, Tryz.ntmps37
  go_wp2_with fail
  refine (nonceOf_any q w HQ.out HL.out).mono ?_
  rintro e1 w1 ⟨rfl, hb1⟩
  have B1 := veil hb1
  clear hb1
  go_wp2_with (first
    | (with_reducible (show wpList _ _ _ (⟨_, Op.alloc 110, _, _, _, _⟩ :: _) _ _)
       refine alloc_row rfl 110 rfl (bs (List.replicate 12 0)) (by kernel_rfl) ?_)
    | (with_reducible (show wpList _ _ _ (⟨_, Op.store 110 _ _, _, _, _, _⟩ :: _) _ _)
       refine store_new (w := w1) (by rfl) 110 _ _ (by rfl) w1.heap.size (bs q.b) (by rfl) (by rfl) 110 (bs (List.replicate 12 0)) (by rfl) 12 (by kernel_rfl) (by rfl) hsz (bs_one _) ?_))
  have r2 : Row (w1.alloc (.cells (bs q.b) 110)) w1.heap.size 110 (bs (nonceTo q.b n 0)) := by rw [nonceTo_zero q.b n HB12.out]; exact Row.new _ _ _
  have b2 : Below w.heap.size w (w1.alloc (.cells (bs q.b) 110)) := B1.out.alloc B1.out.size _
  generalize w1.alloc (.cells (bs q.b) 110) = W2 at *
  have hs1 := B1.out.size
  have R2 := veil r2
  have B2 := veil b2
  clear r2 b2
  obtain ⟨G, hG⟩ : ∃ G, w1.heap.size = G := ⟨_, rfl⟩
  rw [hG] at R2
  rw [hG] at hs1
  rw [hG]
  have HS1 := veil hs1
  clear B1 hs1 hG
  go_loopw [17] (fun i wr => ∃ t : Nat, t ≤ 8 ∧ i = .int .i64 (t : Int) ∧ Row wr G 110 (bs (nonceTo q.b n t)) ∧ Below w.heap.size w wr)
    (fun i _ => 8 - (intOf i).toNat)
  case atStart => exact ⟨0, Nat.zero_le _, rfl, R2.out, B2.out⟩
  case round =>
    obtain ⟨t, ht, rfl, hr, hbel⟩ := hrel
    have HR := veil hr
    have HB := veil hbel
    clear hr hbel
    by_cases hlt : t < 8
    · have hc := HR.out.cellB (j := 11 - t) (by rw [nonceTo_length]; omega)
      rw [nonceTo_get _ _ _ _ (by omega), if_neg (by omega)] at hc
      have hf := HR.out.frozen (11 - t)
      obtain ⟨J, hJ⟩ : ∃ J : Nat, 11 - t = J := ⟨_, rfl⟩
      have hsub : (11 : Int) - (t : Int) = (J : Int) := by omega
      rw [hJ] at hc hf
      have hJ12 : J < 12 := by omega
      have hx := b8x (gb q.b J) (nb8 n t)
      obtain ⟨T8, hT8⟩ : ∃ T8 : Nat, 8 * t = T8 := ⟨_, rfl⟩
      have hmul : (8 : Int) * (t : Int) = (T8 : Int) := by omega
      have hT64 : T8 < 64 := by omega
      have hshr := nb8_shr n t
      rw [hT8] at hshr
      have HJ := veil hJ
      clear hJ hT8
      go_wp2_with fail
      go_region
      have hr2 : Row (wr.setCell ⟨G, J, none⟩ (.int .u8 (v8 (gb q.b J ^^^ nb8 n t)))).drew G 110 (bs (nonceTo q.b n (t + 1))) := by
        have := HR.out.set J (.int .u8 (v8 (gb q.b J ^^^ nb8 n t)))
        rw [bs_set] at this
        have e := nonceTo_set q.b n t (by omega)
        rw [HJ.out] at e
        rw [e] at this
        exact this.drew
      have b3 : Below w.heap.size w (wr.setCell ⟨G, J, none⟩ (.int .u8 (v8 (gb q.b J ^^^ nb8 n t)))).drew := (HB.out.setCell (p := ⟨G, J, none⟩) HS1.out _).drew
      have HR2 := veil hr2
      have HB3 := veil b3
      clear hr2 b3 hc hf hshr hx
      go_wp2_with fail
      go_roundw
      case rel => exact ⟨t + 1, by omega, by go_num, HR2.out, HB3.out⟩
      case measure => simp [intOf]; omega
    · obtain rfl : t = 8 := by omega
      clear hlt ht
      go_wp2_with fail
      go_ret2
      exact ⟨G, rfl, HS1.out, HR.out, HB.out⟩

end Go.Proofs.YtcfmpkolcelnlaaGreatDoor

/-! Parts of a slice of bytes. -/
namespace Go.Proofs.YtcfmpkolcelnlaaGreatDoor
open Go Go.RowKit

/-- From one place to another. -/
theorem cut_both (s : SL) (w : World) (h : s.Ok w) (lo hi : Nat) (h1 : lo ≤ hi) (h2 : hi ≤ s.len) : ∃ c : SL, (∀ W, (Instr.sliceAt 30 (.slice s.a s.len s.cap) (some (.int .i64 (lo : Int))) (some (.int .i64 (hi : Int))) none).run Tryz.prog W = .ok (.slice c.a c.len c.cap) W) ∧
    (c.len = hi - lo ∧ c.b = (s.b.take hi).drop lo) ∧ (∀ W, s.Ok W → c.Ok W) ∧ c.g = s.g := by
  have hcap := h.hcap
  have hb := h.hb
  have hlen : ((s.b.take hi).drop lo).length = hi - lo := by rw [List.length_drop, List.length_take]; omega
  cases ha : s.a with
  | none =>
    obtain ⟨e1, e2⟩ := h.nil ha
    obtain rfl : hi = 0 := by omega
    obtain rfl : lo = 0 := by omega
    refine ⟨⟨none, 0, 0, s.g, s.off, _⟩, fun W => ?_, ⟨rfl, rfl⟩, fun W _ => ⟨by simp, Nat.le_refl _, fun _ => ⟨rfl, rfl⟩, fun p => absurd p (Nat.lt_irrefl _), fun p => absurd p (Nat.lt_irrefl _), fun _ p => absurd p (Nat.not_lt_zero _)⟩, rfl⟩
    simp [Instr.sliceAt, Instr.slice, Instr.sliceBounds, Instr.sliceBound, asIntOf, run_underlying Tryz.underlying30, e1, e2]
  | some ad =>
    refine ⟨⟨some (if s.cap = lo then ad else ad.add lo), hi - lo, s.cap - lo, s.g, s.off + lo, (s.b.take hi).drop lo⟩, fun W => ?_, ⟨rfl, rfl⟩, fun W hW => ⟨hlen, by show hi - lo ≤ s.cap - lo; omega, (fun e => by cases e), fun p => ?_, fun p => hW.lt (by have : 0 < hi - lo := p; omega), fun j hj => ?_⟩, rfl⟩
    · simp [Instr.sliceAt, Instr.slice, Instr.sliceBounds, Instr.sliceBound, asIntOf, run_underlying Tryz.underlying30, show hi ≤ s.cap by omega, h1]
      split <;> rfl
    · have p' : 0 < hi - lo := p
      have e := hW.at_ (by omega)
      rw [ha] at e
      injection e with e
      subst e
      show some (if s.cap = lo then _ else _) = _
      rw [if_neg (by omega), Addr.add_mid]
    · have hj' : j < hi - lo := hj
      have := hW.cell (lo + j) (by omega)
      show W.cell? ⟨s.g, s.off + lo + j, none⟩ = some (.int .u8 (v8 (gb ((s.b.take hi).drop lo) j)))
      rw [Nat.add_assoc, this]
      unfold gb
      rw [List.getElem?_drop, List.getElem?_take, if_pos (by omega)]
theorem cut_lo (s : SL) (w : World) (h : s.Ok w) (lo : Nat) (h1 : lo ≤ s.len) : ∃ c : SL, (∀ W, (Instr.sliceAt 30 (.slice s.a s.len s.cap) (some (.int .i64 (lo : Int))) none none).run Tryz.prog W = .ok (.slice c.a c.len c.cap) W) ∧
    (c.len = s.len - lo ∧ c.b = s.b.drop lo) ∧ (∀ W, s.Ok W → c.Ok W) ∧ c.g = s.g := by
  obtain ⟨c, h2, h3, h4, h5⟩ := cut_both s w h lo s.len h1 (Nat.le_refl _)
  refine ⟨c, fun W => ?_, ⟨h3.1, ?_⟩, h4, h5⟩
  · rw [← h2 W]
    have hcap := h.hcap
    cases s.a <;> simp [Instr.sliceAt, Instr.slice, Instr.sliceBounds, Instr.sliceBound, asIntOf, run_underlying Tryz.underlying30, hcap]
  · rw [h3.2, ← h.hb, List.take_length]
/-- The first so many, without room behind them. -/
theorem cut_tight (s : SL) (w : World) (h : s.Ok w) (hi : Nat) (h0 : 0 < hi) (h1 : hi ≤ s.len) : ∃ c : SL, (∀ W, (Instr.sliceAt 30 (.slice s.a s.len s.cap) none (some (.int .i64 (hi : Int))) (some (.int .i64 (hi : Int)))).run Tryz.prog W = .ok (.slice c.a c.len c.cap) W) ∧
    (c.len = hi ∧ c.b = s.b.take hi) ∧ (∀ W, s.Ok W → c.Ok W) ∧ c.g = s.g := by
  have hcap := h.hcap
  have hb := h.hb
  have ha := h.at_ (by omega)
  refine ⟨⟨s.a, hi, hi, s.g, s.off, s.b.take hi⟩, fun W => ?_, ⟨rfl, rfl⟩, fun W hW => ⟨by show (s.b.take hi).length = hi; rw [List.length_take]; omega, Nat.le_refl _, (fun e => by rw [show s.a = _ from ha] at e; cases e), fun _ => ha, fun _ => hW.lt (by omega), fun j hj => ?_⟩, rfl⟩
  · rw [ha]
    simp [Instr.sliceAt, Instr.slice, Instr.sliceBounds, Instr.sliceBound, asIntOf, run_underlying Tryz.underlying30, show hi ≤ s.cap by omega]
    exact fun _ => Addr.add_mid _ _ _
  · have hj' : j < hi := hj
    have := hW.cell j (by omega)
    show W.cell? ⟨s.g, s.off + j, none⟩ = some (.int .u8 (v8 (gb (s.b.take hi) j)))
    rw [this]
    unfold gb
    rw [List.getElem?_take, if_pos hj']
end Go.Proofs.YtcfmpkolcelnlaaGreatDoor
