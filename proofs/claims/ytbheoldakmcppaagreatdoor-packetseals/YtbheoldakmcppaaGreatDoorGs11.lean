/-
  Out of KyNon, KyCut, KyMask.
-/
import Derived.Test.YtbheoldakmcppaaGreatDoorGs29
import Derived.Test.YtbheoldakmcppaaGreatDoorGs15
import Derived.Test.YtbheoldakmcppaaGreatDoorGs18
import Derived.BigRegion
import Derived.Test.YtbheoldakmcppaaGreatDoorRows
import Derived.Test.YtbheoldakmcppaaGreatDoorGs31
import Derived.Test.YtbheoldakmcppaaGreatDoorGs5

/-! What keys.nonceOf and keys.Nonce answer. -/
namespace Go.Proofs.YtbheoldakmcppaaGreatDoor
open Go Go.RowKit

set_option maxRecDepth 20000 in
set_option maxHeartbeats 1000000 in
theorem nonceOf_any (q : SL) (w : World) (hq : q.Ok w) (hl : q.len = 12) :
    Calls Tryz.prog 74 #[.slice q.a q.len q.cap] w fun e w' => e = .returned (.agg (bs q.b)) ∧ Below w.heap.size w w' := by
  obtain ⟨w0, hw0⟩ : ∃ w0, w0 = (w.alloc (.cells (bs (List.replicate 12 0)) 76)).alloc (.cells (bs (List.replicate 12 0)) 76) := ⟨_, rfl⟩
  have b0 : Below w.heap.size w w0 := by rw [hw0]; exact ((Below.refl _ w).alloc (Nat.le_refl _) _).alloc (by simp) _
  have p0 : Row w0 w.heap.size 76 (bs (List.replicate 12 0)) := by rw [hw0]; exact (Row.new _ _ _).alloc _
  have p1 : Row w0 (w.heap.size + 1) 76 (bs (List.replicate 12 0)) := by rw [hw0]; exact Row.new1 _ _ _ _
  obtain ⟨w2, hc2, rk, hk2⟩ := copy_sl w0 (w.heap.size + 1) _ (List.replicate 12 0) 12 q p1 rfl (hq.below b0) (by omega)
  have m0 := hk2.row p0 (by omega)
  have hs0 := b0.size
  have b2 := b0.trans (hk2.below (B := w.heap.size) (by omega) (by omega))
  have hb12 : q.b.length = 12 := by rw [hq.hb, hl]
  rw [hl, List.drop_replicate, show 12 - 12 = 0 by rfl, List.replicate_zero, List.append_nil] at rk
  have hsz : (bs q.b).size = 12 := by rw [bs_size, hb12]
  rw [hw0] at hc2
  rw [hl] at hc2 ⊢
  have HR := veil rk
  have HM0 := veil m0
  have HB2 := veil b2
  clear hw0 hk2 p0 p1 b0 hs0 hq hl hb12 rk m0 b2
  go_enter Tryz.func74, Tryz.ntmps74
  go_wp2_with (first
    | (with_reducible (show wpList _ _ _ (⟨_, Op.alloc 76, _, _, _, _⟩ :: _) _ _)
       refine alloc_row rfl 76 rfl (bs (List.replicate 12 0)) (by kernel_rfl) ?_)
    | (with_reducible (show wpList _ _ _ (⟨some 6, Op.call _, _, _, _, _⟩ :: _) _ _)
       refine wpList_copy rfl _ _ _ _ rfl _ _ rfl rfl _ w2 hc2 ?_)
    | (with_reducible (show wpList _ _ _ (⟨_, Op.load 76 _, _, _, _, _⟩ :: _) _ _)
       refine load_row rfl 76 _ rfl (w.heap.size + 1) rfl _ _ HR.out 12 5 Tryz.underlying76 (by kernel_rfl) hsz ?_)
    | (with_reducible (show wpList _ _ _ (⟨_, Op.store 76 _ _, _, _, _, _⟩ :: _) _ _)
       refine store_row rfl 76 _ _ rfl w.heap.size (bs q.b) rfl rfl _ _ HM0.out 12 (by kernel_rfl) (by rfl) hsz (bs_one _) ?_))
  refine bodyPost_ret (result_row rfl _ _ w.heap.size _ _ (HM0.out.put _) 12 5 rfl Tryz.underlying76 (by kernel_rfl) hsz) rfl ⟨rfl, bSetRow HB2.out (Nat.le_refl _) _⟩

theorem nb8_shr (n t : Nat) : (n : Int) / 2 ^ (8 * t) % 256 = v8 (nb8 n t) := by
  unfold v8 nb8
  rw [BitVec.toNat_ofNat, show (256 : Nat) ^ t = 2 ^ (8 * t) by rw [Nat.pow_mul]]
  have : ((n / 2 ^ (8 * t) : Nat) : Int) = (n : Int) / 2 ^ (8 * t) := by
    rw [Int.natCast_ediv]
    rw [Int.natCast_pow]
    rfl
  rw [← this]
  omega

set_option maxRecDepth 20000 in
set_option maxHeartbeats 2000000 in
theorem nonce_any (q : SL) (n : Nat) (w : World) (hq : q.Ok w) (hl : q.len = 12) (hn : n ≤ 4611686018427387903) :
    Calls Tryz.prog 22 #[.slice q.a q.len q.cap, .int .u64 (n : Int)] w fun e w' => ∃ g, e = .returned (.tuple #[.slice (some ⟨g, 0, none⟩) 12 12, .int .i64 0]) ∧ w.heap.size ≤ g ∧ Row w' g 76 (bs (nonceL q.b n)) ∧ Below w.heap.size w w' := by
  have HQ := veil hq
  have HL := veil hl
  have hne : ((q.len : Int) != 12) = false := by rw [hl]; rfl
  have hgt : decide ((4611686018427387903 : Int) < (n : Int)) = false := decide_eq_false (by omega)
  have hb12 : q.b.length = 12 := by rw [hq.hb, hl]
  have HB12 := veil hb12
  have hsz : (bs q.b).size = 12 := by rw [bs_size, hb12]
  have HN := veil hn
  clear hq hl hb12 hn
  go_enter Tryz.func22, Tryz.ntmps22
  go_wp2_with fail
  refine (nonceOf_any q w HQ.out HL.out).mono ?_
  rintro e1 w1 ⟨rfl, hb1⟩
  have B1 := veil hb1
  clear hb1
  go_wp2_with (first
    | (with_reducible (show wpList _ _ _ (⟨_, Op.alloc 76, _, _, _, _⟩ :: _) _ _)
       refine alloc_row rfl 76 rfl (bs (List.replicate 12 0)) (by kernel_rfl) ?_)
    | (with_reducible (show wpList _ _ _ (⟨_, Op.store 76 _ _, _, _, _, _⟩ :: _) _ _)
       refine store_new (w := w1) (by rfl) 76 _ _ (by rfl) w1.heap.size (bs q.b) (by rfl) (by rfl) 76 (bs (List.replicate 12 0)) (by rfl) 12 (by kernel_rfl) (by rfl) hsz (bs_one _) ?_))
  have r2 : Row (w1.alloc (.cells (bs q.b) 76)) w1.heap.size 76 (bs (nonceTo q.b n 0)) := by rw [nonceTo_zero q.b n HB12.out]; exact Row.new _ _ _
  have b2 : Below w.heap.size w (w1.alloc (.cells (bs q.b) 76)) := B1.out.alloc B1.out.size _
  generalize w1.alloc (.cells (bs q.b) 76) = W2 at *
  have hs1 := B1.out.size
  have R2 := veil r2
  have B2 := veil b2
  clear r2 b2
  obtain ⟨G, hG⟩ : ∃ G, w1.heap.size = G := ⟨_, rfl⟩
  rw [hG] at R2
  rw [hG] at hs1
  rw [hG]
  have HS1 := veil hs1
  clear B1 hs1 hG
  go_loopw [17] (fun i wr => ∃ t : Nat, t ≤ 8 ∧ i = .int .i64 (t : Int) ∧ Row wr G 76 (bs (nonceTo q.b n t)) ∧ Below w.heap.size w wr)
    (fun i _ => 8 - (intOf i).toNat)
  case atStart => exact ⟨0, Nat.zero_le _, rfl, R2.out, B2.out⟩
  case round =>
    obtain ⟨t, ht, rfl, hr, hbel⟩ := hrel
    have HR := veil hr
    have HB := veil hbel
    clear hr hbel
    by_cases hlt : t < 8
    · have hc := HR.out.cellB (j := 11 - t) (by rw [nonceTo_length]; omega)
      rw [nonceTo_get _ _ _ _ (by omega), if_neg (by omega)] at hc
      have hf := HR.out.frozen (11 - t)
      obtain ⟨J, hJ⟩ : ∃ J : Nat, 11 - t = J := ⟨_, rfl⟩
      have hsub : (11 : Int) - (t : Int) = (J : Int) := by omega
      rw [hJ] at hc hf
      have hJ12 : J < 12 := by omega
      have hx := b8x (gb q.b J) (nb8 n t)
      obtain ⟨T8, hT8⟩ : ∃ T8 : Nat, 8 * t = T8 := ⟨_, rfl⟩
      have hmul : (8 : Int) * (t : Int) = (T8 : Int) := by omega
      have hT64 : T8 < 64 := by omega
      have hshr := nb8_shr n t
      rw [hT8] at hshr
      have HJ := veil hJ
      clear hJ hT8
      go_wp2_with fail
      go_region
      have hr2 : Row (wr.setCell ⟨G, J, none⟩ (.int .u8 (v8 (gb q.b J ^^^ nb8 n t)))).drew G 76 (bs (nonceTo q.b n (t + 1))) := by
        have := HR.out.set J (.int .u8 (v8 (gb q.b J ^^^ nb8 n t)))
        rw [bs_set] at this
        have e := nonceTo_set q.b n t (by omega)
        rw [HJ.out] at e
        rw [e] at this
        exact this.drew
      have b3 : Below w.heap.size w (wr.setCell ⟨G, J, none⟩ (.int .u8 (v8 (gb q.b J ^^^ nb8 n t)))).drew := (HB.out.setCell (p := ⟨G, J, none⟩) HS1.out _).drew
      have HR2 := veil hr2
      have HB3 := veil b3
      clear hr2 b3 hc hf hshr hx
      go_wp2_with fail
      go_roundw
      case rel => exact ⟨t + 1, by omega, by go_num, HR2.out, HB3.out⟩
      case measure => simp [intOf]; omega
    · obtain rfl : t = 8 := by omega
      clear hlt ht
      go_wp2_with fail
      go_ret2
      exact ⟨G, rfl, HS1.out, HR.out, HB.out⟩

end Go.Proofs.YtbheoldakmcppaaGreatDoor

/-! Parts of a slice of bytes. -/
namespace Go.Proofs.YtbheoldakmcppaaGreatDoor
open Go Go.RowKit

/-- From one place to another. -/
theorem cut_both (s : SL) (w : World) (h : s.Ok w) (lo hi : Nat) (h1 : lo ≤ hi) (h2 : hi ≤ s.len) : ∃ c : SL, (∀ W, (Instr.sliceAt 22 (.slice s.a s.len s.cap) (some (.int .i64 (lo : Int))) (some (.int .i64 (hi : Int))) none).run Tryz.prog W = .ok (.slice c.a c.len c.cap) W) ∧
    (c.len = hi - lo ∧ c.b = (s.b.take hi).drop lo) ∧ (∀ W, s.Ok W → c.Ok W) ∧ c.g = s.g := by
  have hcap := h.hcap
  have hb := h.hb
  have hlen : ((s.b.take hi).drop lo).length = hi - lo := by rw [List.length_drop, List.length_take]; omega
  cases ha : s.a with
  | none =>
    obtain ⟨e1, e2⟩ := h.nil ha
    obtain rfl : hi = 0 := by omega
    obtain rfl : lo = 0 := by omega
    refine ⟨⟨none, 0, 0, s.g, s.off, _⟩, fun W => ?_, ⟨rfl, rfl⟩, fun W _ => ⟨by simp, Nat.le_refl _, fun _ => ⟨rfl, rfl⟩, fun p => absurd p (Nat.lt_irrefl _), fun p => absurd p (Nat.lt_irrefl _), fun _ p => absurd p (Nat.not_lt_zero _)⟩, rfl⟩
    simp [Instr.sliceAt, Instr.slice, Instr.sliceBounds, Instr.sliceBound, asIntOf, run_underlying Tryz.underlying22, e1, e2]
  | some ad =>
    refine ⟨⟨some (if s.cap = lo then ad else ad.add lo), hi - lo, s.cap - lo, s.g, s.off + lo, (s.b.take hi).drop lo⟩, fun W => ?_, ⟨rfl, rfl⟩, fun W hW => ⟨hlen, by show hi - lo ≤ s.cap - lo; omega, (fun e => by cases e), fun p => ?_, fun p => hW.lt (by have : 0 < hi - lo := p; omega), fun j hj => ?_⟩, rfl⟩
    · simp [Instr.sliceAt, Instr.slice, Instr.sliceBounds, Instr.sliceBound, asIntOf, run_underlying Tryz.underlying22, show hi ≤ s.cap by omega, h1]
      split <;> rfl
    · have p' : 0 < hi - lo := p
      have e := hW.at_ (by omega)
      rw [ha] at e
      injection e with e
      subst e
      show some (if s.cap = lo then _ else _) = _
      rw [if_neg (by omega), Addr.add_mid]
    · have hj' : j < hi - lo := hj
      have := hW.cell (lo + j) (by omega)
      show W.cell? ⟨s.g, s.off + lo + j, none⟩ = some (.int .u8 (v8 (gb ((s.b.take hi).drop lo) j)))
      rw [Nat.add_assoc, this]
      unfold gb
      rw [List.getElem?_drop, List.getElem?_take, if_pos (by omega)]
theorem cut_lo (s : SL) (w : World) (h : s.Ok w) (lo : Nat) (h1 : lo ≤ s.len) : ∃ c : SL, (∀ W, (Instr.sliceAt 22 (.slice s.a s.len s.cap) (some (.int .i64 (lo : Int))) none none).run Tryz.prog W = .ok (.slice c.a c.len c.cap) W) ∧
    (c.len = s.len - lo ∧ c.b = s.b.drop lo) ∧ (∀ W, s.Ok W → c.Ok W) ∧ c.g = s.g := by
  obtain ⟨c, h2, h3, h4, h5⟩ := cut_both s w h lo s.len h1 (Nat.le_refl _)
  refine ⟨c, fun W => ?_, ⟨h3.1, ?_⟩, h4, h5⟩
  · rw [← h2 W]
    have hcap := h.hcap
    cases s.a <;> simp [Instr.sliceAt, Instr.slice, Instr.sliceBounds, Instr.sliceBound, asIntOf, run_underlying Tryz.underlying22, hcap]
  · rw [h3.2, ← h.hb, List.take_length]
/-- The first so many, without room behind them. -/
theorem cut_tight (s : SL) (w : World) (h : s.Ok w) (hi : Nat) (h0 : 0 < hi) (h1 : hi ≤ s.len) : ∃ c : SL, (∀ W, (Instr.sliceAt 22 (.slice s.a s.len s.cap) none (some (.int .i64 (hi : Int))) (some (.int .i64 (hi : Int)))).run Tryz.prog W = .ok (.slice c.a c.len c.cap) W) ∧
    (c.len = hi ∧ c.b = s.b.take hi) ∧ (∀ W, s.Ok W → c.Ok W) ∧ c.g = s.g := by
  have hcap := h.hcap
  have hb := h.hb
  have ha := h.at_ (by omega)
  refine ⟨⟨s.a, hi, hi, s.g, s.off, s.b.take hi⟩, fun W => ?_, ⟨rfl, rfl⟩, fun W hW => ⟨by show (s.b.take hi).length = hi; rw [List.length_take]; omega, Nat.le_refl _, (fun e => by rw [show s.a = _ from ha] at e; cases e), fun _ => ha, fun _ => hW.lt (by omega), fun j hj => ?_⟩, rfl⟩
  · rw [ha]
    simp [Instr.sliceAt, Instr.slice, Instr.sliceBounds, Instr.sliceBound, asIntOf, run_underlying Tryz.underlying22, show hi ≤ s.cap by omega]
    exact fun _ => Addr.add_mid _ _ _
  · have hj' : j < hi := hj
    have := hW.cell j (by omega)
    show W.cell? ⟨s.g, s.off + j, none⟩ = some (.int .u8 (v8 (gb (s.b.take hi) j)))
    rw [this]
    unfold gb
    rw [List.getElem?_take, if_pos hj']
end Go.Proofs.YtbheoldakmcppaaGreatDoor

/-! What keys.countOf and keys.Mask answer. -/
namespace Go.Proofs.YtbheoldakmcppaaGreatDoor
open Go Go.RowKit

set_option maxRecDepth 20000 in
set_option maxHeartbeats 1000000 in
theorem countOf_any (q : SL) (w : World) (hq : q.Ok w) (hl : q.len = 4) :
    Calls Tryz.prog 123 #[.slice q.a q.len q.cap] w fun e w' => e = .returned (.int .u32 (u (countL q.b))) ∧ w' = w := by
  have ha := hq.at_ (by omega)
  have hc := hq.cell
  rw [ha, hl]
  rw [hl] at hc
  have HC := veil hc
  clear hq hl ha hc
  generalize q.g = g at *
  generalize q.off = o at *
  generalize q.b = b at *
  generalize q.cap = cp at *
  clear q
  go_enter Tryz.func123, Tryz.ntmps123
  go_wp2_with fail
  go_loopw [3, 8] (fun v i wr => ∃ j : Nat, j ≤ 4 ∧ i = .int .i64 j ∧ v = .int .u32 (u (wordTo b 0 j)) ∧ wr = w) (fun _ i _ => 4 - (intOf i).toNat)
  case atStart => exact ⟨0, by omega, rfl, rfl, rfl⟩
  case round =>
    obtain ⟨j, hj, rfl, rfl, rfl⟩ := hrel
    by_cases hlt : j < 4
    · have c0 := HC.out j hlt
      rw [v8_ex] at c0
      have HE : Hid (wordTo b 0 (j + 1) = oo (wordTo b 0 j) (sl (ex (gb b j)) (8 * j))) := by
        have : wordTo b 0 (j + 1) = oo (wordTo b 0 j) (sl (ex (gb b (4 * 0 + j))) (8 * j)) := rfl
        rw [Nat.mul_zero, Nat.zero_add] at this
        exact this
      have u0 := u_nn (ex (gb b j))
      have u1 := u_le (ex (gb b j))
      generalize ex (gb b j) = x at *
      have hs := wsl x (8 * j)
      have ho := bo (wordTo b 0 j) (sl x (8 * j))
      generalize wordTo b 0 j = y at *
      have q1 : (8 * (j : Int)).toNat = 8 * j := by omega
      go_wp2_with fail
      go_roundw
      case rel => exact ⟨j + 1, by omega, by go_num, by rw [HE.out], trivial⟩
      case measure => simp [intOf]; omega
    · have HE : Hid (j = 4) := show j = 4 by omega
      have hd : decide ((j : Int) < 4) = false := by simp; omega
      go_wp2_with fail
      go_ret
      exact ⟨by rw [HE.out, wordTo_all]; rfl, rfl⟩

section
variable {F : Fence} {n : Nat} {P : Program} {ops : Array Oper} {rest : List Oper} {o : Oper} {a : Act} {w : World} {Q : Exit → Act → World → Prop}
theorem copyIn (hgd : o.guard = none) (s x : Operand) (t1 t2 : TypeId) (ho : o.op = .call { callee := .builtin .copy, args := #[s, x], argTypes := #[t1, t2] }) (vs vx : Value) (hs : a.eval s = vs) (hx : a.eval x = vx)
    (v : Value) (w' : World) (hr : (Builtin.copy_ #[t1, t2] o.type #[vs, vx]).run P w = .ok v w') (h : wpListIn F n P ops Q rest (a.put o.dst v) w') : wpListIn F n P ops Q (o :: rest) a w :=
  wpListIn_plain hgd fun _ hK => ⟨(fun f hf => by rw [about_builtin _ _ _ ho] at hf; cases hf), (by rw [Oper.semAt_eq _ _ _ (by simp [ho]), exec_copy s x t1 t2 ho vs vx hs hx v w' hr]; exact hK _ _ h)⟩
theorem run_sliceOp (t : TypeId) (x : Operand) (lo hi mx : Option Operand) (ho : o.op = .slice t x lo hi mx) (vx : Value) (vl vh vm : Option Value) (hx : a.eval x = vx) (hl : lo.map a.eval = vl) (hh : hi.map a.eval = vh) (hm : mx.map a.eval = vm) (v : Value) (W : World)
    (hr : (Instr.sliceAt t vx vl vh vm).run P W = .ok v W) : (execOp a.eval o).run P W = .ok (.value v) W := by
  subst hx hl hh hm
  unfold execOp
  simp only [ho]
  rw [Sem.run_bind, hr]
  rfl
end
def Z64 : List By := List.replicate 64 0
def depM : Nat → List Nat
  | 2 => [1]
  | 3 => [2]
  | 5 => [4]
  | 6 => [5, 3]
  | 7 => [0, 3, 6]
  | 9 => [0, 1, 2, 3, 4, 5, 6, 7, 8]
  | _ => []
def valM (k s c d : SL) (B : List By) (S : Nat) : Nat → World → Value → Prop
  | 0, _, v => v = .agg (bs k.b)
  | 1, _, v => v = .slice s.a s.len s.cap
  | 2, _, v => v = .slice c.a c.len c.cap
  | 3, _, v => v = .int .u32 (u (countL c.b))
  | 4, _, v => v = .slice s.a s.len s.cap
  | 5, _, v => v = .slice d.a d.len d.cap
  | 6, _, v => v = .agg (bs d.b)
  | 7, _, v => v = .agg (bs B)
  | 8, W, v => ∃ g, v = .pointer (some ⟨g, 0, none⟩) ∧ S ≤ g ∧ Row W g 187 (bs Z64)
  | _, _, _ => True
theorem valM_mono {k s c d : SL} {B : List By} {S : Nat} : ∀ (j : Nat) (W W' : World) (v : Value), Below W.heap.size W W' → valM k s c d B S j W v → valM k s c d B S j W' v
  | 0, _, _, _, _, h => h
  | 1, _, _, _, _, h => h
  | 2, _, _, _, _, h => h
  | 3, _, _, _, _, h => h
  | 4, _, _, _, _, h => h
  | 5, _, _, _, _, h => h
  | 6, _, _, _, _, h => h
  | 7, _, _, _, _, h => h
  | 8, _, _, _, hb, ⟨g, h1, h2, h3⟩ => ⟨g, h1, h2, h3.below hb h3.lt⟩
  | _ + 9, _, _, _, _, _ => trivial

set_option maxRecDepth 20000 in
set_option maxHeartbeats 2000000 in
theorem mask_any (k s : SL) (w : World) (hg : Glob w) (hk : k.Ok w) (hs : s.Ok w) (hkl : k.len = 32) (hsl : s.len = 16) :
    Calls Tryz.prog 78 #[.slice k.a k.len k.cap, .slice s.a s.len s.cap] w fun e w' => ∃ g, e = .returned (.tuple #[.slice (some ⟨g, 0, none⟩) 5 5, .int .i64 0]) ∧ w.heap.size ≤ g ∧ Row w' g 187 (bs (blockL k.b (countL s.b) (s.b.drop 4))) ∧ Below w.heap.size w w' := by
  obtain ⟨w0, hw0⟩ : ∃ w0, w0 = w.alloc (.cells (bs (List.replicate 32 0)) 78) := ⟨_, rfl⟩
  have b0 : Below w.heap.size w w0 := by rw [hw0]; exact (Below.refl _ w).alloc (Nat.le_refl _) _
  have p0 : Row w0 w.heap.size 78 (bs (List.replicate 32 0)) := by rw [hw0]; exact Row.new _ _ _
  obtain ⟨w2, hc2, rk, hk2⟩ := copy_sl w0 w.heap.size _ (List.replicate 32 0) 32 k p0 rfl (hk.below b0) (by omega)
  have hb32 : k.b.length = 32 := by rw [hk.hb, hkl]
  have hb16 : s.b.length = 16 := by rw [hs.hb, hsl]
  rw [hkl, List.drop_replicate, show 32 - 32 = 0 by rfl, List.replicate_zero, List.append_nil] at rk
  have b2 := b0.trans (hk2.below (B := w.heap.size) (by omega) (by have := b0.size; omega))
  have hne : ((k.len : Int) != 32) = false := by rw [hkl]; rfl
  have hne2 : ((s.len : Int) != 16) = false := by rw [hsl]; rfl
  have hs2 := b2.size
  obtain ⟨c, hcut, ⟨hcl, hcb⟩, hcok, _⟩ := cut_tight s w hs 4 (by decide) (by omega)
  obtain ⟨d, hdut, ⟨hdl, hdb⟩, hdok, _⟩ := cut_lo s w hs 4 (by omega)
  have hcnt : countL s.b = countL c.b := by
    rw [hcb]
    unfold countL wordLE gb
    simp only [List.getElem?_take]
    rfl
  rw [hcnt, ← hdb]
  have hd12 : d.b.length = 12 := by rw [hdb, List.length_drop, hb16]
  have hkz : (bs k.b).size = 32 := by rw [bs_size, hb32]
  have hbl := blockL_length k.b (countL c.b) d.b
  have HBL := veil (block_any k.b (countL c.b) d.b hb32 hd12)
  obtain ⟨B, hB⟩ : ∃ B, blockL k.b (countL c.b) d.b = B := ⟨_, rfl⟩
  rw [hB] at hbl HBL ⊢
  have hbz : (bs B).size = 64 := by rw [bs_size, hbl]
  rw [hw0] at hc2
  have HC := veil (hcok _ (hs.below b2))
  have HD := veil (hdok _ (hs.below b2))
  have HG := veil (hg.below b2 (Nat.le_refl _))
  have HCL := veil hcl
  have HDL := veil (show d.len = 12 by omega)
  have HCU := veil hcut
  have HDU := veil hdut
  have RK := veil rk
  have B2 := veil b2
  have HS2 := veil hs2
  have HBZ := veil hbz
  clear hw0 b0 p0 hk2 rk b2 hkl hk hs hg hsl hs2 hcl hdl hcb hdb hcnt hB hbl hb32 hb16 hd12 hcut hdut hcok hdok hbz
  refine (callsIn_wide (n := 4)).1 ?_
  refine callsIn_of_wp Tryz.func78 rfl trivial ?_ rfl
  simp only [Tryz.ntmps78, List.size_toArray, List.length_cons, List.length_nil, Nat.reduceAdd, Nat.reduceSub, Array.replicate_succ, Array.replicate_zero, List.push_toArray, List.append_toArray, List.nil_append, List.cons_append]
  gi_wp2_with (first
    | (with_reducible (show wpListIn _ _ _ _ _ (⟨_, Op.alloc 78, _, _, _, _⟩ :: _) _ _)
       refine alloc_rowIn rfl 78 rfl (bs (List.replicate 32 0)) (by kernel_rfl) ?_)
    | (with_reducible (show wpListIn _ _ _ _ _ (⟨some 18, Op.call _, _, _, _, _⟩ :: _) _ _)
       refine copyIn rfl _ _ _ _ rfl _ _ rfl rfl _ w2 hc2 ?_))
  simp only [Act.put, List.setIfInBounds_toArray, List.set_cons_succ, List.set_cons_zero]
  refine wpIn_region_any (by kernel_rfl) ?_
  refine anyIn_store (w0 := w2) (valM k s c d B w2.heap.size) valM_mono [19, 20, 21, 22, 23, 24, 25, 26, 7] depM (by kernel_rfl) rfl (by decide) (by intro j hj; have : j < 9 := hj; simp [depM]; omega) (by kernel_rfl) ((Below.refl _ _).drew)
    (fun x U => ∃ g, x 8 = .pointer (some ⟨g, 0, none⟩) ∧ Below w.heap.size w U ∧ w.heap.size ≤ g ∧ Row U g 187 (bs B)) ?step ?last ?done
  case step =>
    intro x W i e hW hdi hdep
    match i, hdi, hdep with
    | 0, hdi, _ =>
      obtain rfl := Option.some.inj hdi
      exact OI_value rfl rfl (about_none (by intro c h; cases h)) (by intro c h; cases h) (.agg (bs k.b)) W (run_load_row 78 _ rfl w.heap.size (by kernel_rfl) _ _ 32 5 Tryz.underlying78 (by kernel_rfl) hkz W (RK.out.below hW RK.out.lt)) ⟨_, rfl, Below.refl _ _, rfl⟩
    | 1, hdi, _ =>
      obtain rfl := Option.some.inj hdi
      exact OI_value rfl rfl (about_none (by intro c h; cases h)) (by intro c h; cases h) (.slice s.a s.len s.cap) W (by kernel_rfl) ⟨_, rfl, Below.refl _ _, rfl⟩
    | 2, hdi, hdep =>
      obtain rfl := Option.some.inj hdi
      rw [updV_self (show x 1 = _ from hdep 1 (by simp [depM]))]
      exact OI_value rfl rfl (about_none (by intro c h; cases h)) (by intro c h; cases h) (.slice c.a c.len c.cap) W (run_sliceOp _ _ _ _ _ rfl _ _ _ _ (by kernel_rfl) (by kernel_rfl) (by kernel_rfl) (by kernel_rfl) _ W (HCU.out W)) ⟨_, rfl, Below.refl _ _, rfl⟩
    | 3, hdi, hdep =>
      obtain rfl := Option.some.inj hdi
      rw [updV_self (show x 2 = _ from hdep 2 (by simp [depM]))]
      refine OI_call rfl rfl (by intro c h; cases h) 123 #[.slice c.a c.len c.cap] (fun _ _ => trivial) (by kernel_rfl) (by decide) ?_
      refine (callsIn_wide.2 (countOf_any c W (HC.out.below hW) HCL.out)).mono ?_
      rintro e w' ⟨rfl, hw'⟩
      exact ⟨_, rfl, _, rfl, by rw [hw']; exact Below.refl _ _, rfl⟩
    | 4, hdi, _ =>
      obtain rfl := Option.some.inj hdi
      exact OI_value rfl rfl (about_none (by intro c h; cases h)) (by intro c h; cases h) (.slice s.a s.len s.cap) W (by kernel_rfl) ⟨_, rfl, Below.refl _ _, rfl⟩
    | 5, hdi, hdep =>
      obtain rfl := Option.some.inj hdi
      rw [updV_self (show x 4 = _ from hdep 4 (by simp [depM]))]
      exact OI_value rfl rfl (about_none (by intro c h; cases h)) (by intro c h; cases h) (.slice d.a d.len d.cap) W (run_sliceOp _ _ _ _ _ rfl _ _ _ _ (by kernel_rfl) (by kernel_rfl) (by kernel_rfl) (by kernel_rfl) _ W (HDU.out W)) ⟨_, rfl, Below.refl _ _, rfl⟩
    | 6, hdi, hdep =>
      obtain rfl := Option.some.inj hdi
      rw [updV_self (show x 5 = _ from hdep 5 (by simp [depM]))]
      refine OI_call rfl rfl (by intro c h; cases h) 74 #[.slice d.a d.len d.cap] (fun _ _ => trivial) (by kernel_rfl) (by decide) ?_
      refine (callsIn_wide.2 (nonceOf_any d W (HD.out.below hW) HDL.out)).mono ?_
      rintro e w' ⟨rfl, hb'⟩
      exact ⟨_, rfl, _, rfl, hb', rfl⟩
    | 7, hdi, hdep =>
      obtain rfl := Option.some.inj hdi
      have e0 : x 0 = .agg (bs k.b) := hdep 0 (by simp [depM])
      have e3 : x 3 = .int .u32 (u (countL c.b)) := hdep 3 (by simp [depM])
      have e6 : x 6 = .agg (bs d.b) := hdep 6 (by simp [depM])
      rw [updV_self e0, updV_self (show updV x 0 _ 3 = _ from e3), updV_self (show updV (updV x 0 _) 3 _ 6 = _ from e6)]
      refine OI_call rfl rfl (by intro c h; cases h) 120 #[.agg (bs k.b), .int .u32 (u (countL c.b)), .agg (bs d.b)] (fun _ _ => trivial) (by kernel_rfl) (by decide) ?_
      refine (callsIn_wide.2 (HBL.out W (HG.out.below hW (Nat.le_refl _)))).mono ?_
      rintro e w' ⟨rfl, hb'⟩
      exact ⟨_, rfl, _, rfl, hb', rfl⟩
    | 8, hdi, _ =>
      obtain rfl := Option.some.inj hdi
      refine OI_value rfl rfl (about_none (by intro c h; cases h)) (by intro c h; cases h) (.pointer (some ⟨W.heap.size, 0, none⟩)) (W.alloc (.cells (bs Z64) 187)) (exec_alloc_row 187 rfl (bs Z64) (by kernel_rfl)) ?_
      exact ⟨_, rfl, (Below.refl _ W).alloc (Nat.le_refl _) _, ⟨_, rfl, hW.size, Row.new _ _ _⟩⟩
    | _ + 9, hdi, _ => simp at hdi
  case last =>
    intro x U hU hx
    obtain ⟨g, e8, hgl, rU⟩ := hx 8 (by decide)
    have e7 : x 7 = .agg (bs B) := hx 7 (by decide)
    rw [updV_self e7, updV_self (show updV x 7 _ 8 = _ from e8)]
    refine OI_skip rfl rfl (about_none (by intro c h; cases h)) (by intro c h; cases h) (U.setRow g (bs B)) (run_store_row 187 _ _ rfl g (bs B) (by kernel_rfl) (by kernel_rfl) _ _ rU 64 (by kernel_rfl) (by rfl) HBZ.out (bs_one _)) ?_
    have hgw : w.heap.size ≤ g := Nat.le_trans HS2.out hgl
    exact ⟨by kernel_rfl, g, rfl, bSetRow (B2.out.trans (hU.mono HS2.out)) hgw _, hgw, rU.put _⟩
  case done =>
    rintro x U ⟨g, e8, bU, hgw, rU⟩
    simp only [putsV, Act.put, List.setIfInBounds_toArray, List.set_cons_succ, List.set_cons_zero, Nat.reduceAdd, e8]
    generalize x 0 = x0
    generalize x 1 = x1
    generalize x 2 = x2
    generalize x 3 = x3
    generalize x 4 = x4
    generalize x 5 = x5
    generalize x 6 = x6
    generalize x 7 = x7
    have RU := veil rU
    have BU := veil bU
    clear rU bU e8
    gi_wp2_with fail
    exact bodyPost_ret (v := .tuple #[.slice (some ⟨g, 0, none⟩) 5 5, .int .i64 0]) (by simp [results, Tryz.results78, go_sem]) rfl ⟨g, rfl, hgw, RU.out, BU.out⟩

end Go.Proofs.YtbheoldakmcppaaGreatDoor
